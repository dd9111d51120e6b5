/-
  Relays: Send as one contract, what both relays keep, how great their numbers grow.
-/
import Derived.Test.YtmlncfnnldplgaaWRx2
import Derived.Test.YtmlncfnnldplgaaWRl4
namespace Go.Proofs.Ytmlncfnnldplgaa
open Go.RowKit

theorem Kept.typ {X Y : Nat → Obj → Prop} {w w' : World} (h : Kept X w w') (hy : ∀ q o, w.heap[q]? = some o → X q o → Y q o) : Kept Y w w' := ⟨h.os, h.tape, h.output, h.size, fun k o ho hx => h.block k o ho (fun x => hx (hy k o ho x))⟩
/-- Packets' blocks of a kind. -/
def TP (Q : Nat → Prop) : Nat → Obj → Prop := fun q o => Q q ∧ ∃ cs, o = .cells cs 34 (0, 0)
theorem AnyPk.typed {B c n : Nat} {w w' : World} {ao : Option Addr} (h : AnyPk B w ao c n) (k : Kept (fun q _ => (Value.slice ao n c).ownBlock = some q) w w') : Kept (TP fun q => B ≤ q ∧ q < w.heap.size) w w' := by
  refine k.typ fun q o ho hq => ?_
  obtain ⟨xs, _, h | ⟨g, cap, cur, hv, hB, hb, _⟩⟩ := h
  · rw [h.1] at hq; simp [Value.ownBlock] at hq
  · rw [hv] at hq
    have e : g = q := by simpa [Value.ownBlock] using hq
    subst e
    rw [hb] at ho
    cases ho
    exact ⟨⟨hB, lt_of_block hb⟩, _, rfl⟩
theorem Rl.keptX {X : Nat → Obj → Prop} {B b : Nat} {w w' : World} {id : Int} {os : Nat → Oh} {ao : Nat → Option Addr} {cs : Nat → Nat} (h : Rl B w b id os ao cs) (k : Kept X w w') (hX : ∀ cs, ¬ X b (.cells cs 90 (0, 0))) (hs : ∀ q cs, ¬ X q (.cells cs 9 (0, 0))) : Rl B w' b id os ao cs := by
  obtain ⟨cells, hc⟩ := h.cl
  refine ⟨⟨cells, k.block _ _ hc.blk (hX _), hc.sz, hc.c0, hc.ca, hc.cw, hc.cc⟩, fun j hj => ?_, h.far⟩
  refine ⟨(h.rows j hj).1, (h.rows j hj).2.imp (fun x => x) ?_⟩
  rintro ⟨g, cap, cur, h1, h2, h3, h4⟩
  exact ⟨g, cap, cur, h1, h2, k.block _ _ h3 (hs _ _), h4⟩
theorem Rl.keptY {B b d : Nat} {w w' : World} {id : Int} {os : Nat → Oh} {ao : Nat → Option Addr} {cs : Nat → Nat} (h : Rl B w b id os ao cs) (k : Kept (TY d) w w') : Rl B w' b id os ao cs :=
  h.keptX k (fun _ ⟨_, _, e⟩ => by simp at e) (fun _ _ ⟨_, _, e⟩ => by simp at e)
theorem Rl.keptP {B b : Nat} {Q : Nat → Prop} {w w' : World} {id : Int} {os : Nat → Oh} {ao : Nat → Option Addr} {cs : Nat → Nat} (h : Rl B w b id os ao cs) (k : Kept (TP Q) w w') : Rl B w' b id os ao cs :=
  h.keptX k (fun _ ⟨_, _, e⟩ => by simp at e) (fun _ _ ⟨_, _, e⟩ => by simp at e)
theorem Ry.keptT {G : Nat → Prop} {B b d : Nat} {w w' : World} {id : Int} {os : Nat → Oh} {ay : Nat → Option Addr} {cy : Nat → Nat} (h : Ry G w b id os ay cy) (k : Kept (TX B d) w w') : Ry G w' b id os ay cy :=
  h.keptX k (fun _ x => by rcases x with ⟨_, _, e⟩ | ⟨_, _, e⟩ <;> simp at e) (fun _ _ _ x => by rcases x with ⟨_, _, e⟩ | ⟨_, _, e⟩ <;> simp at e)
theorem Ry.keptP {G Q : Nat → Prop} {b : Nat} {w w' : World} {id : Int} {os : Nat → Oh} {ay : Nat → Option Addr} {cy : Nat → Nat} (h : Ry G w b id os ay cy) (k : Kept (TP Q) w w') (hQ : ∀ g, G g → ¬ Q g) : Ry G w' b id os ay cy :=
  h.keptX k (fun _ ⟨_, _, e⟩ => by simp at e) (fun q _ hg ⟨hq, _⟩ => hQ q hg hq)
theorem Ry.lt {G : Nat → Prop} {b : Nat} {w : World} {id : Int} {os : Nat → Oh} {ay : Nat → Option Addr} {cy : Nat → Nat} (h : Ry G w b id os ay cy) : Ry (fun g => g < w.heap.size) w b id os ay cy :=
  ⟨h.cl, h.rows, fun k hk g hg => by
    have r := h.rows k hk
    unfold OwnPk at r
    rw [pksO_len] at r
    exact (World.ownsRow.lt r g hg).2⟩

/-- What Send answers, and what it leaves. -/
def sndK (id : Int) (os : Nat → Oh) (dst : Int) : Int := if isOth id dst = true then (if (os dst.toNat).wt.length < 16 then 0 else 4) else 13
def sndS (id : Int) (os : Nat → Oh) (dst : Int) (body : List UInt8) : Nat → Oh := if isOth id dst = true then (if (os dst.toNat).wt.length < 16 then upd os dst.toNat (sendO (os dst.toNat) body) else os) else os
theorem isOth_nat {id dst : Int} (h : isOth id dst = true) : ∃ k : Nat, k < 10 ∧ dst = (k : Int) := by
  unfold isOth isNd at h
  simp only [Bool.and_eq_true, decide_eq_true_eq] at h
  exact ⟨dst.toNat, by omega, by omega⟩
/-- How great the numbers may be. -/
def Sm (n : Nat) (os : Nat → Oh) : Prop := ∀ k, k < 10 → (os k).wt.length ≤ 16 ∧ (os k).ak + (os k).wt.length ≤ n ∧ (os k).cm ≤ n
theorem Sm.fits {n : Nat} {os : Nat → Oh} (h : Sm n os) (hn : n ≤ 9000000000000000000) : ∀ k, k < 10 → (os k).wt.length ≤ 16 ∧ (os k).ak ≤ 9000000000000000000 ∧ (os k).cm ≤ 9000000000000000000 := fun k hk => by
  have := h k hk
  exact ⟨this.1, by omega, by omega⟩
theorem Sm.start : Sm 0 (fun _ => oh0) := fun k _ => by unfold oh0; simp
theorem Sm.mono {n m : Nat} {os : Nat → Oh} (h : Sm n os) (hm : n ≤ m) : Sm m os := fun k hk => by
  have := h k hk
  exact ⟨this.1, by omega, by omega⟩
theorem Sm.put {n : Nat} {os : Nat → Oh} (h : Sm n os) {k : Nat} {o : Oh} (ho : o.wt.length ≤ 16 ∧ o.ak + o.wt.length ≤ n + 1 ∧ o.cm ≤ n + 1) : Sm (n + 1) (upd os k o) := fun j hj => by
  by_cases e : j = k
  · subst e; rw [upd_self]; exact ho
  · rw [upd_ne _ _ e]; exact (h.mono (Nat.le_succ n)) j hj
theorem Sm.send {n : Nat} {os : Nat → Oh} (h : Sm n os) (id dst : Int) (body : List UInt8) : Sm (n + 1) (sndS id os dst body) := by
  unfold sndS
  by_cases h1 : isOth id dst = true
  · rw [if_pos h1]
    obtain ⟨k, hk, rfl⟩ := isOth_nat h1
    have e : ((k : Int)).toNat = k := by omega
    rw [e]
    have hh := h k hk
    by_cases h2 : (os k).wt.length < 16
    · rw [if_pos h2]
      refine h.put ?_
      unfold sendO
      simp only [List.length_append, List.length_cons, List.length_nil]
      omega
    · rw [if_neg h2]; exact h.mono (Nat.le_succ n)
  · rw [if_neg h1]; exact h.mono (Nat.le_succ n)
theorem Sm.rcv {n : Nat} {os : Nat → Oh} (h : Sm n os) (id : Int) (p : Pk) : Sm (n + 1) (if goodP id p = true then upd os p.fr.toNat (rcvO (os p.fr.toNat) p) else os) := by
  by_cases hg : goodP id p = true
  · rw [if_pos hg]
    unfold goodP isOth isNd at hg
    simp only [Bool.and_eq_true, decide_eq_true_eq] at hg
    have hk : p.fr.toNat < 10 := by omega
    have hh := h _ hk
    refine h.put ?_
    unfold rcvO
    by_cases ha : p.ak = true
    · rw [if_pos ha]
      have hs := ack_sent (os p.fr.toNat) p.nu (by omega)
      unfold ackO at hs ⊢
      by_cases hx : p.nu - (os p.fr.toNat).ak < 1 ∨ p.nu - (os p.fr.toNat).ak > (os p.fr.toNat).wt.length
      · rw [if_pos hx]; omega
      · rw [if_neg hx] at hs ⊢
        refine ⟨?_, by rw [hs.1]; omega, by rw [hs.2]; omega⟩
        simp only [List.length_drop]
        omega
    · rw [if_neg ha]
      by_cases hx : p.nu = (os p.fr.toNat).cm + 1
      · rw [if_pos hx]; exact ⟨hh.1, by show (os p.fr.toNat).ak + (os p.fr.toNat).wt.length ≤ n + 1; omega, by show (os p.fr.toNat).cm + 1 ≤ n + 1; omega⟩
      · rw [if_neg hx]; omega
  · rw [if_neg hg]; exact h.mono (Nat.le_succ n)
theorem sendX_all (B b n : Nat) (id dst : Int) (body : List UInt8) (os : Nat → Oh) (ao : Nat → Option Addr) (cs : Nat → Nat) (w : World) (h : Rl B w b id os ao cs) (hB : B ≤ w.heap.size) (hs : Sm n os) :
    Calls Try.prog 7 #[.pointer (some ⟨b, 0, none⟩), .int .i64 dst, .string (bs body)] w fun e w' => e = .returned (.int .i64 (sndK id os dst)) ∧ (∃ ao' cs', Rl B w' b id (sndS id os dst body) ao' cs') ∧ Kept (TX B b) w w' := by
  unfold sndK sndS
  by_cases h1 : isOth id dst = true
  · rw [if_pos h1, if_pos h1]
    obtain ⟨k, hk, rfl⟩ := isOth_nat h1
    have e : ((k : Int)).toNat = k := by omega
    rw [e]
    by_cases h2 : (os k).wt.length < 16
    · rw [if_pos h2, if_pos h2]
      exact (send_yes B b k id body os ao cs w h hB hk h1 h2).mono fun e w' ⟨x, ⟨a, c, y⟩, z⟩ => ⟨x, ⟨_, _, y⟩, z⟩
    · rw [if_neg h2, if_neg h2]
      exact (send_full B b k id body os ao cs w h hk h1 (by have := (hs k hk).1; omega)).mono fun e w' ⟨x, y⟩ => ⟨x, ⟨ao, cs, by rw [y]; exact h⟩, by rw [y]; exact Kept.refl _ _⟩
  · rw [if_neg h1, if_neg h1]
    exact (send_no B b id dst body os ao cs w h (by simpa using h1)).mono fun e w' ⟨x, y⟩ => ⟨x, ⟨ao, cs, by rw [y]; exact h⟩, by rw [y]; exact Kept.refl _ _⟩
theorem sendY_all (G : Nat → Prop) (b n : Nat) (id dst : Int) (body : List UInt8) (os : Nat → Oh) (ay : Nat → Option Addr) (cy : Nat → Nat) (w : World) (h : Ry G w b id os ay cy) (hs : Sm n os) (hn : n ≤ 9000000000000000000) :
    Calls Try.prog 10 #[.pointer (some ⟨b, 0, none⟩), .int .i64 dst, .string (bs body)] w fun e w' => e = .returned (.int .i64 (sndK id os dst)) ∧ (∃ ay' cy', Ry (fun g => G g ∨ w.heap.size ≤ g) w' b id (sndS id os dst body) ay' cy') ∧ Kept (TY b) w w' := by
  unfold sndK sndS
  by_cases h1 : isOth id dst = true
  · rw [if_pos h1, if_pos h1]
    obtain ⟨k, hk, rfl⟩ := isOth_nat h1
    have e : ((k : Int)).toNat = k := by omega
    rw [e]
    by_cases h2 : (os k).wt.length < 16
    · rw [if_pos h2, if_pos h2]
      exact (sendY_yes G b k id body os ay cy w h hk h1 h2 (by have := (hs k hk).2.1; omega)).mono fun e w' ⟨x, ⟨a, c, y⟩, z⟩ => ⟨x, ⟨_, _, y⟩, z⟩
    · rw [if_neg h2, if_neg h2]
      exact (sendY_full G b k id body os ay cy w h hk h1 (by have := (hs k hk).1; omega)).mono fun e w' ⟨x, y⟩ => ⟨x, ⟨ay, cy, by rw [y]; exact h.up (fun _ x => .inl x)⟩, by rw [y]; exact Kept.refl _ _⟩
  · rw [if_neg h1, if_neg h1]
    exact (sendY_no G b id dst body os ay cy w h (by simpa using h1)).mono fun e w' ⟨x, y⟩ => ⟨x, ⟨ay, cy, by rw [y]; exact h.up (fun _ x => .inl x)⟩, by rw [y]; exact Kept.refl _ _⟩
end Go.Proofs.Ytmlncfnnldplgaa
