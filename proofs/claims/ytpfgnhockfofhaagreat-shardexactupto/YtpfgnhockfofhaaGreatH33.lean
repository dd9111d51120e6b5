/-
  Joined: WSsA.
-/
import Derived.Test.YtpfgnhockfofhaaGreatH31
import Derived.Test.YtpfgnhockfofhaaGreatH32
import Derived.Test.YtpfgnhockfofhaaGreatH28
/-
  The document's shards: what is on its way is moved.
-/
namespace Go.Proofs.YtpfgnhockfofhaaGreat
open Go.RowKit

theorem own_ty {w : World} {B s n : Nat} {t : TypeId} {V : Value} {cs : List Value} (h : w.ownsRow B t s V n cs) (g : Nat) (hg : V.ownBlock = some g) : ∃ cur, w.heap[g]? = some (.cells cur t (0, 0)) := by
  rcases h.2 with ⟨e, _⟩ | ⟨g', cap, cur, e, _, h2, _⟩
  · rw [e] at hg; simp [Value.ownBlock] at hg
  · rw [e] at hg
    have e2 : g' = g := by simpa [Value.ownBlock] using hg
    subst e2
    exact ⟨_, h2⟩
theorem HyX.apart {G P : Nat → Prop} {w : World} {b rb : Nat} {id : Int} {ay : Nat → Option Addr} {cy : Nat → Nat} {ai : Option Addr} {ci gk ck : Nat} {h : Hd} (x : HyX G w b rb id ay cy ai ci gk ck h) (hP : ∀ g, P g → ∃ cs, w.heap[g]? = some (.cells cs 104 (0, 0))) : HyX (fun g => G g ∧ ¬ P g) w b rb id ay cy ai ci gk ck h := by
  have no : ∀ g t cs, w.heap[g]? = some (.cells cs t (0, 0)) → t ≠ 104 → ¬ P g := fun g t cs h n e => by
    obtain ⟨_, h2⟩ := hP g e
    rw [h] at h2
    cases h2
    exact n rfl
  refine ⟨x.ho, ⟨x.gb, no _ _ _ x.ho (by decide)⟩, ⟨x.gr, ?_⟩, ⟨x.rl.cl, x.rl.rows, fun k hk g hg => ⟨x.rl.good k hk g hg, ?_⟩⟩, x.it, fun g hg => ⟨x.gi g hg, ?_⟩, x.kb, ⟨x.gk, ?_⟩⟩
  · obtain ⟨_, hc⟩ := x.rl.cl
    exact no _ _ _ hc.blk (by decide)
  · obtain ⟨cur, h⟩ := own_ty (x.rl.rows k hk) g (by rw [pksO_len]; exact hg)
    exact no _ _ _ h (by decide)
  · obtain ⟨cur, h⟩ := own_ty x.it g hg
    exact no _ _ _ h (by decide)
  · obtain ⟨cur, h⟩ := own_ty x.kb gk rfl
    exact no _ _ _ h (by decide)
theorem src_none {B c : Nat} {w : World} {a : Option Addr} (h : OwnPk B w a c []) (wr : World) : Src Tryz.prog 5 44 (.slice a 0 c) 0 [] wr := by
  rcases h.2 with ⟨e, _⟩ | ⟨g', cap, cur, e, _⟩
  · have e1 : (Value.slice a 0 c) = .slice none 0 0 := e
    rw [e1]
    exact (show OwnPk 0 wr none 0 [] from World.ownsRow_nil _ _ _ _).src
  · have e1 : (Value.slice a 0 c) = .slice (some ⟨g', 0, none⟩) 0 cap := e
    rw [e1]
    exact Src.ofSlice _ Tryz.underlying44 ⟨g', 0, .none⟩ 0 cap _ rfl (fun j u hj => by simp at hj) (fun u hu => by cases hu)
structure RcvZ (G G' : Nat → Prop) (w w' : World) (b : Nat) (id : Int) (h1 : Hd) (coms : List Pc) (acks : List Pk) (a1 : Option Addr) (c1 : Nat) (a2 : Option Addr) (c2 : Nat) : Prop where
  pc : OwnPc w.heap.size w' a1 c1 coms
  ho : HyM G' w' b id h1
  kw : Kept (TG G) w w'
  sub : ∀ g, G' g → GN G w g
  no : ∀ g, (Value.slice a1 coms.length c1).ownBlock = some g → ¬ G' g
  src : ∀ wr, Kept (TG (GN G' w')) w' wr → Src Tryz.prog 5 44 (.slice a2 acks.length c2) acks.length (pkCells acks) wr
/-- A relay receives a packet. -/
theorem recvY_any (K : List (List UInt8)) (M n : Nat) (G : Nat → Prop) (b rb ci gk ck : Nat) (id : Int) (ay : Nat → Option Addr) (cy : Nat → Nat) (ai : Option Addr) (h : Hd) (p : Pk) (w : World) (x : HyX G w b rb id ay cy ai ci gk ck h) (ok : OkH K M h) (_op : OkP K M n p) (hG : ∀ g, G g → g < w.heap.size) (hM : M ≤ 1900000) :
    Calls Tryz.prog 43 #[.pointer (some ⟨rb, 0, none⟩), pkV p] w fun e w' => ∃ G' a1 c1 a2 c2, e = .returned (.tuple #[.slice a1 (cmsH id p h).length c1, .slice a2 (aksH id p h).length c2]) ∧ RcvZ G G' w w' b id (rcvH id p h) (cmsH id p h) (aksH id p h) a1 c1 a2 c2 := by
  refine (receiveY_any G rb id h.os ay cy p w x.rl (fun k hk => by obtain ⟨h1, h2, h3⟩ := ok.nu k hk; exact ⟨h2, by omega, by omega⟩)).mono ?_
  intro e w' hr
  obtain ⟨a1, c1, a2, c2, he, o1, o2⟩ := hr.res
  obtain ⟨ay', cy', r, r2⟩ := hr.st
  have o1' : OwnPc w.heap.size w' a1 c1 (cmsH id p h) := o1
  have o2' : OwnPk w.heap.size w' a2 c2 (aksH id p h) := o2
  have hh := x.relay r hr.kw
  by_cases ha : aksH id p h = []
  · refine ⟨fun g => GN G w g ∧ ¬ (Value.slice a1 (cmsH id p h).length c1).ownBlock = some g, a1, c1, a2, c2, he, o1', (hh.1.apart (fun g hg => own_ty o1' g hg)).m, hh.2, fun g hg => hg.1, fun g hg e => e.2 hg, fun wr _ => ?_⟩
    rw [ha] at o2' ⊢
    exact src_none o2' wr
  · have hno : ∀ q t cs, t ≠ 98 → ¬ TY rb q (.cells cs t (0, 0)) := fun q t cs n e => by
      obtain ⟨_, _, e⟩ := e
      cases e
      exact n rfl
    have y : HyX G w' b rb id ay' cy' ai ci gk ck (rcvH id p h) := ⟨hr.kw.block _ _ x.ho (hno _ _ _ (by decide)), x.gb, x.gr, r2 ha, own_keptG x.it hr.kw (fun g _ _ => hno _ _ _ (by decide)), x.gi, own_keptG x.kb hr.kw (fun g _ _ => hno _ _ _ (by decide)), x.gk⟩
    refine ⟨G, a1, c1, a2, c2, he, o1', y.m, hh.2, fun g hg => .inl hg, fun g hg e => ?_, fun wr hk => ?_⟩
    · have h1 := (World.ownsRow.lt o1' g hg).1
      have := hG g e
      omega
    · refine (show OwnPk w.heap.size wr a2 c2 (aksH id p h) from own_keptG o2' hk (fun g _ hg e => ?_)).src
      have h1 := World.ownsRow.lt o2' g hg
      rcases e with e | e
      · have := hG g e; omega
      · omega
theorem SyX.dropped {Gs : Nat → Nat → Prop} {w w7 : World} {b hb ch : Nat} {hs : Nat → Nat} {aw : Option Addr} {cw k r : Nat} {S : Sd} (x : SyX Gs w b hb ch hs aw cw S) (hk : k < S.wy.length) (k7 : Kept Nil w w7) (hr : k + r = S.wy.length - 1) {a7 : Option Addr} {c7 : Nat} (o : w7.ownsRow w.heap.size 86 5 (.slice a7 (k + r) c7) (k + r) (pkCells (S.wy.take k) ++ pkCells (S.wy.drop (k + 1)))) :
    SyX (famN Gs 10 w w7) (w7.setCell ⟨b, 1, none⟩ (.slice a7 (k + r) c7)) b hb ch hs a7 c7 (dropW k S) ∧ Kept (TG (Gs 10)) w (w7.setCell ⟨b, 1, none⟩ (.slice a7 (k + r) c7)) := by
  have hl := off_len hk
  have h := x.way (k7.mono (fun _ _ e => e.elim)) (a := a7) (c := c7) (ps := S.wy.take k ++ S.wy.drop (k + 1)) (by rw [hl, ← hr, pkCells_app]; exact rowG o) (fun g hg => by
    rw [hl, ← hr] at hg
    exact .inr (World.ownsRow.lt o g hg).1)
  rw [hl, ← hr] at h
  exact h
theorem mod_mod (n : Int) (m : Nat) (hm : 0 < m) : 0 ≤ n.tmod m + m ∧ n.tmod m + m < 2 * m ∧ (n.tmod m + m).tmod m = (atW n m : Int) := by
  obtain ⟨h1, h2⟩ := round_mod n m hm
  have hlt := atW_lt n hm
  have hb1 : n.tmod m < m := Int.tmod_lt_of_pos n (by omega)
  have hb2 : -(m : Int) < n.tmod m := by
    have := Int.tmod_lt_of_pos (-n) (show (0 : Int) < m by omega)
    rw [Int.neg_tmod] at this
    omega
  refine ⟨by omega, by omega, ?_⟩
  by_cases h : n.tmod m < 0
  · rw [h1 h, Int.tmod_eq_of_lt (by omega) (by omega)]
  · rw [← h2 h] 
    generalize n.tmod m = q at *
    rw [Int.tmod_eq_emod_of_nonneg (by omega), Int.add_emod_right, Int.emod_eq_of_lt (by omega) (by omega)]
end Go.Proofs.YtpfgnhockfofhaaGreat
