/-
  Joined: WSs5.
-/
import Derived.Test.YtpfgnhockfofhaaGreatH24
import Derived.Test.YtpfgnhockfofhaaGreatH29
import Derived.Test.YtpfgnhockfofhaaGreatH30
/-
  The document's shards in memory.
-/
namespace Go.Proofs.YtpfgnhockfofhaaGreat
open Go.RowKit

structure SyX (Gs : Nat → Nat → Prop) (w : World) (b hb ch : Nat) (hs : Nat → Nat) (aw : Option Addr) (cw : Nat) (S : Sd) : Prop where
  blk : w.heap[b]? = some (.cells #[.slice (some ⟨hb, 0, none⟩) S.n ch, .slice aw S.wy.length cw] 56 (0, 0))
  gb : Gs 10 b
  gh : Gs 10 hb
  row : w.ownsRow 0 60 1 (.slice (some ⟨hb, 0, none⟩) S.n ch) S.n (hsL hs S.n)
  wy : RowAt w 86 5 (.slice aw S.wy.length cw) S.wy.length (pkCells S.wy)
  gw : ∀ g, (Value.slice aw S.wy.length cw).ownBlock = some g → Gs 10 g
  ho : ∀ i, i < S.n → HyM (Gs i) w (hs i) (i + 1 : Nat) (S.ho i)
  dis : ∀ i j g, Gs i g → Gs j g → i = j
  lt : ∀ i g, Gs i g → g < w.heap.size
  n9 : S.n ≤ 9
def SyM (G : Nat → Prop) (w : World) (b : Nat) (S : Sd) : Prop := ∃ Gs hb ch hs aw cw, SyX Gs w b hb ch hs aw cw S ∧ ∀ i g, Gs i g → G g
theorem SyX.keptX {Gs : Nat → Nat → Prop} {X : Nat → Obj → Prop} {w w' : World} {b hb ch : Nat} {hs : Nat → Nat} {aw : Option Addr} {cw : Nat} {S : Sd} (x : SyX Gs w b hb ch hs aw cw S) (k : Kept X w w') (hX : ∀ i q o, Gs i q → ¬ X q o) : SyX Gs w' b hb ch hs aw cw S :=
  ⟨k.block _ _ x.blk (hX _ _ _ x.gb), x.gb, x.gh, own_keptG x.row k (fun g cs hg => by
    have e : hb = g := by simpa [Value.ownBlock] using hg
    rw [← e]; exact hX _ _ _ x.gh), x.wy.keptX k (fun g cs hg => hX _ _ _ (x.gw g hg)), x.gw, fun i hi => (x.ho i hi).keptX k (fun q o hq => hX i q o hq), x.dis, fun i g hg => Nat.lt_of_lt_of_le (x.lt i g hg) k.size, x.n9⟩
theorem SyX.kept {Gs : Nat → Nat → Prop} {w w' : World} {b hb ch : Nat} {hs : Nat → Nat} {aw : Option Addr} {cw : Nat} {S : Sd} (x : SyX Gs w b hb ch hs aw cw S) (k : Kept Nil w w') : SyX Gs w' b hb ch hs aw cw S := x.keptX k (fun _ _ _ _ e => e)
theorem SyM.keptX {G : Nat → Prop} {X : Nat → Obj → Prop} {w w' : World} {b : Nat} {S : Sd} (x : SyM G w b S) (k : Kept X w w') (hX : ∀ q o, G q → ¬ X q o) : SyM G w' b S := by
  obtain ⟨Gs, hb, ch, hs, aw, cw, x, hG⟩ := x
  exact ⟨Gs, hb, ch, hs, aw, cw, x.keptX k (fun i q o hq => hX q o (hG i q hq)), hG⟩
theorem SyM.up {G H : Nat → Prop} {w : World} {b : Nat} {S : Sd} (x : SyM G w b S) (k : ∀ g, G g → H g) : SyM H w b S := by
  obtain ⟨Gs, hb, ch, hs, aw, cw, x, hG⟩ := x
  exact ⟨Gs, hb, ch, hs, aw, cw, x, fun i g hg => k g (hG i g hg)⟩
theorem SyM.lt {G : Nat → Prop} {w : World} {b : Nat} {S : Sd} (x : SyM G w b S) : SyM (fun g => G g ∧ g < w.heap.size) w b S := by
  obtain ⟨Gs, hb, ch, hs, aw, cw, x, hG⟩ := x
  exact ⟨Gs, hb, ch, hs, aw, cw, x, fun i g hg => ⟨hG i g hg, x.lt i g hg⟩⟩
theorem SyX.host {Gs : Nat → Nat → Prop} {w w' : World} {b hb ch : Nat} {hs : Nat → Nat} {aw : Option Addr} {cw : Nat} {S : Sd} (x : SyX Gs w b hb ch hs aw cw S) {i : Nat} (hi : i < S.n) {h' : Hd} (y : HyM (GN (Gs i) w) w' (hs i) (i + 1 : Nat) h') (k : Kept (TG (Gs i)) w w') : SyX (famN Gs i w w') w' b hb ch hs aw cw (putH S i h') := by
  have h9 := x.n9
  have no : ∀ j, j ≠ i → ∀ q (o : Obj), Gs j q → ¬ TG (Gs i) q o := fun j hj q o hq e => hj (x.dis _ _ _ hq e)
  have up : ∀ j g, Gs j g → famN Gs i w w' j g := fun j g hg => famN_old hg (Nat.lt_of_lt_of_le (x.lt _ _ hg) k.size)
  refine ⟨k.block _ _ x.blk (no 10 (by omega) _ _ x.gb), up _ _ x.gb, up _ _ x.gh, own_keptG x.row k (fun g cs hg => ?_), x.wy.keptX k (fun g cs hg => no 10 (by omega) _ _ (x.gw g hg)), fun g hg => up _ _ (x.gw g hg), fun j hj => ?_, famN_dis x.dis x.lt, famN_lt x.lt k.size, x.n9⟩
  · have e : hb = g := by simpa [Value.ownBlock] using hg
    rw [← e]; exact no 10 (by omega) _ _ x.gh
  · show HyM _ _ _ _ (upd S.ho i h' j)
    by_cases e : j = i
    · subst e
      rw [upd_self]
      exact y.lt.up (fun g hg => famN_new hg.1 hg.2)
    · rw [upd_ne _ _ e]
      exact ((x.ho j hj).keptX k (fun q o hq => no j e q o hq)).up (fun g hg => up j g hg)
theorem SyX.way {Gs : Nat → Nat → Prop} {w w1 : World} {b hb ch : Nat} {hs : Nat → Nat} {aw : Option Addr} {cw : Nat} {S : Sd} (x : SyX Gs w b hb ch hs aw cw S) (k : Kept (TP aw S.wy.length cw) w w1) {a : Option Addr} {c : Nat} {ps : List Pk} (r : RowAt w1 86 5 (.slice a ps.length c) ps.length (pkCells ps)) (hg : ∀ g, (Value.slice a ps.length c).ownBlock = some g → GN (Gs 10) w g) :
    SyX (famN Gs 10 w w1) (w1.setCell ⟨b, 1, none⟩ (.slice a ps.length c)) b hb ch hs a c { S with wy := ps } ∧ Kept (TG (Gs 10)) w (w1.setCell ⟨b, 1, none⟩ (.slice a ps.length c)) := by
  have h9 := x.n9
  have hno : ∀ q t cs, t ≠ 86 → ¬ TP aw S.wy.length cw q (.cells cs t (0, 0)) := fun q t cs n e => by
    obtain ⟨_, _, e⟩ := e
    cases e
    exact n rfl
  have hb1 : w1.heap[b]? = some (.cells #[.slice (some ⟨hb, 0, none⟩) S.n ch, .slice aw S.wy.length cw] 56 (0, 0)) := k.block _ _ x.blk (hno _ _ _ (by decide))
  have kG : Kept (TG (Gs 10)) w (w1.setCell ⟨b, 1, none⟩ (.slice a ps.length c)) := (k.mono (fun q o e => x.gw q e.1) : Kept (TG (Gs 10)) w w1).setT (fun o _ => x.gb) _ _
  have hsz : (w1.setCell ⟨b, 1, none⟩ (.slice a ps.length c)).heap.size = w1.heap.size := by simp [World.setCell]
  have no : ∀ j, j ≠ 10 → ∀ q (o : Obj), Gs j q → ¬ TG (Gs 10) q o := fun j hj q o hq e => hj (x.dis _ _ _ hq e)
  have up : ∀ j g, Gs j g → famN Gs 10 w w1 j g := fun j g hg => famN_old hg (Nat.lt_of_lt_of_le (x.lt _ _ hg) k.size)
  refine ⟨⟨blk_set hb1 1 _, up _ _ x.gb, up _ _ x.gh, own_setTy hb1 (own_keptG x.row k (fun g cs hg => hno _ _ _ (by decide))) (by decide), ?_, fun g hg2 => famN_new (hg g hg2) (by have := r.lt hg2; exact this), fun j hj => ?_, famN_dis x.dis x.lt, fun j g hj => ?_, x.n9⟩, kG⟩
  · refine r.keptX (X := fun q o => q = b ∧ ∃ cs, o = .cells cs 56 (0, 0)) ((Kept.refl _ _).setT (fun o ho => ?_) _ _) (fun g cs _ e => ?_)
    · rw [hb1] at ho; cases ho; exact ⟨rfl, _, rfl⟩
    · obtain ⟨_, _, e⟩ := e; cases e
  · have hj9 : j < S.n := hj
    exact ((x.ho j hj).keptX kG (fun q o hq => no j (by omega) q o hq)).up (fun g hg => up j g hg)
  · rw [hsz]; exact famN_lt x.lt k.size j g hj
theorem SyX.at {Gs : Nat → Nat → Prop} {w : World} {b hb ch : Nat} {hs : Nat → Nat} {aw : Option Addr} {cw : Nat} {S : Sd} (x : SyX Gs w b hb ch hs aw cw S) {i : Nat} (hi : i < S.n) : w.cell? ⟨hb, i, none⟩ = some (.pointer (some ⟨hs i, 0, none⟩)) := by
  have h := x.row.cells (g := hb) rfl i (.pointer (some ⟨hs i, 0, none⟩)) (by unfold hsL; rw [List.getElem?_map, List.getElem?_range hi]; rfl)
  rwa [addr_addE] at h
theorem SyX.m {Gs : Nat → Nat → Prop} {w : World} {b hb ch : Nat} {hs : Nat → Nat} {aw : Option Addr} {cw : Nat} {S : Sd} (x : SyX Gs w b hb ch hs aw cw S) {G : Nat → Prop} (h : ∀ i g, Gs i g → G g) : SyM G w b S := ⟨Gs, hb, ch, hs, aw, cw, x, h⟩
def SyPost (Gs : Nat → Nat → Prop) (w : World) (b hb ch : Nat) (hs : Nat → Nat) (S' : Sd) (w' : World) : Prop := (∃ Gs' aw' cw', SyX Gs' w' b hb ch hs aw' cw' S' ∧ ∀ j g, Gs' j g → Gs j g ∨ w.heap.size ≤ g) ∧ Kept (fun q _ => ∃ j, Gs j q) w w'
theorem SyPost.ofWay {Gs : Nat → Nat → Prop} {w w1 w2 : World} {b hb ch : Nat} {hs : Nat → Nat} {aw : Option Addr} {cw : Nat} {S : Sd} {i : Nat} (x : SyX (famN Gs i w w1) w2 b hb ch hs aw cw S) (k : Kept (TG (Gs i)) w w2) : SyPost Gs w b hb ch hs S w2 :=
  ⟨⟨_, _, _, x, fun _ _ hg => famN_sub hg⟩, k.mono (fun _ _ e => ⟨i, e⟩)⟩
theorem SyPost.trans {Gs Gs1 : Nat → Nat → Prop} {w w1 w2 : World} {b hb ch : Nat} {hs : Nat → Nat} {S2 : Sd} (hsub : ∀ j g, Gs1 j g → Gs j g ∨ w.heap.size ≤ g) (k : Kept (fun q _ => ∃ j, Gs j q) w w1) (y : SyPost Gs1 w1 b hb ch hs S2 w2) : SyPost Gs w b hb ch hs S2 w2 := by
  obtain ⟨⟨Gs', aw', cw', x', h'⟩, k'⟩ := y
  refine ⟨⟨Gs', aw', cw', x', fun j g hg => ?_⟩, ⟨k'.os.trans k.os, k'.tape.trans k.tape, k'.output.trans k.output, Nat.le_trans k.size k'.size, fun q o ho hx => k'.block q o (k.block q o ho hx) (fun e => ?_)⟩⟩
  · rcases h' j g hg with h | h
    · exact hsub j g h
    · exact .inr (Nat.le_trans k.size h)
  · obtain ⟨j, e⟩ := e
    rcases hsub j q e with e | e
    · exact hx ⟨j, e⟩
    · have := lt_of_block ho; omega
theorem SyPost.m {Gs : Nat → Nat → Prop} {w w' : World} {b hb ch : Nat} {hs : Nat → Nat} {S' : Sd} (y : SyPost Gs w b hb ch hs S' w') {G : Nat → Prop} (hG : ∀ i g, Gs i g → G g) : SyM (GN G w) w' b S' ∧ Kept (TG G) w w' := by
  obtain ⟨⟨Gs', aw', cw', x', h'⟩, k'⟩ := y
  refine ⟨x'.m (fun i g hg => (h' i g hg).imp (hG i g) id), k'.mono (fun q _ e => ?_)⟩
  obtain ⟨j, e⟩ := e
  exact hG j q e
theorem SyX.more {Gs : Nat → Nat → Prop} {w w1 w6 : World} {b hb ch : Nat} {hs : Nat → Nat} {aw : Option Addr} {cw : Nat} {S : Sd} (x : SyX Gs w b hb ch hs aw cw S) (k1 : Kept Nil w w1) {ps : List Pk} {a6 : Option Addr} {c6 : Nat} (r6 : RowAt w6 86 5 (.slice a6 (S.wy.length + ps.length) c6) (S.wy.length + ps.length) (pkCells S.wy ++ pkCells ps)) (g6 : w1.grownBy w6 (Value.slice aw S.wy.length cw).ownBlock) (t6 : ∀ g, (Value.slice a6 (S.wy.length + ps.length) c6).ownBlock = some g → (Value.slice aw S.wy.length cw).ownBlock = some g ∨ w1.heap.size ≤ g) :
    SyPost Gs w b hb ch hs { S with wy := S.wy ++ ps } (w6.setCell ⟨b, 1, none⟩ (.slice a6 (S.wy.length + ps.length) c6)) := by
  have k6 : Kept (TP aw S.wy.length cw) w w6 := (k1.mono (fun _ _ e => e.elim)).grownT g6 (fun k hk o ho => ⟨hk, x.wy.tp hk ho⟩)
  have hl : (S.wy ++ ps).length = S.wy.length + ps.length := List.length_append
  obtain ⟨y, ky⟩ := x.way k6 (a := a6) (c := c6) (ps := S.wy ++ ps) (by rw [hl, pkCells_app]; exact r6) (fun g hg => by
    rw [hl] at hg
    rcases t6 g hg with h | h
    · exact .inl (x.gw g h)
    · exact .inr (Nat.le_trans k1.size h))
  rw [hl] at y ky
  exact SyPost.ofWay y ky
theorem SyPost.same {Gs : Nat → Nat → Prop} {w w' : World} {b hb ch cw : Nat} {hs : Nat → Nat} {aw : Option Addr} {S : Sd} (x : SyX Gs w b hb ch hs aw cw S) (k : Kept Nil w w') : SyPost Gs w b hb ch hs S w' := ⟨⟨Gs, aw, cw, x.kept k, fun _ _ hg => .inl hg⟩, k.mono (fun _ _ e => e.elim)⟩
theorem SyPost.done {Gs : Nat → Nat → Prop} {w W w6 w9 : World} {R b hb ch : Nat} {hs : Nat → Nat} {S' : Sd} (hG : ∀ i g, Gs i g → g < w.heap.size) (hK : Kept Nil w W) (hA : w.heap.size ≤ R) (hA2 : R < W.heap.size) (y : SyPost Gs W b hb ch hs S' w6) (k9 : Kept (One R) w6 w9) : SyPost Gs w b hb ch hs S' w9 := by
  obtain ⟨⟨Gs', aw', cw', x', h'⟩, k'⟩ := y
  refine ⟨⟨Gs', aw', cw', x'.keptX k9 (fun i q o hq e => ?_), fun j g hg => (h' j g hg).imp id (Nat.le_trans hK.size)⟩, ⟨(k9.os.trans k'.os).trans hK.os, (k9.tape.trans k'.tape).trans hK.tape, (k9.output.trans k'.output).trans hK.output, Nat.le_trans (Nat.le_trans hK.size k'.size) k9.size, fun q o ho hx => k9.block q o (k'.block q o (hK.block q o ho (fun e => e)) hx) (fun e => ?_)⟩⟩
  · have e : q = R := e
    rw [e] at hq
    rcases h' i R hq with h | h
    · have := hG i R h; omega
    · omega
  · have e : q = R := e
    have := lt_of_block ho
    omega
theorem SyPost.own {Gs : Nat → Nat → Prop} {w W w6 : World} {R b hb ch : Nat} {hs : Nat → Nat} {S' : Sd} {o : Obj} (hG : ∀ i g, Gs i g → g < w.heap.size) (hA : w.heap.size ≤ R) (y : SyPost Gs W b hb ch hs S' w6) (h : W.heap[R]? = some o) : w6.heap[R]? = some o := by
  obtain ⟨_, k'⟩ := y
  refine k'.block _ _ h (fun e => ?_)
  obtain ⟨j, e⟩ := e
  have := hG j R e
  omega
theorem SyX.called {Gs : Nat → Nat → Prop} {w w' : World} {b hb ch : Nat} {hs : Nat → Nat} {aw : Option Addr} {cw : Nat} {S : Sd} (x : SyX Gs w b hb ch hs aw cw S) {i : Nat} (hi : i < S.n) {h' : Hd} (y : HyM (GN (Gs i) w) w' (hs i) (i + 1 : Nat) h') (k : Kept (TG (Gs i)) w w') : SyPost Gs w b hb ch hs (putH S i h') w' := SyPost.ofWay (x.host hi y k) k
theorem SyPost.refl {Gs : Nat → Nat → Prop} {w : World} {b hb ch cw : Nat} {hs : Nat → Nat} {aw : Option Addr} {S : Sd} (x : SyX Gs w b hb ch hs aw cw S) : SyPost Gs w b hb ch hs S w := SyPost.same x (Kept.refl _ _)
structure NyX (Gs : Nat → Nat → Prop) (w0 w : World) (b : Nat) (ao : Option Addr) (ch : Nat) (hs : Nat → Nat) (n : Nat) : Prop where
  blk : w.heap[b]? = some (.cells #[.slice ao n ch, .slice none 0 0] 56 (0, 0))
  gb : Gs 10 b
  row : w.ownsRow 0 60 1 (.slice ao n ch) n (hsL hs n)
  gh : ∀ g, (Value.slice ao n ch).ownBlock = some g → Gs 10 g
  ho : ∀ i, i < n → HyM (Gs i) w (hs i) (i + 1 : Nat) hd0
  dis : ∀ i j g, Gs i g → Gs j g → i = j
  lt : ∀ i g, Gs i g → w0.heap.size ≤ g ∧ g < w.heap.size
  kw : Kept Nil w0 w
theorem NyX.next {Gs : Nat → Nat → Prop} {w0 w w1 w2 : World} {b b1 ch n : Nat} {ao a2 : Option Addr} {c2 : Nat} {hs : Nat → Nat} (x : NyX Gs w0 w b ao ch hs n) (hn : n ≤ 8) (y : HyM (fun g => w.heap.size ≤ g) w1 b1 (n + 1 : Nat) hd0) (k : Kept Nil w w1) {o : Obj} (r : w2.ownsRow 0 60 1 (.slice a2 (n + 1) c2) (n + 1) (hsL hs n ++ [.pointer (some ⟨b1, 0, none⟩)])) (g : (w1.alloc o).grownBy w2 (Value.slice ao n ch).ownBlock) (t : ∀ g, (Value.slice a2 (n + 1) c2).ownBlock = some g → (Value.slice ao n ch).ownBlock = some g ∨ w1.heap.size ≤ g) :
    ∃ Gs', NyX Gs' w0 (w2.setCell ⟨b, 0, none⟩ (.slice a2 (n + 1) c2)) b a2 c2 (upd hs n b1) (n + 1) := by
  have hos : ∀ q, (Value.slice ao n ch).ownBlock = some q → ∃ cs, w.heap[q]? = some (.cells cs 60 (0, 0)) := fun q hq => by
    rcases x.row.2 with ⟨e, _⟩ | ⟨g', cap, cur, e, _, h2, _⟩
    · rw [e] at hq; simp [Value.ownBlock] at hq
    · rw [e] at hq
      have e2 : g' = q := by simpa [Value.ownBlock] using hq
      subst e2
      exact ⟨_, h2⟩
  have ka : Kept Nil w1 (w1.alloc o) := (Kept.refl _ _).alloc _
  have k1 : Kept (fun q (_ : Obj) => (Value.slice ao n ch).ownBlock = some q) w w2 := ((k.trans ka).mono (fun _ _ e => e.elim)).grownT g (fun q hq _ _ => hq)
  have hb2 : w2.heap[b]? = some (.cells #[.slice ao n ch, .slice none 0 0] 56 (0, 0)) := k1.block _ _ x.blk (fun e => by
    obtain ⟨cs, h⟩ := hos b e
    rw [x.blk] at h
    cases h)
  have hbW : b < w.heap.size := lt_of_block x.blk
  have k12 : Kept (fun q (_ : Obj) => (Value.slice ao n ch).ownBlock = some q) w1 w2 := (ka.mono (fun _ _ e => e.elim)).grownT g (fun q hq _ _ => hq)
  obtain ⟨V, hV⟩ : ∃ V, V = w2.setCell ⟨b, 0, none⟩ (.slice a2 (n + 1) c2) := ⟨_, rfl⟩
  have kb : Kept (One b) w2 V := by rw [hV]; exact (Kept.refl _ _).setT (fun _ _ => rfl) _ _
  have k2V : Kept (fun q (_ : Obj) => (Value.slice ao n ch).ownBlock = some q ∨ q = b) w V := (k1.mono (fun _ _ e => .inl e)).trans (kb.mono (fun _ _ e => .inr e))
  have k1V : Kept (fun q (_ : Obj) => (Value.slice ao n ch).ownBlock = some q ∨ q = b) w1 V := (k12.mono (fun _ _ e => .inl e)).trans (kb.mono (fun _ _ e => .inr e))
  have hsz : w1.heap.size ≤ V.heap.size := k1V.size
  have h10 : ∀ q, ((Value.slice ao n ch).ownBlock = some q ∨ q = b) → Gs 10 q := fun q e => by
    rcases e with e | rfl
    · exact x.gh q e
    · exact x.gb
  refine ⟨fun j q => if j = n then w.heap.size ≤ q ∧ q < w1.heap.size else if j = 10 then (Gs 10 q ∨ w1.heap.size ≤ q) ∧ q < V.heap.size else Gs j q ∧ j < n, ?_⟩
  rw [← hV]
  refine ⟨by rw [hV]; exact blk_set hb2 0 _, ?_, ?_, fun q hq => ?_, fun j hj => ?_, fun i j q h1 h2 => ?_, fun i q h1 => ?_, ⟨(k2V.os.trans x.kw.os), (k2V.tape.trans x.kw.tape), (k2V.output.trans x.kw.output), Nat.le_trans x.kw.size k2V.size, fun q o' ho _ => k2V.block q o' (x.kw.block q o' ho (fun e => e)) (fun e => by have h1 := (x.lt 10 q (h10 q e)).1; have := lt_of_block ho; omega)⟩⟩
  · show if (10 : Nat) = n then _ else _
    rw [if_neg (by omega), if_pos rfl]
    exact ⟨.inl x.gb, Nat.lt_of_lt_of_le hbW (Nat.le_trans k.size hsz)⟩
  · rw [hsL_next, hV]
    exact own_setTy hb2 r (by decide)
  · show if (10 : Nat) = n then _ else _
    rw [if_neg (by omega), if_pos rfl]
    have hl := (World.ownsRow.lt r q hq).2
    refine ⟨?_, Nat.lt_of_lt_of_le hl kb.size⟩
    rcases t q hq with e | e
    · exact .inl (x.gh q e)
    · exact .inr e
  · show HyM (fun q => if j = n then _ else _) _ (upd hs n b1 j) _ _
    by_cases e : j = n
    · subst e
      rw [upd_self]
      have y2 : HyM (fun q => w.heap.size ≤ q ∧ q < w1.heap.size) w1 b1 (j + 1 : Nat) hd0 := y.lt
      refine (y2.keptX k1V (fun q o' hq e => ?_)).up (fun q hq => by rw [if_pos rfl]; exact hq)
      have := (x.lt 10 q (h10 q e)).2
      omega
    · rw [upd_ne _ _ e]
      have hj2 : j < n := by omega
      refine ((x.ho j hj2).keptX k2V (fun q o' hq e2 => ?_)).up (fun q hq => by rw [if_neg e, if_neg (by omega)]; exact ⟨hq, hj2⟩)
      have := x.dis j 10 q hq (h10 q e2)
      omega
  · split at h1
    · rename_i e1
      split at h2
      · rename_i e2; rw [e1, e2]
      · split at h2
        · rcases h2.1 with h | h
          · have := (x.lt _ _ h).2; omega
          · omega
        · have := (x.lt _ _ h2.1).2; omega
    · split at h1
      · rename_i e1
        split at h2
        · rcases h1.1 with h | h
          · have := (x.lt _ _ h).2; omega
          · omega
        · split at h2
          · rename_i e2; rw [e1, e2]
          · rcases h1.1 with h | h
            · rw [e1]; exact x.dis _ _ _ h h2.1
            · have := (x.lt _ _ h2.1).2; have := k.size; omega
      · split at h2
        · have := (x.lt _ _ h1.1).2; omega
        · split at h2
          · rename_i e2
            rcases h2.1 with h | h
            · rw [e2]; exact x.dis _ _ _ h1.1 h
            · have := (x.lt _ _ h1.1).2; have := k.size; omega
          · exact x.dis _ _ _ h1.1 h2.1
  · split at h1
    · exact ⟨Nat.le_trans x.kw.size h1.1, Nat.lt_of_lt_of_le h1.2 hsz⟩
    · split at h1
      · refine ⟨?_, h1.2⟩
        rcases h1.1 with h | h
        · exact (x.lt _ _ h).1
        · exact Nat.le_trans (Nat.le_trans x.kw.size k.size) h
      · have h3 := x.lt _ _ h1.1
        exact ⟨h3.1, Nat.lt_of_lt_of_le h3.2 (Nat.le_trans k.size hsz)⟩
theorem NyX.done {Gs : Nat → Nat → Prop} {w0 w : World} {b ch n : Nat} {ao : Option Addr} {hs : Nat → Nat} (x : NyX Gs w0 w b ao ch hs n) (h1 : 1 ≤ n) (h9 : n ≤ 9) : ∃ hb, SyX Gs w b hb ch hs none 0 (sd0 n) := by
  obtain ⟨hb, rfl⟩ : ∃ hb, ao = some ⟨hb, 0, none⟩ := by
    rcases x.row.2 with ⟨e, h⟩ | ⟨g', cap, cur, e, _⟩
    · omega
    · simp only [Value.slice.injEq] at e
      exact ⟨g', e.1⟩
  exact ⟨hb, ⟨x.blk, x.gb, x.gh hb rfl, x.row, RowAt.nil _ _ _, fun g hg => by simp [Value.ownBlock] at hg, x.ho, x.dis, fun i g hg => (x.lt i g hg).2, h9⟩⟩
end Go.Proofs.YtpfgnhockfofhaaGreat
