/-
  Joined: WTorn2, WShP, WShU, WSh8.
-/
import Derived.Test.YtpfgnhockfofhaaGreatH04
import Derived.Laws.IdiomStrings
import Derived.Test.YtpfgnhockfofhaaGreatH15
import Derived.Shelf.Strings.Builder1
import Derived.Shelf.Small.Strs
import Derived.Shelf.Strings.BuilderF
import Derived.Shelf.Strings.BuilderK
import Derived.Ground.Names2Prog
import Derived.Shelf.Slices.Delete
import Derived.Shelf.Slices.Cells
import Derived.Shelf.Slices.Empties
import Derived.Test.YtpfgnhockfofhaaGreatProg
import Derived.Laws.Externs
/-
  Frames one behind the other, cut anywhere; a frame of which bytes are turned; one of n by any number (pick).
-/
namespace Go.Proofs.YtpfgnhockfofhaaGreat
open Go.RowKit

/-! ### frames one behind the other -/
theorem encFrame_max {s : List UInt8} (h : s.length ≤ 65536) : (encFrame s).length ≤ 65546 := by
  rw [encFrame_len]
  have := enc_len6 (n := s.length) (by omega)
  omega
/-! ### a frame whose bytes are turned -/
structure Turned (body b : List UInt8) (f j : Nat) : Prop where
  len : b.length = body.length
  same : ∀ i, i < f ∨ f + j ≤ i → b[i]? = body[i]?

theorem Turned.start (body : List UInt8) (f : Nat) : Turned body body f 0 := ⟨rfl, fun _ _ => rfl⟩
theorem Turned.step {body b : List UInt8} {f j : Nat} (h : Turned body b f j) (hi : f + j < body.length) (m : UInt8) :
    Turned body (b.set (f + j) (body[f + j] ^^^ m)) f (j + 1) ∧ (b.set (f + j) (body[f + j] ^^^ m) ≠ body ↔ b ≠ body ∨ m ≠ 0) := by
  have hs := h.same (f + j) (.inr (Nat.le_refl _))
  have hst := turned_step (m := m) hi hs
  refine ⟨⟨by simpa using h.len, fun i hi2 => ?_⟩, ?_⟩
  · rw [List.getElem?_set_ne (by omega)]
    exact h.same i (by omega)
  · constructor
    · intro hne
      by_cases hb : b = body
      · right
        intro hm
        exact hne ((hst.2 hm).trans hb)
      · exact .inl hb
    · intro hor e
      by_cases hb : b = body
      · rcases hor with h1 | h1
        · exact h1 hb
        · exact h1 (hst.1 (e.trans hb.symm))
      · apply hb
        apply List.ext_getElem?
        intro i
        by_cases hif : i = f + j
        · rw [hif]; exact hs
        · rw [← e, List.getElem?_set_ne (by omega)]

/-! ### a row of bytes that was made of a string -/
structure ByteRow (w : World) (g : Nat) (T : List UInt8) : Prop where
  cell : ∀ j, (hj : j < T.length) → w.cell? ⟨g, j, none⟩ = some (.int .u8 (T[j].toNat : Nat))
  free : ∀ j, w.frozen? ⟨g, j, none⟩ = false ∨ T.length ≤ j

theorem ByteRow.set {w : World} {g : Nat} {T : List UInt8} (h : ByteRow w g T) (i : Nat) (x : UInt8) (hi : i < T.length) {y : Int} (hy : y = x.toNat) : ByteRow (w.setCell ⟨g, i, none⟩ (.int .u8 y)) g (T.set i x) := by
  subst hy
  refine ⟨fun j hj => ?_, fun j => ?_⟩
  · have hj' : j < T.length := by simpa using hj
    by_cases hij : i = j
    · subst hij
      rw [World.cell?_setCell_same _ _ _ (h.cell i hi)]
      simp
    · rw [World.cell?_setCell_other _ _ _ _ (fun e => hij (by cases e; rfl)), h.cell j hj', List.getElem_set_ne hij]
  · rw [World.frozen?_setCell, List.length_set]
    exact h.free j
theorem ByteRow.kept {w w' : World} {g : Nat} {T : List UInt8} (h : ByteRow w g T) (hk : Kept Nil w w') (hne : T ≠ []) : ByteRow w' g T := by
  have h0 := h.cell 0 (List.length_pos_iff.2 hne)
  have hlt : g < w.heap.size := cell_lt h0
  have hb : w'.heap[g]? = w.heap[g]? := by rw [hk.block g _ (Array.getElem?_eq_getElem hlt) (fun x => x.elim), Array.getElem?_eq_getElem hlt]
  exact ⟨fun j hj => (World.cell?_of_block (w := w) (a := ⟨g, j, none⟩) hb).trans (h.cell j hj), fun j => by rw [World.frozen?_of_block (w := w) (a := ⟨g, j, none⟩) hb]; exact h.free j⟩
theorem ByteRow.new (w : World) (l : List UInt8) (cap : Nat) : ByteRow (w.alloc (.cells (bytesRow (bs l) cap) 5 ((bytesRow (bs l) cap).size, (bytesRow (bs l) cap).size + 1))).drew w.heap.size l := by
  refine ⟨fun j hj => ?_, fun j => ?_⟩
  · rw [sum_cell w l cap j _ hj]
    simp [List.getD_eq_getElem?_getD, hj]
  · by_cases hj : l.length ≤ j
    · exact .inr hj
    · left
      have hb : (w.alloc (.cells (bytesRow (bs l) cap) 5 ((bytesRow (bs l) cap).size, (bytesRow (bs l) cap).size + 1))).drew.heap[w.heap.size]? = some (.cells (bytesRow (bs l) cap) 5 ((bytesRow (bs l) cap).size, (bytesRow (bs l) cap).size + 1)) := blk_new w _
      have hs : l.length ≤ (bytesRow (bs l) cap).size := by simp [bytesRow, bs]
      unfold World.frozen?
      rw [hb]
      simp
      omega
theorem ByteRow.conv {w : World} {g : Nat} {T : List UInt8} (h : ByteRow w g T) (cap : Nat) :
    (convert 127 9 (.slice (some ⟨g, 0, none⟩) T.length cap)).run Tryz.prog w = .ok (.string (bs T)) w := by
  refine run_convert_bytes_back w 127 9 5 ⟨g, 0, none⟩ cap T Tryz.underlying127 Tryz.underlying5 Tryz.underlying9 ?_
  intro j hj
  have e : (⟨g, 0, none⟩ : Addr).add j = ⟨g, j, none⟩ := by unfold Addr.add; split <;> simp_all
  rw [e]
  exact h.cell j hj
end Go.Proofs.YtpfgnhockfofhaaGreat

/-
  Shards, plainly: bodies of frames, and what each step makes of hosts and of what is on its way.
-/
namespace Go.Proofs.YtpfgnhockfofhaaGreat
open Go.RowKit

/-- The texts of a range and its items. -/
def frP : List Pr → List (List UInt8)
  | [] => []
  | x :: t => x.k :: x.v :: frP t
def frB (fr up : List UInt8) (l : List Pr) : List (List UInt8) := fr :: up :: frP l
def packB (fr up : List UInt8) (l : List Pr) : List UInt8 := frames (frB fr up l)
def prsOf : List (List UInt8) → List Pr
  | k :: v :: t => ⟨k, v, 0⟩ :: prsOf t
  | _ => []
theorem frP_len (l : List Pr) : (frP l).length = 2 * l.length := by
  induction l with
  | nil => rfl
  | cons x t ih => simp only [frP, List.length_cons, ih]; omega
theorem prsOf_frP : ∀ {l : List Pr}, (∀ x ∈ l, x.n = 0) → prsOf (frP l) = l
  | [], _ => rfl
  | ⟨k, v, n⟩ :: t, h => by
    have h0 : n = 0 := h _ (List.mem_cons_self ..)
    subst h0
    unfold frP prsOf
    rw [prsOf_frP (fun x hx => h x (List.mem_cons_of_mem _ hx))]
/-- Frames taken apart. -/
def unFs : Nat → List UInt8 → List (List UInt8)
  | 0, _ => []
  | n + 1, b => if b = [] then [] else (unF b).1 :: unFs n (unF b).2.1
theorem unFs_frames : ∀ (bl : List (List UInt8)) (n : Nat), bl.length ≤ n → (∀ s ∈ bl, s.length ≤ 65536) → unFs n (frames bl) = bl
  | [], 0, _, _ => rfl
  | [], n + 1, _, _ => by unfold unFs; exact if_pos rfl
  | s :: t, 0, h, _ => by simp at h
  | s :: t, n + 1, h, hb => by
    unfold unFs
    rw [if_neg (frames_ne s t), frames_cons, unF_whole (hb s (List.mem_cons_self ..))]
    show s :: unFs n (frames t) = _
    rw [unFs_frames t n (by simpa using h) (fun x hx => hb x (List.mem_cons_of_mem _ hx))]
def unp (b : List UInt8) : Option (List UInt8 × List UInt8 × List Pr) := match unFs b.length b with
  | fr :: up :: t => some (fr, up, prsOf t)
  | _ => none
/-- May an item lie with a host? -/
def itOk (K : List (List UInt8)) (x : Pr) : Prop := x.k ∈ K ∧ x.k.length ≤ 16 ∧ x.v.length ≤ 64 ∧ x.n = 0
theorem frP_small {K : List (List UInt8)} : ∀ {l : List Pr}, (∀ x ∈ l, itOk K x) → ∀ s ∈ frP l, s.length ≤ 64
  | [], _, s, hs => by simp [frP] at hs
  | x :: t, h, s, hs => by
    obtain ⟨_, h1, h2, _⟩ := h x (List.mem_cons_self ..)
    simp only [frP, List.mem_cons] at hs
    rcases hs with rfl | rfl | hs
    · omega
    · omega
    · exact frP_small (fun y hy => h y (List.mem_cons_of_mem _ hy)) s hs
theorem frB_small {K : List (List UInt8)} {fr up : List UInt8} {l : List Pr} (hf : fr.length ≤ 16) (hu : up.length ≤ 16) (h : ∀ x ∈ l, itOk K x) : ∀ s ∈ frB fr up l, s.length ≤ 64 := fun s hs => by
  simp only [frB, List.mem_cons] at hs
  rcases hs with rfl | rfl | hs
  · omega
  · omega
  · exact frP_small h s hs
theorem unp_pack {K : List (List UInt8)} {fr up : List UInt8} {l : List Pr} (hf : fr.length ≤ 16) (hu : up.length ≤ 16) (h : ∀ x ∈ l, itOk K x) : unp (packB fr up l) = some (fr, up, l) := by
  unfold unp packB
  rw [unFs_frames _ _ (frames_len _) (fun s hs => by have := frB_small hf hu h s hs; omega)]
  show some (fr, up, prsOf (frP l)) = _
  rw [prsOf_frP (fun x hx => (h x hx).2.2.2)]
/-- A body that hosts send. -/
def GoodB (K : List (List UInt8)) (b : List UInt8) : Prop := ∃ fr up l, b = packB fr up l ∧ fr.length ≤ 16 ∧ up.length ≤ 16 ∧ someR fr up = true ∧ Srt l ∧ (∀ x ∈ l, itOk K x ∧ inR x.k fr up = true)
theorem frames_le {bl : List (List UInt8)} (h : ∀ s ∈ bl, s.length ≤ 64) : (frames bl).length ≤ 77 * bl.length := by
  induction bl with
  | nil => simp [frames]
  | cons s t ih =>
    have h0 := h s (List.mem_cons_self ..)
    have h1 : (enc s.length).length = 1 := by rw [enc_small (n := s.length) (by omega)]; rfl
    have h2 := ih (fun x hx => h x (List.mem_cons_of_mem _ hx))
    rw [frames_cons, List.length_append, encFrame_len, List.length_cons]
    omega
theorem nodup_len : ∀ {K l : List (List UInt8)}, l.Nodup → (∀ x ∈ l, x ∈ K) → l.length ≤ K.length
  | K, [], _, _ => Nat.zero_le _
  | K, x :: t, hn, h => by
    have hx := h x (List.mem_cons_self ..)
    obtain ⟨h1, h2⟩ := List.nodup_cons.1 hn
    have := nodup_len (K := K.erase x) h2 (fun y hy => (List.mem_erase_of_ne (show y ≠ x from fun e => h1 (e ▸ hy))).2 (h y (List.mem_cons_of_mem _ hy)))
    rw [List.length_erase_of_mem hx] at this
    have hp := List.length_pos_of_mem hx
    rw [List.length_cons]
    omega
theorem srt_len {K : List (List UInt8)} {l : List Pr} (hs : Srt l) (h : ∀ x ∈ l, itOk K x) : l.length ≤ K.length := by
  have hn : (l.map (·.k)).Nodup := by
    refine List.pairwise_map.2 (hs.imp (fun {a b} hab e => ?_))
    rw [e, less_irrefl] at hab
    cases hab
  have := nodup_len hn (K := K) (fun x hx => by
    obtain ⟨y, hy, rfl⟩ := List.mem_map.1 hx
    exact (h y hy).1)
  simpa using this
theorem GoodB.len {K : List (List UInt8)} {fr up : List UInt8} {l : List Pr} (hf : fr.length ≤ 16) (hu : up.length ≤ 16) (hs : Srt l) (h : ∀ x ∈ l, itOk K x) : (packB fr up l).length ≤ 77 * (2 + 2 * K.length) := by
  have h1 := frames_le (frB_small hf hu h)
  have h2 : (frB fr up l).length = 2 + 2 * l.length := by unfold frB; rw [List.length_cons, List.length_cons, frP_len]; omega
  have h3 := srt_len hs h
  unfold packB
  omega

/-- A step of a script. -/
structure Sp where
  kd : Int
  hs : Int
  ot : Int
  nn : Int
  ky : List UInt8
  up : List UInt8
  vl : List UInt8
/-- An answer: error, host, the result's kind and value. -/
structure An where
  er : Int
  ho : Int
  rk : Int
  rv : List UInt8
/-- Hosts (the first is number 1), and what is on its way. -/
structure Sd where
  n : Nat
  ho : Nat → Hd
  wy : List Pk
def hd0 : Hd := ⟨fun _ => oh0, [], [⟨[], 1⟩]⟩
def sd0 (n : Nat) : Sd := ⟨n, fun _ => hd0, []⟩
def applyH (s : Sp) (h : Hd) : Int × List UInt8 × Hd :=
  if s.kd = 1 then (1, [], { h with it := setI ⟨s.ky, s.vl, 0⟩ h.it })
  else if isThere s.ky h.it = false then (2, [], h)
  else if s.kd = 2 then (1, (match h.it[lowP s.ky h.it]? with | some x => x.v | none => []), h)
  else (1, [], { h with it := delI (lowP s.ky h.it) (lowP s.ky h.it + 1) h.it })
def answerH (id : Int) (s : Sp) (h : Hd) : An × Hd :=
  if hoAt s.ky h.kb = id then (⟨0, hoAt s.ky h.kb, (applyH s h).1, (applyH s h).2.1⟩, (applyH s h).2.2) else (⟨0, hoAt s.ky h.kb, 0, []⟩, h)
def endP (up : List UInt8) (ps : List Pr) : Nat := if up = [] then ps.length else lowP up ps
def midP (fr up : List UInt8) (ps : List Pr) : List Pr := (ps.drop (lowP fr ps)).take (endP up ps - lowP fr ps)
def giveHd (id : Int) (fr up : List UInt8) (dst : Nat) (h : Hd) : Int × Hd :=
  if hasB h.kb fr up id = false then (14, h)
  else if (h.os dst).wt.length = 16 then (4, h)
  else (0, ⟨upd h.os dst (sendO (h.os dst) (packB fr up (midP fr up h.it))), delI (lowP fr h.it) (endP up h.it) h.it, setB h.kb fr up dst⟩)
def setIs (l : List Pr) (ps : List Pr) : List Pr := l.foldl (fun a x => setI x a) ps
def takeHd (id : Int) (b : List UInt8) (h : Hd) : Hd := match unp b with
  | some (fr, up, l) => ⟨h.os, setIs l h.it, setB h.kb fr up id⟩
  | none => h
def rcvH (id : Int) (p : Pk) (h : Hd) : Hd := { h with os := if goodP id p = true then upd h.os p.fr.toNat (rcvO (h.os p.fr.toNat) p) else h.os }
def cmsH (id : Int) (p : Pk) (h : Hd) : List Pc := if goodP id p = true then rcvC (h.os p.fr.toNat) p else []
def aksH (id : Int) (p : Pk) (h : Hd) : List Pk := if goodP id p = true then rcvA id (h.os p.fr.toNat) p else []
def takesH (id : Int) (l : List Pc) (h : Hd) : Hd := l.foldl (fun a x => takeHd id x.bd a) h
def comeH (id : Int) (p : Pk) (h : Hd) : Hd := takesH id (cmsH id p h) (rcvH id p h)
/-- All that a host's relay has waiting goes on its way. -/
def sendS (i : Nat) (S : Sd) : Sd := { S with wy := S.wy ++ pksTo (i + 1 : Nat) (S.ho i).os 10 }
def comesS (p : Pk) (S : Sd) : Sd := { S with ho := upd S.ho (p.ds.toNat - 1) (comeH p.ds p (S.ho (p.ds.toNat - 1))), wy := S.wy ++ aksH p.ds p (S.ho (p.ds.toNat - 1)) }
def atW (n : Int) (m : Nat) : Nat := (n % m).toNat
def dropW (at' : Nat) (S : Sd) : Sd := { S with wy := S.wy.take at' ++ S.wy.drop (at' + 1) }
def carryS (kd n : Int) (S : Sd) : Sd := match S.wy[atW n S.wy.length]? with
  | none => S
  | some p => if kd = 6 then comesS p (dropW (atW n S.wy.length) S) else if kd = 7 then dropW (atW n S.wy.length) S else if kd = 8 then { S with wy := S.wy ++ [p] } else S
def isHo (n : Nat) (id : Int) : Bool := decide (1 ≤ id) && decide (id ≤ n)
def mayS (s : Sp) : Bool := !(s.ky.isEmpty && decide (s.kd < 4)) && (decide (s.ky.length ≤ 16) && (decide (s.up.length ≤ 16) && decide (s.vl.length ≤ 64)))
def an0 : An := ⟨0, 0, 0, []⟩
def anE (e : Int) : An := ⟨e, 0, 0, []⟩
def putH (S : Sd) (i : Nat) (h : Hd) : Sd := { S with ho := upd S.ho i h }
def doS (s : Sp) (S : Sd) : An × Sd :=
  if 6 ≤ s.kd then (an0, carryS s.kd s.nn S)
  else if isHo S.n s.hs = false then (anE 17, S)
  else if mayS s = false then (anE 5, S)
  else if 1 ≤ s.kd ∧ s.kd ≤ 3 then ((answerH s.hs s (S.ho (s.hs.toNat - 1))).1, putH S (s.hs.toNat - 1) (answerH s.hs s (S.ho (s.hs.toNat - 1))).2)
  else if s.kd = 4 then (if isHo S.n s.ot = false ∨ s.ot = s.hs then (anE 17, S) else
    (⟨(giveHd s.hs s.ky s.up s.ot.toNat (S.ho (s.hs.toNat - 1))).1, s.hs, 0, []⟩, putH S (s.hs.toNat - 1) (giveHd s.hs s.ky s.up s.ot.toNat (S.ho (s.hs.toNat - 1))).2))
  else if s.kd = 5 then (an0, sendS (s.hs.toNat - 1) S)
  else (an0, S)
def sendsS : Nat → Sd → Sd
  | 0, S => S
  | n + 1, S => sendS n (sendsS n S)
def carriesS : Nat → Sd → Sd
  | 0, S => S
  | n + 1, S => carryS 6 0 (carriesS n S)
def healS : Nat → Sd → Sd
  | 0, S => S
  | n + 1, S => carriesS 2000 (sendsS S.n (healS n S))
theorem sends_n (i : Nat) (S : Sd) : (sendsS i S).n = S.n := by
  induction i with
  | zero => rfl
  | succ i ih => exact ih
theorem carry_n (kd n : Int) (S : Sd) : (carryS kd n S).n = S.n := by
  unfold carryS
  split
  · rfl
  · repeat' split
    all_goals rfl
theorem carries_n (i : Nat) (S : Sd) : (carriesS i S).n = S.n := by
  induction i with
  | zero => rfl
  | succ i ih => exact (carry_n _ _ _).trans ih
theorem heal_n (i : Nat) (S : Sd) : (healS i S).n = S.n := by
  induction i with
  | zero => rfl
  | succ i ih => exact (carries_n _ _).trans ((sends_n _ _).trans ih)
end Go.Proofs.YtpfgnhockfofhaaGreat

/-
  The library's own contracts, laid at this program.
-/
namespace Go.Proofs.YtpfgnhockfofhaaGreat
open Go.Shelf
def Tryz.lays169_ren : Go.Shelf.Ren := ⟨fun | 169 => 70 | n => n, fun | 70 => 126 | 9 => 9 | 0 => 0 | 72 => 129 | 37 => 127 | 127 => 150 | 3 => 3 | 5 => 5 | n => n, fun | n => n⟩
theorem Tryz.lays169 : Go.Proofs.Lays.n169 Tryz.prog Tryz.lays169_ren := {
  mixed := by kernel_rfl
  f169 := Tryz.func70.trans (congrArg some (by kernel_rfl))
  t0 := Tryz.underlying0
  a0 := Tryz.isAgg0
  z0 := Tryz.sizeOf0
  v0 := Tryz.zeroValue0
  t3 := Tryz.underlying3
  a3 := Tryz.isAgg3
  z3 := Tryz.sizeOf3
  v3 := Tryz.zeroValue3
  t9 := Tryz.underlying9
  a9 := Tryz.isAgg9
  z9 := Tryz.sizeOf9
  v9 := Tryz.zeroValue9
  t37 := Tryz.underlying127
  a37 := Tryz.isAgg127
  z37 := Tryz.sizeOf127
  v37 := Tryz.zeroValue127
  t70 := Tryz.underlying126
  a70 := Tryz.isAgg126
  z70 := Tryz.sizeOf126
  v70 := Tryz.zeroValue126
  t72 := Tryz.underlying129
  a72 := Tryz.isAgg129
  z72 := Tryz.sizeOf129
  v72 := Tryz.zeroValue129
  t127 := Tryz.underlying150
  a127 := Tryz.isAgg150
  z127 := Tryz.sizeOf150
  v127 := Tryz.zeroValue150 }
theorem Tryz.Builder_Extra_169 : Builder.Extra Tryz.prog Tryz.lays169_ren := {
  sizeBuilder := by kernel_rfl
  liesBuilder := by kernel_rfl
  t5 := Tryz.underlying5
  a5 := Tryz.isAgg5
  z5 := Tryz.sizeOf5
  v5 := Tryz.zeroValue5
  infoByte := by kernel_rfl
  cellsByte := by kernel_rfl
  sizeByte := by kernel_rfl
  neB5 := by decide }
open Go.RowKit in
theorem Tryz.Builder_String_any (B b : Nat) (l : List UInt8) (w : World) (h : Lib.IsBuilder 129 5 B b (Lib.byteCells l) w) (hBw : B ≤ w.heap.size) :
    Calls Tryz.prog 70 #[.pointer (some ⟨b, 0, none⟩)] w fun e w' => e = .returned (.string ⟨l.toArray⟩) ∧ Below B w w' := Any.Builder_String_any Tryz.lays169 Tryz.Builder_Extra_169 B b l w h hBw

end Go.Proofs.YtpfgnhockfofhaaGreat

/-
  Shards: strings.Builder by hand; pack.
-/
namespace Go.Proofs.YtpfgnhockfofhaaGreat
open Go.RowKit

theorem Tryz.sizeBld : (Tryz.prog.info? 129).map (·.size) = some 2 := by kernel_rfl
theorem Tryz.liesBld : liesAt Tryz.prog Tryz.prog.depth 129 (2 / Tryz.prog.cellsOf 129) 0 129 1 = true := by kernel_rfl
theorem Tryz.infoByte8 : (Tryz.prog.info? 5).map (fun i => (i.zero, i.size, i.bytes)) = some (some (.int .u8 0), 1, 1) := by kernel_rfl
/-- A builder that holds these bytes. -/
def Bld (B b : Nat) (l : List UInt8) (w : World) : Prop := Lib.IsBuilder 129 5 B b (Lib.byteCells l) w
/-- What a call on a builder touches. -/
def TBu (B : Nat) : Nat → Obj → Prop := fun q o => B ≤ q ∧ ((∃ cs, o = .cells cs 129 (0, 0)) ∨ ∃ cs, o = .cells cs 5 (0, 0))
set_option maxRecDepth 100000 in
set_option maxHeartbeats 1000000 in
theorem copyUsed (b : Nat) (w : World) (h0 : w.cell? ⟨b, 0, none⟩ = some (.pointer (some ⟨b, 0, none⟩))) :
    Calls Tryz.prog 88 #[.pointer (some ⟨b, 0, none⟩)] w fun e w' => e = .returned (.tuple #[]) ∧ w' = w := by
  obtain ⟨j, hj, _⟩ := Option.map_eq_some_iff.1 Tryz.sizeBld
  go_enter Tryz.func88, Tryz.ntmps88
  go_wp2
  rw [Lib.run_neq_ptr_same w _ Tryz.underlying126 hj]
  go_wp2
  go_end0
  exact ⟨rfl, rfl⟩
set_option maxRecDepth 100000 in
set_option maxHeartbeats 1000000 in
theorem copyFresh (b : Nat) (w : World) (h0 : w.cell? ⟨b, 0, none⟩ = some (.pointer none)) (hsh : w.shape? b = some (129, 2)) (hfz : w.frozen? ⟨b, 0, none⟩ = false) :
    Calls Tryz.prog 88 #[.pointer (some ⟨b, 0, none⟩)] w fun e w' => e = .returned (.tuple #[]) ∧ w' = w.setCell ⟨b, 0, none⟩ (.pointer (some ⟨b, 0, none⟩)) := by
  obtain ⟨j, hj, hjs⟩ := Option.map_eq_some_iff.1 Tryz.sizeBld
  go_enter Tryz.func88, Tryz.ntmps88
  go_wp2
  rw [Lib.run_to_unsafe w ⟨b, 0, none⟩ Tryz.underlying126 Tryz.underlying164 hj (by rw [hjs]; decide) hsh (Nat.zero_lt_succ 1)]
  simp only [Result.andThen]
  rw [Oper.upon_value]
  go_wp2
  rw [run_callFunc_extern Tryz.func99 (by kernel_rfl) (by kernel_rfl) (by kernel_rfl) (e := Extern.AbiNoEscape.same) (by kernel_rfl)]
  rw [Lib.run_noEscape]
  simp only [Result.andThen]
  rw [Oper.upon_value]
  go_wp2
  rw [Lib.run_from_unsafe w ⟨b, 0, none⟩ Tryz.underlying164 Tryz.underlying126 hj hsh Tryz.liesBld]
  simp only [Result.andThen]
  rw [Oper.upon_value]
  go_wp2
  go_end0
  exact ⟨rfl, rfl⟩
theorem copyCheck_any (B b : Nat) (l : List UInt8) (w : World) (h : Bld B b l w) :
    Calls Tryz.prog 88 #[.pointer (some ⟨b, 0, none⟩)] w fun e w' => e = .returned (.tuple #[]) ∧ Lib.BuilderAt 129 5 B b (.pointer (some ⟨b, 0, none⟩)) (Lib.byteCells l) w' ∧ Kept (TBu B) w w' := by
  rcases h with h | h
  · refine (copyFresh b w h.cell0 h.shape h.frozen0).mono ?_
    rintro e w' ⟨rfl, rfl⟩
    refine ⟨rfl, h.used _, (Kept.refl _ _).setT (fun o ho => ?_) _ _⟩
    obtain ⟨h1, v, h2, _⟩ := h
    rw [h2] at ho
    cases ho
    exact ⟨h1, .inl ⟨_, rfl⟩⟩
  · refine (copyUsed b w h.cell0).mono ?_
    rintro e w' ⟨rfl, rfl⟩
    exact ⟨rfl, h, Kept.refl _ _⟩
theorem strCells_bs (s : List UInt8) : Lib.strCells (bs s) = Lib.byteCells s := by
  unfold Lib.strCells Lib.byteCells
  rw [bs_data]
theorem byteCells_app (a b : List UInt8) : Lib.byteCells (a ++ b) = Lib.byteCells a ++ Lib.byteCells b := by simp [Lib.byteCells]
theorem byteCells_len8 (a : List UInt8) : (Lib.byteCells a).length = a.length := by simp [Lib.byteCells]
set_option maxRecDepth 100000 in
set_option maxHeartbeats 2000000 in
theorem writeString_any (B b : Nat) (l s : List UInt8) (w : World) (h : Bld B b l w) (hlen : l.length + s.length ≤ 100000000000) (hBw : B ≤ w.heap.size) :
    Calls Tryz.prog 69 #[.pointer (some ⟨b, 0, none⟩), .string (bs s)] w fun e w' => e = .returned (.tuple #[.int .i64 s.length, .nilIface]) ∧ Bld B b (l ++ s) w' ∧ Kept (TBu B) w w' := by
  obtain ⟨i0, hi, hz0, hz1, hz2⟩ := info_parts Tryz.infoByte8
  have CC := copyCheck_any B b l w h
  have hss := bs_size s
  have HSC : Hid (Lib.strCells (bs s) = Lib.byteCells s) := strCells_bs s
  have hl1 : (Lib.byteCells l).length = l.length := byteCells_len8 l
  clear h
  go_enter Tryz.func69, Tryz.ntmps69
  go_wp2_with fail
  go_fit CC
  rintro e w1 ⟨rfl, h1, hb1⟩
  clear CC
  obtain ⟨hB, v, hbk, hown, hne⟩ := h1
  have c0 : w1.cell? ⟨b, 0, none⟩ = some (.pointer (some ⟨b, 0, none⟩)) := by rw [Lib.cell_of_heap hbk]; rfl
  have c1 : w1.cell? ⟨b, 1, none⟩ = some v := by rw [Lib.cell_of_heap hbk]; rfl
  go_wp2_with (at_builtin; refine Lib.wpList_append_own_string _ rfl _ _ 127 9 rfl B 5 i0 Tryz.underlying127 Tryz.underlying9 hi hz0 hz1 hz2 _ _ _ rfl hown (bs s) rfl ?c3 ?c4 ?c5 ?_)
  case c3 => unfold maxLen; omega
  case c4 => omega
  case c5 => have := hb1.size; omega
  intro v' w2 hown' hgrow _
  have hlt : b < w1.heap.size := lt_of_block hbk
  have hb2 : w2.heap[b]? = some (.cells #[.pointer (some ⟨b, 0, none⟩), v] 129 (0, 0)) := by
    rw [hgrow.block b hlt (fun e => hne e.symm)]
    exact hbk
  have d0 : w2.cell? ⟨b, 0, none⟩ = some (.pointer (some ⟨b, 0, none⟩)) := by rw [Lib.cell_of_heap hb2]; rfl
  have d1 : w2.cell? ⟨b, 1, none⟩ = some v := by rw [Lib.cell_of_heap hb2]; rfl
  have f1 : w2.frozen? ⟨b, 1, none⟩ = false := Lib.frozen_of_heap hb2 1
  obtain ⟨ao, n', cap, rfl⟩ : ∃ ao n' cap, v' = .slice ao n' cap := by
    rcases hown'.2 with ⟨hv, _⟩ | ⟨g, cap, cur, hv, _⟩
    · exact ⟨_, _, _, hv⟩
    · exact ⟨_, _, _, hv⟩
  go_wp2
  go_ret2
  refine ⟨rfl, .inr ?_, ?_⟩
  · rw [byteCells_app, ← HSC.out]
    exact Lib.BuilderAt.put (T := 129) (e := 5) hB hb2 (bs' := Lib.byteCells l ++ Lib.strCells (bs s)) (by rw [List.length_append, Lib.strCells_length, hl1, hss]; exact hown') (by decide)
  · refine hb1.trans (((Kept.refl (TBu B) w1).grownT hgrow (fun k hk o ho => ?_)).setT (fun o ho => ?_) _ _)
    · rcases hown.2 with ⟨e1, _⟩ | ⟨g, _, cur, e1, hBg, hb2, _⟩
      · rw [e1] at hk; simp [Value.ownBlock] at hk
      · rw [e1] at hk
        have e2 : g = k := by simpa [Value.ownBlock] using hk
        subst e2
        rw [hb2] at ho
        cases ho
        exact ⟨hBg, .inr ⟨_, rfl⟩⟩
    · rw [hbk] at ho
      cases ho
      exact ⟨hB, .inl ⟨_, rfl⟩⟩
theorem Bld.kept {B b : Nat} {l : List UInt8} {w w' : World} (h : Bld B b l w) (k : Kept Nil w w') : Bld B b l w' := by
  have one : ∀ p, Lib.BuilderAt 129 5 B b p (Lib.byteCells l) w → Lib.BuilderAt 129 5 B b p (Lib.byteCells l) w' := fun p h => by
    obtain ⟨h1, v, h2, h3, h4⟩ := h
    exact ⟨h1, v, k.block _ _ h2 (fun x => x), own_kept h3 k (fun _ _ _ x => x), h4⟩
  exact h.imp (one _) (one _)
set_option maxRecDepth 100000 in
set_option maxHeartbeats 2000000 in
/-- One text as a frame. -/
theorem packF_any (B b : Nat) (l s : List UInt8) (w : World) (h : Bld B b l w) (hs : s.length ≤ 65536) (hlen : l.length ≤ 90000000000) (hBw : B ≤ w.heap.size) :
    Calls Tryz.prog 67 #[.string (bs s), .pointer (some ⟨b, 0, none⟩)] w fun e w' => e = .returned (.tuple #[]) ∧ Bld B b (l ++ encFrame s) w' ∧ Kept (TBu B) w w' := by
  have FR := frame_any s w (by unfold maxLen; omega)
  unfold putFrame at FR
  rw [if_pos hs] at FR
  have hfm := encFrame_max hs
  go_enter Tryz.func67, Tryz.ntmps67
  go_wp2_with fail
  go_fit FR
  rintro e w1 ⟨rfl, k1⟩
  have WS := writeString_any B b l (encFrame s) w1 (h.kept k1) (by omega) (Nat.le_trans hBw k1.size)
  go_wp2_with fail
  go_fit WS
  rintro e w2 ⟨rfl, h2, b2⟩
  go_wp2
  go_end0
  exact ⟨rfl, h2, (k1.mono (fun _ _ x => x.elim)).trans b2⟩
theorem Kept.newT {B : Nat} {w a b : World} (h : Kept Nil w a) (k : Kept (TBu B) a b) (hn : w.heap.size ≤ B) : Kept Nil w b := h.newG (k.mono (fun _ _ x => x.1) : Kept (Ge B) a b) hn
/-- A row of items, wherever it lies. -/
def ItRow (w : World) (ao : Option Addr) (l : List Pr) : Prop := ∀ j, (hj : j < l.length) → ∃ a, ao = some a ∧ w.cell? (a.add (j * 2)) = some (.string (bs l[j].k)) ∧ w.cell? ⟨(a.add (j * 2)).block, (a.add (j * 2)).off + 1, none⟩ = some (.string (bs l[j].v))
theorem ItRow.kept {w w' : World} {ao : Option Addr} {l : List Pr} (h : ItRow w ao l) (hk : Kept Nil w w') : ItRow w' ao l := fun j hj => by
  obtain ⟨a, e, c1, c2⟩ := h j hj
  exact ⟨a, e, cell_kept hk (fun _ x => x) c1, cell_kept hk (fun _ x => x) c2⟩
theorem frP_app (a b : List Pr) : frP (a ++ b) = frP a ++ frP b := by
  induction a with
  | nil => rfl
  | cons x t ih => show x.k :: x.v :: frP (t ++ b) = _; rw [ih]; rfl
theorem frames_app (a b : List (List UInt8)) : frames (a ++ b) = frames a ++ frames b := by simp [frames]
theorem pack_next {fr up : List UInt8} {l : List Pr} {k : Nat} (hk : k < l.length) : packB fr up (l.take (k + 1)) = packB fr up (l.take k) ++ encFrame l[k].k ++ encFrame l[k].v := by
  unfold packB frB
  rw [List.take_succ_eq_append_getElem hk, frP_app, show fr :: up :: (frP (l.take k) ++ frP [l[k]]) = (fr :: up :: frP (l.take k)) ++ [l[k].k, l[k].v] by simp [frP], frames_app, show frames [l[k].k, l[k].v] = encFrame l[k].k ++ encFrame l[k].v by simp [frames], List.append_assoc]
theorem pack_nil (fr up : List UInt8) : packB fr up [] = [] ++ encFrame fr ++ encFrame up := by simp [packB, frB, frP, frames]
theorem pack_size {K : List (List UInt8)} {fr up : List UInt8} {l : List Pr} (hf : fr.length ≤ 16) (hu : up.length ≤ 16) (h : ∀ x ∈ l, itOk K x) (k : Nat) : (packB fr up (l.take k)).length ≤ 77 * (2 + 2 * l.length) := by
  have h1 := frames_le (frB_small hf hu (fun x hx => h x (List.mem_of_mem_take hx) : ∀ x ∈ l.take k, itOk K x))
  have h2 : (frB fr up (l.take k)).length = 2 + 2 * (l.take k).length := by unfold frB; rw [List.length_cons, List.length_cons, frP_len]; omega
  have h3 := List.length_take_le k l
  unfold packB
  rw [List.length_take] at h2
  omega
set_option maxRecDepth 100000 in
set_option maxHeartbeats 4000000 in
/-- A range and its items as a body. -/
theorem pack_any (K : List (List UInt8)) (fr up : List UInt8) (c : Nat) (ao : Option Addr) (l : List Pr) (w : World) (h : ItRow w ao l) (hf : fr.length ≤ 16) (hu : up.length ≤ 16) (hi : ∀ x ∈ l, itOk K x) (hl : l.length ≤ 4000000) :
    Calls Tryz.prog 39 #[.string (bs fr), .string (bs up), .slice ao l.length c] w fun e w' => e = .returned (.string (bs (packB fr up l))) ∧ Kept Nil w w' := by
  have HR : Hid (ItRow w ao l) := h
  have HI : Hid (∀ x ∈ l, itOk K x) := hi
  obtain ⟨B, HB⟩ : ∃ B, Hid (B = w.heap.size) := ⟨_, rfl⟩
  obtain ⟨W, hW⟩ : ∃ W, W = w.alloc (.cells #[.pointer none, .slice none 0 0] 129) := ⟨_, rfl⟩
  have KW : Hid (Kept Nil w W) := by rw [hW]; exact (Kept.refl _ _).alloc _
  have HBW : Hid (Bld B B [] W) := by rw [hW, HB.out]; exact Lib.fresh_isBuilder _ _ _
  have HBs : Hid (B ≤ W.heap.size) := by rw [HB.out]; exact KW.out.size
  have F1 := packF_any B B [] fr W HBW.out (by omega) (by simp) HBs.out
  have hps := fun k => pack_size (K := K) hf hu hi k
  have HPS : Hid (∀ k, (packB fr up (l.take k)).length ≤ 77 * (2 + 2 * l.length)) := hps
  have hfm := encFrame_max (s := fr) (by omega)
  clear hps h hi
  go_enter Tryz.func39, Tryz.ntmps39
  go_upto_region 3 with fail
  rw [← hW, ← HB.out]
  clear hW
  go_wp2_with fail
  go_fit F1
  rintro e w1 ⟨rfl, h1, k1⟩
  have HK1 : Hid (Kept Nil w w1) := KW.out.newT k1 (by rw [HB.out]; exact Nat.le_refl _)
  have F2 := packF_any B B _ up w1 h1 (by omega) (by simp only [List.nil_append]; omega) (Nat.le_trans HBs.out k1.size)
  clear F1 k1 h1
  go_wp2_with fail
  go_fit F2
  rintro e w2 ⟨rfl, h2, k2⟩
  have HK2 : Hid (Kept Nil w w2) := HK1.out.newT k2 (by rw [HB.out]; exact Nat.le_refl _)
  have HB2 : Hid (Bld B B (packB fr up (l.take 0)) w2) := by rw [List.take_zero, pack_nil]; exact h2
  clear F2 k2 h2
  go_wp2
  go_loopw [20] (fun u wr => ∃ k : Nat, k ≤ l.length ∧ u = .int .i64 k ∧ Hid (Bld B B (packB fr up (l.take k)) wr) ∧ Hid (Kept Nil w wr)) (fun u _ => l.length - (intOf u).toNat)
  case atStart => exact ⟨0, Nat.zero_le _, rfl, HB2.out, HK2.out⟩
  case round =>
    obtain ⟨k, hk, rfl, HBk, HK⟩ := hrel
    by_cases hlt : k < l.length
    · have hli : (k : Int) < (l.length : Int) := by omega
      obtain ⟨a, e, c0, c1⟩ := (HR.out.kept HK.out) k hlt
      subst e
      obtain ⟨y, HY⟩ : ∃ y : Pr, Hid (y = l[k]) := ⟨l[k], (rfl : l[k] = l[k])⟩
      rw [← HY.out] at c0 c1
      have HYO : Hid (itOk K y) := by rw [HY.out]; exact HI.out _ (List.getElem_mem _)
      have HN : Hid (packB fr up (l.take (k + 1)) = packB fr up (l.take k) ++ encFrame y.k ++ encFrame y.v) := by rw [HY.out]; exact pack_next hlt
      obtain ⟨L, HL⟩ : ∃ L, Hid (L = packB fr up (l.take k)) := ⟨_, rfl⟩
      have hLs : L.length ≤ 77 * (2 + 2 * l.length) := by rw [HL.out]; exact HPS.out k
      obtain ⟨W, hW⟩ : ∃ W, W = wr.alloc (.cells #[.string (bs y.k), .string (bs y.v)] 75) := ⟨_, rfl⟩
      obtain ⟨A, HA⟩ : ∃ A, Hid (A = wr.heap.size) := ⟨_, rfl⟩
      have KW : Hid (Kept Nil wr W) := by rw [hW]; exact (Kept.refl _ _).alloc _
      have HAW : Hid (W.heap[A]? = some (.cells #[.string (bs y.k), .string (bs y.v)] 75 (0, 0))) := by rw [hW, HA.out]; exact blk_new _ _
      have HBW : Hid (Bld B B L W) := by rw [HL.out]; exact HBk.out.kept KW.out
      have HBs : Hid (B ≤ W.heap.size) := by rw [HB.out]; exact Nat.le_trans HK.out.size KW.out.size
      have HAB : Hid (A ≠ B) := by
        rcases HBk.out with h | h <;> (have := h.lt; show _ ≠ _; rw [HA.out]; omega)
      have F1 := packF_any B B L y.k W HBW.out (by have := HYO.out.2.1; omega) (by omega) HBs.out
      have q0 : W.cell? ⟨A, 0, none⟩ = some (.string (bs y.k)) := blk_at HAW.out 0 rfl
      go_upto_region 8 with fail
      rw [← hW, ← HA.out]
      clear hW
      go_wp2_with fail
      go_fit F1
      rintro e w3 ⟨rfl, h3, k3⟩
      have HK3 : Hid (Kept Nil w w3) := (HK.out.trans KW.out).newT k3 (by rw [HB.out]; exact Nat.le_refl _)
      have HA3 : Hid (w3.heap[A]? = some (.cells #[.string (bs y.k), .string (bs y.v)] 75 (0, 0))) := k3.block _ _ HAW.out (fun e => by rcases e.2 with ⟨_, e⟩ | ⟨_, e⟩ <;> cases e)
      have hkm := encFrame_max (s := y.k) (by have := HYO.out.2.1; omega)
      have F2 := packF_any B B (L ++ encFrame y.k) y.v w3 h3 (by have := HYO.out.2.2.1; omega) (by rw [List.length_append]; omega) (Nat.le_trans HBs.out k3.size)
      have q1 : w3.cell? ⟨A, 1, none⟩ = some (.string (bs y.v)) := blk_at HA3.out 1 rfl
      clear F1 q0 h3 k3
      go_wp2_with fail
      go_fit F2
      rintro e w4 ⟨rfl, h4, k4⟩
      have HK4 : Hid (Kept Nil w w4) := HK3.out.newT k4 (by rw [HB.out]; exact Nat.le_refl _)
      have HB4 : Hid (Bld B B (packB fr up (l.take (k + 1))) w4) := by rw [HN.out, ← HL.out]; exact h4
      clear F2 q1 h4 k4
      go_wp2
      go_roundw
      case rel => exact ⟨k + 1, by omega, by congr 1, HB4.out, HK4.out⟩
      case measure => simp [intOf]; omega
    · obtain rfl : k = l.length := by omega
      have HF : Hid (Bld B B (packB fr up l) wr) := by have := HBk.out; rwa [List.take_length] at this
      have ST := Tryz.Builder_String_any B B (packB fr up l) wr HF.out (by rw [HB.out]; exact HK.out.size)
      go_wp2_with fail
      go_fit ST
      rintro e w3 ⟨rfl, b3⟩
      go_wp2
      go_ret
      refine ⟨rfl, ?_⟩
      have hB := HB.out
      exact HK.out.newG ⟨b3.os, b3.tape, b3.output, b3.size, fun k o ho hx => by rw [b3.block k (by unfold Ge at hx; omega)]; exact ho⟩ (Nat.le_of_eq hB.symm)
end Go.Proofs.YtpfgnhockfofhaaGreat
