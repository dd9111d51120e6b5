/-
  Joined: WTorn2, WShP.
-/
import Derived.Test.YtpfgnhockfofhaaM02
import Derived.Laws.IdiomStrings
import Derived.Test.YtpfgnhockfofhaaM13
/-
  Frames one behind the other, cut anywhere; a frame of which bytes are turned; one of n by any number (pick).
-/
namespace Go.Proofs.Ytpfgnhockfofhaa
open Go.RowKit

theorem pick_val (c n : Int) (hn : 0 < n) : c % n = if c.tmod n < 0 then c.tmod n + n else c.tmod n := by
  have h1 := Int.emod_nonneg c (show n ≠ 0 by omega)
  have h2 := Int.emod_lt_of_pos c hn
  have h3 := Int.tmod_eq_emod (a := c) (b := n)
  have h4 : (n.natAbs : Int) = n := by omega
  split at h3 <;> split <;> omega

set_option maxRecDepth 100000 in
theorem pick_any (c n : Int) (w : World) (hn : 0 < n) (hn2 : n ≤ 9223372036854775807) :
    Calls Try.prog 22 #[.int .i64 c, .int .i64 n] w fun e w' => e = .returned (.int .i64 (c % n)) ∧ w' = w := by
  have hv := pick_val c n hn
  have h1 := Int.emod_nonneg c (show n ≠ 0 by omega)
  have h2 := Int.emod_lt_of_pos c hn
  have hne : (n == 0) = false := by simp; omega
  by_cases hneg : c.tmod n < 0
  · rw [if_pos hneg] at hv
    have HV : Hid (c % n = c.tmod n + n) := hv
    rw [hv] at h1 h2
    clear hv
    go_enter Try.func22, Try.ntmps22
    go_wp2
    go_ret
    rw [HV.out]
    exact ⟨rfl, rfl⟩
  · rw [if_neg hneg] at hv
    have HV : Hid (c % n = c.tmod n) := hv
    rw [hv] at h1 h2
    clear hv
    go_enter Try.func22, Try.ntmps22
    go_wp2
    go_ret
    rw [HV.out]
    exact ⟨rfl, rfl⟩

/-! ### frames one behind the other -/
theorem encFrame_max {s : List UInt8} (h : s.length ≤ 65536) : (encFrame s).length ≤ 65546 := by
  rw [encFrame_len]
  have := enc_len6 (n := s.length) (by omega)
  omega
/-! ### a frame whose bytes are turned -/
structure Turned (body b : List UInt8) (f j : Nat) : Prop where
  len : b.length = body.length
  same : ∀ i, i < f ∨ f + j ≤ i → b[i]? = body[i]?

theorem Turned.start (body : List UInt8) (f : Nat) : Turned body body f 0 := ⟨rfl, fun _ _ => rfl⟩
theorem Turned.step {body b : List UInt8} {f j : Nat} (h : Turned body b f j) (hi : f + j < body.length) (m : UInt8) :
    Turned body (b.set (f + j) (body[f + j] ^^^ m)) f (j + 1) ∧ (b.set (f + j) (body[f + j] ^^^ m) ≠ body ↔ b ≠ body ∨ m ≠ 0) := by
  have hs := h.same (f + j) (.inr (Nat.le_refl _))
  have hst := turned_step (m := m) hi hs
  refine ⟨⟨by simpa using h.len, fun i hi2 => ?_⟩, ?_⟩
  · rw [List.getElem?_set_ne (by omega)]
    exact h.same i (by omega)
  · constructor
    · intro hne
      by_cases hb : b = body
      · right
        intro hm
        exact hne ((hst.2 hm).trans hb)
      · exact .inl hb
    · intro hor e
      by_cases hb : b = body
      · rcases hor with h1 | h1
        · exact h1 hb
        · exact h1 (hst.1 (e.trans hb.symm))
      · apply hb
        apply List.ext_getElem?
        intro i
        by_cases hif : i = f + j
        · rw [hif]; exact hs
        · rw [← e, List.getElem?_set_ne (by omega)]

/-! ### a row of bytes that was made of a string -/
structure ByteRow (w : World) (g : Nat) (T : List UInt8) : Prop where
  cell : ∀ j, (hj : j < T.length) → w.cell? ⟨g, j, none⟩ = some (.int .u8 (T[j].toNat : Nat))
  free : ∀ j, w.frozen? ⟨g, j, none⟩ = false ∨ T.length ≤ j

theorem ByteRow.set {w : World} {g : Nat} {T : List UInt8} (h : ByteRow w g T) (i : Nat) (x : UInt8) (hi : i < T.length) {y : Int} (hy : y = x.toNat) : ByteRow (w.setCell ⟨g, i, none⟩ (.int .u8 y)) g (T.set i x) := by
  subst hy
  refine ⟨fun j hj => ?_, fun j => ?_⟩
  · have hj' : j < T.length := by simpa using hj
    by_cases hij : i = j
    · subst hij
      rw [World.cell?_setCell_same _ _ _ (h.cell i hi)]
      simp
    · rw [World.cell?_setCell_other _ _ _ _ (fun e => hij (by cases e; rfl)), h.cell j hj', List.getElem_set_ne hij]
  · rw [World.frozen?_setCell, List.length_set]
    exact h.free j
theorem ByteRow.kept {w w' : World} {g : Nat} {T : List UInt8} (h : ByteRow w g T) (hk : Kept Nil w w') (hne : T ≠ []) : ByteRow w' g T := by
  have h0 := h.cell 0 (List.length_pos_iff.2 hne)
  have hlt : g < w.heap.size := cell_lt h0
  have hb : w'.heap[g]? = w.heap[g]? := by rw [hk.block g _ (Array.getElem?_eq_getElem hlt) (fun x => x.elim), Array.getElem?_eq_getElem hlt]
  exact ⟨fun j hj => (World.cell?_of_block (w := w) (a := ⟨g, j, none⟩) hb).trans (h.cell j hj), fun j => by rw [World.frozen?_of_block (w := w) (a := ⟨g, j, none⟩) hb]; exact h.free j⟩
theorem ByteRow.new (w : World) (l : List UInt8) (cap : Nat) : ByteRow (w.alloc (.cells (bytesRow (bs l) cap) 5 ((bytesRow (bs l) cap).size, (bytesRow (bs l) cap).size + 1))).drew w.heap.size l := by
  refine ⟨fun j hj => ?_, fun j => ?_⟩
  · rw [sum_cell w l cap j _ hj]
    simp [List.getD_eq_getElem?_getD, hj]
  · by_cases hj : l.length ≤ j
    · exact .inr hj
    · left
      have hb : (w.alloc (.cells (bytesRow (bs l) cap) 5 ((bytesRow (bs l) cap).size, (bytesRow (bs l) cap).size + 1))).drew.heap[w.heap.size]? = some (.cells (bytesRow (bs l) cap) 5 ((bytesRow (bs l) cap).size, (bytesRow (bs l) cap).size + 1)) := blk_new w _
      have hs : l.length ≤ (bytesRow (bs l) cap).size := by simp [bytesRow, bs]
      unfold World.frozen?
      rw [hb]
      simp
      omega
theorem ByteRow.conv {w : World} {g : Nat} {T : List UInt8} (h : ByteRow w g T) (cap : Nat) :
    (convert 140 9 (.slice (some ⟨g, 0, none⟩) T.length cap)).run Try.prog w = .ok (.string (bs T)) w := by
  refine run_convert_bytes_back w 140 9 5 ⟨g, 0, none⟩ cap T Try.underlying140 Try.underlying5 Try.underlying9 ?_
  intro j hj
  have e : (⟨g, 0, none⟩ : Addr).add j = ⟨g, j, none⟩ := by unfold Addr.add; split <;> simp_all
  rw [e]
  exact h.cell j hj
end Go.Proofs.Ytpfgnhockfofhaa

/-
  Shards, plainly: bodies of frames, and what each step makes of hosts and of what is on its way.
-/
namespace Go.Proofs.Ytpfgnhockfofhaa
open Go.RowKit

/-- The texts of a range and its items. -/
def frP : List Pr → List (List UInt8)
  | [] => []
  | x :: t => x.k :: x.v :: frP t
def frB (fr up : List UInt8) (l : List Pr) : List (List UInt8) := fr :: up :: frP l
def packB (fr up : List UInt8) (l : List Pr) : List UInt8 := frames (frB fr up l)
def prsOf : List (List UInt8) → List Pr
  | k :: v :: t => ⟨k, v, 0⟩ :: prsOf t
  | _ => []
theorem frP_len (l : List Pr) : (frP l).length = 2 * l.length := by
  induction l with
  | nil => rfl
  | cons x t ih => simp only [frP, List.length_cons, ih]; omega
theorem prsOf_frP : ∀ {l : List Pr}, (∀ x ∈ l, x.n = 0) → prsOf (frP l) = l
  | [], _ => rfl
  | ⟨k, v, n⟩ :: t, h => by
    have h0 : n = 0 := h _ (List.mem_cons_self ..)
    subst h0
    unfold frP prsOf
    rw [prsOf_frP (fun x hx => h x (List.mem_cons_of_mem _ hx))]
/-- Frames taken apart. -/
def unFs : Nat → List UInt8 → List (List UInt8)
  | 0, _ => []
  | n + 1, b => if b = [] then [] else (unF b).1 :: unFs n (unF b).2.1
theorem unFs_frames : ∀ (bl : List (List UInt8)) (n : Nat), bl.length ≤ n → (∀ s ∈ bl, s.length ≤ 65536) → unFs n (frames bl) = bl
  | [], 0, _, _ => rfl
  | [], n + 1, _, _ => by unfold unFs; exact if_pos rfl
  | s :: t, 0, h, _ => by simp at h
  | s :: t, n + 1, h, hb => by
    unfold unFs
    rw [if_neg (frames_ne s t), frames_cons, unF_whole (hb s (List.mem_cons_self ..))]
    show s :: unFs n (frames t) = _
    rw [unFs_frames t n (by simpa using h) (fun x hx => hb x (List.mem_cons_of_mem _ hx))]
def unp (b : List UInt8) : Option (List UInt8 × List UInt8 × List Pr) := match unFs b.length b with
  | fr :: up :: t => some (fr, up, prsOf t)
  | _ => none
/-- May an item lie with a host? -/
def itOk (K : List (List UInt8)) (x : Pr) : Prop := x.k ∈ K ∧ x.k.length ≤ 16 ∧ x.v.length ≤ 64 ∧ x.n = 0
theorem frP_small {K : List (List UInt8)} : ∀ {l : List Pr}, (∀ x ∈ l, itOk K x) → ∀ s ∈ frP l, s.length ≤ 64
  | [], _, s, hs => by simp [frP] at hs
  | x :: t, h, s, hs => by
    obtain ⟨_, h1, h2, _⟩ := h x (List.mem_cons_self ..)
    simp only [frP, List.mem_cons] at hs
    rcases hs with rfl | rfl | hs
    · omega
    · omega
    · exact frP_small (fun y hy => h y (List.mem_cons_of_mem _ hy)) s hs
theorem frB_small {K : List (List UInt8)} {fr up : List UInt8} {l : List Pr} (hf : fr.length ≤ 16) (hu : up.length ≤ 16) (h : ∀ x ∈ l, itOk K x) : ∀ s ∈ frB fr up l, s.length ≤ 64 := fun s hs => by
  simp only [frB, List.mem_cons] at hs
  rcases hs with rfl | rfl | hs
  · omega
  · omega
  · exact frP_small h s hs
theorem unp_pack {K : List (List UInt8)} {fr up : List UInt8} {l : List Pr} (hf : fr.length ≤ 16) (hu : up.length ≤ 16) (h : ∀ x ∈ l, itOk K x) : unp (packB fr up l) = some (fr, up, l) := by
  unfold unp packB
  rw [unFs_frames _ _ (frames_len _) (fun s hs => by have := frB_small hf hu h s hs; omega)]
  show some (fr, up, prsOf (frP l)) = _
  rw [prsOf_frP (fun x hx => (h x hx).2.2.2)]
/-- A body that hosts send. -/
def GoodB (K : List (List UInt8)) (b : List UInt8) : Prop := ∃ fr up l, b = packB fr up l ∧ fr.length ≤ 16 ∧ up.length ≤ 16 ∧ someR fr up = true ∧ Srt l ∧ (∀ x ∈ l, itOk K x ∧ inR x.k fr up = true)
theorem frames_le {bl : List (List UInt8)} (h : ∀ s ∈ bl, s.length ≤ 64) : (frames bl).length ≤ 77 * bl.length := by
  induction bl with
  | nil => simp [frames]
  | cons s t ih =>
    have h0 := h s (List.mem_cons_self ..)
    have h1 : (enc s.length).length = 1 := by rw [enc_small (n := s.length) (by omega)]; rfl
    have h2 := ih (fun x hx => h x (List.mem_cons_of_mem _ hx))
    rw [frames_cons, List.length_append, encFrame_len, List.length_cons]
    omega
theorem nodup_len : ∀ {K l : List (List UInt8)}, l.Nodup → (∀ x ∈ l, x ∈ K) → l.length ≤ K.length
  | K, [], _, _ => Nat.zero_le _
  | K, x :: t, hn, h => by
    have hx := h x (List.mem_cons_self ..)
    obtain ⟨h1, h2⟩ := List.nodup_cons.1 hn
    have := nodup_len (K := K.erase x) h2 (fun y hy => (List.mem_erase_of_ne (show y ≠ x from fun e => h1 (e ▸ hy))).2 (h y (List.mem_cons_of_mem _ hy)))
    rw [List.length_erase_of_mem hx] at this
    have hp := List.length_pos_of_mem hx
    rw [List.length_cons]
    omega
theorem srt_len {K : List (List UInt8)} {l : List Pr} (hs : Srt l) (h : ∀ x ∈ l, itOk K x) : l.length ≤ K.length := by
  have hn : (l.map (·.k)).Nodup := by
    refine List.pairwise_map.2 (hs.imp (fun {a b} hab e => ?_))
    rw [e, less_irrefl] at hab
    cases hab
  have := nodup_len hn (K := K) (fun x hx => by
    obtain ⟨y, hy, rfl⟩ := List.mem_map.1 hx
    exact (h y hy).1)
  simpa using this
theorem GoodB.len {K : List (List UInt8)} {fr up : List UInt8} {l : List Pr} (hf : fr.length ≤ 16) (hu : up.length ≤ 16) (hs : Srt l) (h : ∀ x ∈ l, itOk K x) : (packB fr up l).length ≤ 77 * (2 + 2 * K.length) := by
  have h1 := frames_le (frB_small hf hu h)
  have h2 : (frB fr up l).length = 2 + 2 * l.length := by unfold frB; rw [List.length_cons, List.length_cons, frP_len]; omega
  have h3 := srt_len hs h
  unfold packB
  omega

/-- A step of a script. -/
structure Sp where
  kd : Int
  hs : Int
  ot : Int
  nn : Int
  ky : List UInt8
  up : List UInt8
  vl : List UInt8
/-- An answer: error, host, the result's kind and value. -/
structure An where
  er : Int
  ho : Int
  rk : Int
  rv : List UInt8
/-- Hosts (the first is number 1), and what is on its way. -/
structure Sd where
  n : Nat
  ho : Nat → Hd
  wy : List Pk
def hd0 : Hd := ⟨fun _ => oh0, [], [⟨[], 1⟩]⟩
def sd0 (n : Nat) : Sd := ⟨n, fun _ => hd0, []⟩
def applyH (s : Sp) (h : Hd) : Int × List UInt8 × Hd :=
  if s.kd = 1 then (1, [], { h with it := setI ⟨s.ky, s.vl, 0⟩ h.it })
  else if isThere s.ky h.it = false then (2, [], h)
  else if s.kd = 2 then (1, (match h.it[lowP s.ky h.it]? with | some x => x.v | none => []), h)
  else (1, [], { h with it := delI (lowP s.ky h.it) (lowP s.ky h.it + 1) h.it })
def answerH (id : Int) (s : Sp) (h : Hd) : An × Hd :=
  if hoAt s.ky h.kb = id then (⟨0, hoAt s.ky h.kb, (applyH s h).1, (applyH s h).2.1⟩, (applyH s h).2.2) else (⟨0, hoAt s.ky h.kb, 0, []⟩, h)
def endP (up : List UInt8) (ps : List Pr) : Nat := if up = [] then ps.length else lowP up ps
def midP (fr up : List UInt8) (ps : List Pr) : List Pr := (ps.drop (lowP fr ps)).take (endP up ps - lowP fr ps)
def giveHd (id : Int) (fr up : List UInt8) (dst : Nat) (h : Hd) : Int × Hd :=
  if hasB h.kb fr up id = false then (14, h)
  else if (h.os dst).wt.length = 16 then (4, h)
  else (0, ⟨upd h.os dst (sendO (h.os dst) (packB fr up (midP fr up h.it))), delI (lowP fr h.it) (endP up h.it) h.it, setB h.kb fr up dst⟩)
def setIs (l : List Pr) (ps : List Pr) : List Pr := l.foldl (fun a x => setI x a) ps
def takeHd (id : Int) (b : List UInt8) (h : Hd) : Hd := match unp b with
  | some (fr, up, l) => ⟨h.os, setIs l h.it, setB h.kb fr up id⟩
  | none => h
def rcvH (id : Int) (p : Pk) (h : Hd) : Hd := { h with os := if goodP id p = true then upd h.os p.fr.toNat (rcvO (h.os p.fr.toNat) p) else h.os }
def cmsH (id : Int) (p : Pk) (h : Hd) : List Pc := if goodP id p = true then rcvC (h.os p.fr.toNat) p else []
def aksH (id : Int) (p : Pk) (h : Hd) : List Pk := if goodP id p = true then rcvA id (h.os p.fr.toNat) p else []
def takesH (id : Int) (l : List Pc) (h : Hd) : Hd := l.foldl (fun a x => takeHd id x.bd a) h
def comeH (id : Int) (p : Pk) (h : Hd) : Hd := takesH id (cmsH id p h) (rcvH id p h)
/-- All that a host's relay has waiting goes on its way. -/
def sendS (i : Nat) (S : Sd) : Sd := { S with wy := S.wy ++ pksTo (i + 1 : Nat) (S.ho i).os 10 }
def comesS (p : Pk) (S : Sd) : Sd := { S with ho := upd S.ho (p.ds.toNat - 1) (comeH p.ds p (S.ho (p.ds.toNat - 1))), wy := S.wy ++ aksH p.ds p (S.ho (p.ds.toNat - 1)) }
def atW (n : Int) (m : Nat) : Nat := (n % m).toNat
def dropW (at' : Nat) (S : Sd) : Sd := { S with wy := S.wy.take at' ++ S.wy.drop (at' + 1) }
def carryS (kd n : Int) (S : Sd) : Sd := match S.wy[atW n S.wy.length]? with
  | none => S
  | some p => if kd = 6 then comesS p (dropW (atW n S.wy.length) S) else if kd = 7 then dropW (atW n S.wy.length) S else if kd = 8 then { S with wy := S.wy ++ [p] } else S
def isHo (n : Nat) (id : Int) : Bool := decide (1 ≤ id) && decide (id ≤ n)
def mayS (s : Sp) : Bool := !(s.ky.isEmpty && decide (s.kd < 4)) && (decide (s.ky.length ≤ 16) && (decide (s.up.length ≤ 16) && decide (s.vl.length ≤ 64)))
def an0 : An := ⟨0, 0, 0, []⟩
def anE (e : Int) : An := ⟨e, 0, 0, []⟩
def putH (S : Sd) (i : Nat) (h : Hd) : Sd := { S with ho := upd S.ho i h }
def doS (s : Sp) (S : Sd) : An × Sd :=
  if 6 ≤ s.kd then (an0, carryS s.kd s.nn S)
  else if isHo S.n s.hs = false then (anE 17, S)
  else if mayS s = false then (anE 5, S)
  else if 1 ≤ s.kd ∧ s.kd ≤ 3 then ((answerH s.hs s (S.ho (s.hs.toNat - 1))).1, putH S (s.hs.toNat - 1) (answerH s.hs s (S.ho (s.hs.toNat - 1))).2)
  else if s.kd = 4 then (if isHo S.n s.ot = false ∨ s.ot = s.hs then (anE 17, S) else
    (⟨(giveHd s.hs s.ky s.up s.ot.toNat (S.ho (s.hs.toNat - 1))).1, s.hs, 0, []⟩, putH S (s.hs.toNat - 1) (giveHd s.hs s.ky s.up s.ot.toNat (S.ho (s.hs.toNat - 1))).2))
  else if s.kd = 5 then (an0, sendS (s.hs.toNat - 1) S)
  else (an0, S)
def sendsS : Nat → Sd → Sd
  | 0, S => S
  | n + 1, S => sendS n (sendsS n S)
def carriesS : Nat → Sd → Sd
  | 0, S => S
  | n + 1, S => carryS 6 0 (carriesS n S)
def healS : Nat → Sd → Sd
  | 0, S => S
  | n + 1, S => carriesS 2000 (sendsS S.n (healS n S))
theorem sends_n (i : Nat) (S : Sd) : (sendsS i S).n = S.n := by
  induction i with
  | zero => rfl
  | succ i ih => exact ih
theorem carry_n (kd n : Int) (S : Sd) : (carryS kd n S).n = S.n := by
  unfold carryS
  split
  · rfl
  · repeat' split
    all_goals rfl
theorem carries_n (i : Nat) (S : Sd) : (carriesS i S).n = S.n := by
  induction i with
  | zero => rfl
  | succ i ih => exact (carry_n _ _ _).trans ih
theorem heal_n (i : Nat) (S : Sd) : (healS i S).n = S.n := by
  induction i with
  | zero => rfl
  | succ i ih => exact (carries_n _ _).trans ((sends_n _ _).trans ih)
end Go.Proofs.Ytpfgnhockfofhaa
