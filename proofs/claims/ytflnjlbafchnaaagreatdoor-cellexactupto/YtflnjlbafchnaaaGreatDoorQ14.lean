/-
  Joined: WCe4.
-/
import Derived.Test.YtflnjlbafchnaaaGreatDoorQ13
/-
  Cells: read (the program): what a text says.
-/
namespace Go.Proofs.YtflnjlbafchnaaaGreatDoor
open Go.RowKit

def ceZ : Ce := ⟨[], 0, 0, 0, 0⟩
def ceV (c : Ce) : Value := .agg #[.string (bs c.v), .int .i64 c.n, .int .i64 c.s, .int .i64 c.h, .int .i64 c.g]
def CrPost (w : World) (r : Option Ce) (e : Ending) (w' : World) : Prop := e = .returned (.tuple #[ceV (r.getD ceZ), .bool r.isSome]) ∧ Kept Nil w w'
theorem sets_mk (v : List UInt8) (s : Nat) (full : Bool) (l : List Nat) (hl : l.length = (ceSpec s full).length) (hv : full = false → s = 0 → True) : ceSets ⟨v, 0, s, 0, 0⟩ (nms s full) l = mkCe v s l := by
  unfold ceSpec at hl
  unfold nms
  by_cases h : s = 0
  · subst h
    cases full with
    | false =>
      match l, hl with
      | [a], _ => rfl
    | true =>
      match l, hl with
      | [a, b], _ => rfl
  · rw [if_neg h] at hl ⊢
    cases full with
    | false =>
      match l, hl with
      | [a, b], _ => simp [ceSets, ceSet, mkCe, h]
    | true =>
      match l, hl with
      | [a, b, c], _ => simp [ceSets, ceSet, mkCe]
theorem rdLeft_mk (v : List UInt8) (s : Nat) (full : Bool) (ws : List (List UInt8)) : rdLeft ⟨v, 0, s, 0, 0⟩ (nms s full) ws 0 = (ceRd ws (ceSpec s full)).map (mkCe v s) := by
  unfold rdLeft
  simp only [List.drop_zero]
  rw [nms_spec]
  cases h : ceRd ws (ceSpec s full) with
  | none => rfl
  | some l =>
    simp only [Option.map_some, Option.some.injEq]
    exact sets_mk v s full l (ceRd_len h).2 (fun _ _ => trivial)
theorem nms_len (s : Nat) (full : Bool) : (nms s full).length ≤ 3 := by
  unfold nms
  by_cases h : s = 0 <;> cases full <;> simp [h]
theorem nms_ok (s : Nat) (full : Bool) : ∀ x ∈ nms s full, (x.o = 3 ∨ x.o = 4 ∨ x.o = 1) ∧ x.m ≤ 999999 := by
  unfold nms
  by_cases h : s = 0 <;> cases full <;> simp [h]
/-- strings.Cut at the mark. -/
theorem cut_any (l : List UInt8) (hl : l.length < 4294967281) (w : World) (hL : LD w) :
    Calls Tryz.prog 177 #[.string (bs l), .string ⟨#[32, 61]⟩] w fun e w' => e = .returned (.tuple #[.string (bs (Lib.cut l [32, 61]).1), .string (bs (Lib.cut l [32, 61]).2.1), .bool (Lib.cut l [32, 61]).2.2]) ∧ Kept Nil w w' := by
  obtain ⟨m, hm⟩ := hL.m
  have hd : (bs l).data.toList = l := bs_data l
  refine (Tryz.strings_Cut (bs l) ⟨#[32, 61]⟩ m w (by rw [bs_size]; exact hl) hm).mono ?_
  rintro e w' ⟨rfl, n, rfl⟩
  rw [hd]
  exact ⟨rfl, (Kept.refl _ _).drewN n⟩
theorem cut_len (l : List UInt8) : (Lib.cut l [32, 61]).1.length ≤ l.length ∧ (Lib.cut l [32, 61]).2.1.length ≤ l.length := by
  unfold Lib.cut
  split
  · simp only [List.length_take, List.length_drop]
    omega
  · simp
theorem wrow_of {A N : Nat} {w : World} {ps : List (List UInt8)} (h : w.heap[N]? = some (.cells (ps.map fun x => Value.string (bs x)).toArray 9 (0, 0))) (hA : A ≠ N) (x : List UInt8) (ws : List (List UInt8)) (hp : ps = x :: ws) (ao : Option Addr) (ha : ws ≠ [] → ao = some ⟨N, 1, none⟩) : WRow A w ao ws := fun j hj => by
  refine ⟨⟨N, 1, none⟩, ha (fun e => by rw [e] at hj; simp at hj), fun X kX => ?_⟩
  have hb := kX.block _ _ h (fun e => hA (show N = A from e).symm)
  rw [Addr.add_lit, blk_cell hb, hp, Nat.add_comm 1 j]
  simp [hj]
theorem kept_one_new {A : Nat} {w a b : World} (h : Kept Nil w a) (k : Kept (One A) a b) (hA : w.heap.size ≤ A) : Kept Nil w b := by
  refine ⟨k.os.trans h.os, k.tape.trans h.tape, k.output.trans h.output, Nat.le_trans h.size k.size, fun q o hq _ => ?_⟩
  have hlt : q < w.heap.size := by
    rcases Nat.lt_or_ge q w.heap.size with h | h
    · exact h
    · rw [Array.getElem?_eq_none h] at hq; cases hq
  exact k.block q o (h.block q o hq (fun x => x)) (fun e => by have : q = A := e; omega)
set_option maxRecDepth 100000 in
set_option maxHeartbeats 4000000 in
theorem cread_any (l : List UInt8) (hl : l.length < 4294967281) (w : World) (hw20 : 14 ≤ w.heap.size) (hL : LW w) :
    Calls Tryz.prog 157 #[.string (bs l)] w (CrPost w (ceOf l)) := by
  obtain ⟨r, HR⟩ : ∃ r, Hid (r = ceOf l) := ⟨_, rfl⟩
  rw [← HR.out]
  obtain ⟨W, hW⟩ : ∃ W, W = w.alloc (.cells #[.string ⟨#[]⟩, .int .i64 0, .int .i64 0, .int .i64 0, .int .i64 0] 131) := ⟨_, rfl⟩
  obtain ⟨R, HRe⟩ : ∃ A, Hid (A = w.heap.size) := ⟨_, rfl⟩
  have KW : Hid (Kept Nil w W) := by rw [hW]; exact (Kept.refl _ _).alloc _
  have HAW : Hid (CeAt W R ceZ) := by rw [hW, HRe.out]; exact blk_new _ _
  have HRw : Hid (w.heap.size ≤ R) := by show _ ≤ _; rw [HRe.out]; exact Nat.le_refl _
  have HLw : Hid (LW w) := hL
  have CU := cut_any l hl W (hL.kept KW.out).l
  obtain ⟨hd, Hhd⟩ : ∃ hd, Hid (hd = (Lib.cut l [32, 61]).1) := ⟨_, rfl⟩
  obtain ⟨v, Hv⟩ : ∃ v, Hid (v = (Lib.cut l [32, 61]).2.1) := ⟨_, rfl⟩
  obtain ⟨full, Hf⟩ : ∃ f, Hid (f = (Lib.cut l [32, 61]).2.2) := ⟨_, rfl⟩
  have HR2 : Hid (r = ceBy (pcs hd) v full) := by show _ = _; rw [HR.out, Hhd.out, Hv.out, Hf.out]; rfl
  have hhl : hd.length < 4294967281 := by rw [Hhd.out]; have := (cut_len l).1; omega
  have hvl : v.length < 4294967281 := by rw [Hv.out]; have := (cut_len l).2; omega
  rw [← Hhd.out, ← Hv.out, ← Hf.out] at CU
  have HHL : Hid (hd.length < 4294967281) := hhl
  obtain ⟨x, ws, hp⟩ : ∃ x rest, pcs hd = x :: rest := by
    cases h : pcs hd with
    | nil => exact absurd h (pcs_ne hd)
    | cons x rest => exact ⟨x, rest, rfl⟩
  have HP : Hid (pcs hd = x :: ws) := hp
  have hz : (bs v).size = v.length := bs_size v
  clear hL hl HR Hhd Hv Hf hhl hp
  go_enter Tryz.func157, Tryz.ntmps157
  go_wp2_with fail
  rw [← hW, ← HRe.out]
  clear hW
  go_fit CU
  clear CU
  rintro _ w1 ⟨rfl, k1⟩
  have K1 : Hid (Kept Nil W w1) := k1
  clear k1
  have SP := split_any hd HHL.out w1 (HLw.out.kept (KW.out.trans K1.out)).l
  obtain ⟨W1, hW1⟩ : ∃ W1, W1 = w1.alloc (.cells ((pcs hd).map fun x => Value.string (bs x)).toArray 9) := ⟨_, rfl⟩
  obtain ⟨N, HN⟩ : ∃ N, Hid (N = w1.heap.size) := ⟨_, rfl⟩
  obtain ⟨k, HK⟩ : ∃ k, Hid (k = (pcs hd).length) := ⟨_, rfl⟩
  rw [← hW1, ← HN.out, ← HK.out] at SP
  have K2 : Hid (Kept Nil w W1) := by rw [hW1]; exact (KW.out.trans K1.out).alloc _
  have K2W : Hid (Kept Nil W W1) := by rw [hW1]; exact K1.out.alloc _
  have HPb : Hid (W1.heap[N]? = some (.cells ((pcs hd).map fun x => Value.string (bs x)).toArray 9 (0, 0))) := by rw [hW1, HN.out]; exact blk_new _ _
  have q0 : W1.cell? ⟨N, 0, none⟩ = some (.string (bs x)) := blk_at HPb.out 0 (by rw [HP.out]; rfl)
  have HNR : Hid (N ≠ R) := by show _ ≠ _; have := lt_of_block (K1.out.block _ _ HAW.out (fun x => x.elim)); rw [HN.out]; omega
  have hk1 : 1 ≤ k := by rw [HK.out, HP.out]; simp
  have HKw : Hid (k = ws.length + 1) := by show _ = _; rw [HK.out, HP.out]; simp
  have hk2 : k ≤ 9000000000000000000 := by
    have h1 := count_pcs hd
    have h2 := Lib.count_le hd [32]
    have h3 := HK.out
    have h4 := HHL.out
    omega
  have HWS : Hid (∀ y ∈ ws, y.length ≤ 281474976710656) := fun y hy => by
    have h1 := pcs_len hd y (by rw [HP.out]; simp [hy])
    have h2 := HHL.out
    omega
  clear hW1
  have SA := saysOf_any x W1 (HLw.out.kept K2.out)
  go_wp2_with fail
  go_fit SP
  clear SP
  rintro _ wq ⟨rfl, hwq⟩
  rw [hwq]
  clear hwq wq
  go_wp2_with fail
  go_fit SA
  clear SA
  rintro _ wq ⟨rfl, hwq⟩
  rw [hwq]
  clear hwq wq
  have HAW1 : Hid (CeAt W1 R ceZ) := K2W.out.block _ _ HAW.out (fun x => x.elim)
  -- what is refused ahead of the numbers
  by_cases bad : sayOf x = none ∨ (full = true ∧ sayOf x = some 2) ∨ 32 < v.length
  · obtain rfl : r = none := by
      rw [HR2.out]
      unfold ceBy
      rw [HP.out]
      simp only
      rcases bad with h | ⟨h1, h2⟩ | h
      · rw [h]
      · rw [h2]
        simp [h1]
      · cases sayOf x with
        | none => rfl
        | some s => simp only; rw [if_pos (.inr h)]
    have r0 : W1.cell? ⟨R, 0, none⟩ = some (.string ⟨#[]⟩) := blk_at HAW1.out 0 rfl
    have r1 : W1.cell? ⟨R, 1, none⟩ = some (.int .i64 0) := blk_at HAW1.out 1 rfl
    have r2 : W1.cell? ⟨R, 2, none⟩ = some (.int .i64 0) := blk_at HAW1.out 2 rfl
    have r3 : W1.cell? ⟨R, 3, none⟩ = some (.int .i64 0) := blk_at HAW1.out 3 rfl
    have r4 : W1.cell? ⟨R, 4, none⟩ = some (.int .i64 0) := blk_at HAW1.out 4 rfl
    have z0 := blk_free HAW1.out 0
    have z1 := blk_free HAW1.out 1
    have z2 := blk_free HAW1.out 2
    have z3 := blk_free HAW1.out 3
    have z4 := blk_free HAW1.out 4
    obtain ⟨V, hV⟩ : ∃ V, V = ((((W1.setCell ⟨R, 0, none⟩ (.string ⟨#[]⟩)).setCell ⟨R, 1, none⟩ (.int .i64 0)).setCell ⟨R, 2, none⟩ (.int .i64 0)).setCell ⟨R, 3, none⟩ (.int .i64 0)).setCell ⟨R, 4, none⟩ (.int .i64 0) := ⟨_, rfl⟩
    have HV : Hid (CeAt V R ceZ ∧ Kept Nil w V) := by rw [hV]; exact ⟨blk_set (blk_set (blk_set (blk_set (blk_set HAW1.out 0 _) 1 _) 2 _) 3 _) 4 _, ((((K2.out.setNew (p := ⟨R, 0, none⟩) HRw.out _).setNew (p := ⟨R, 1, none⟩) HRw.out _).setNew (p := ⟨R, 2, none⟩) HRw.out _).setNew (p := ⟨R, 3, none⟩) HRw.out _).setNew (p := ⟨R, 4, none⟩) HRw.out _⟩
    have hb : sayB x = false ∨ (sayB x = true ∧ full = true ∧ sayR x = 2) ∨ (sayB x = true ∧ 32 < v.length) := by
      unfold sayB sayR
      cases h : sayOf x with
      | none => exact .inl rfl
      | some s =>
        rcases bad with e | ⟨e1, e2⟩ | e
        · rw [h] at e; cases e
        · rw [h] at e2; cases e2; exact .inr (.inl ⟨rfl, e1, rfl⟩)
        · exact .inr (.inr ⟨rfl, e⟩)
    clear bad
    rcases hb with hb | ⟨hb, hf, hs⟩ | ⟨hb, hvv⟩
    · rw [hb]
      clear hb
      go_wp2
      rw [← hV]
      clear hV r0 r1 r2 r3 r4
      have j0 := blk_at HV.out.1 0 rfl
      have j1 := blk_at HV.out.1 1 rfl
      have j2 := blk_at HV.out.1 2 rfl
      have j3 := blk_at HV.out.1 3 rfl
      have j4 := blk_at HV.out.1 4 rfl
      exact bodyPost_ret (v := .tuple #[ceV ceZ, .bool false]) (by simp [results, Tryz.results157, go_sem, j0, j1, j2, j3, j4, ceV, ceZ]) rfl ⟨rfl, HV.out.2⟩
    · rw [hb, hs]
      subst hf
      clear hb hs
      go_wp2
      rw [← hV]
      clear hV r0 r1 r2 r3 r4
      have j0 := blk_at HV.out.1 0 rfl
      have j1 := blk_at HV.out.1 1 rfl
      have j2 := blk_at HV.out.1 2 rfl
      have j3 := blk_at HV.out.1 3 rfl
      have j4 := blk_at HV.out.1 4 rfl
      exact bodyPost_ret (v := .tuple #[ceV ceZ, .bool false]) (by simp [results, Tryz.results157, go_sem, j0, j1, j2, j3, j4, ceV, ceZ]) rfl ⟨rfl, HV.out.2⟩
    · rw [hb]
      clear hb
      by_cases hff : full = true ∧ sayR x = 2
      · rw [hff.1, hff.2]
        clear hff
        go_wp2
        rw [← hV]
        clear hV r0 r1 r2 r3 r4
        have j0 := blk_at HV.out.1 0 rfl
        have j1 := blk_at HV.out.1 1 rfl
        have j2 := blk_at HV.out.1 2 rfl
        have j3 := blk_at HV.out.1 3 rfl
        have j4 := blk_at HV.out.1 4 rfl
        exact bodyPost_ret (v := .tuple #[ceV ceZ, .bool false]) (by simp [results, Tryz.results157, go_sem, j0, j1, j2, j3, j4, ceV, ceZ]) rfl ⟨rfl, HV.out.2⟩
      · have hlt : (32 : Int) < v.length := by omega
        cases full with
        | false =>
          clear hff
          go_wp2
          rw [← hV]
          clear hV r0 r1 r2 r3 r4
          have j0 := blk_at HV.out.1 0 rfl
          have j1 := blk_at HV.out.1 1 rfl
          have j2 := blk_at HV.out.1 2 rfl
          have j3 := blk_at HV.out.1 3 rfl
          have j4 := blk_at HV.out.1 4 rfl
          exact bodyPost_ret (v := .tuple #[ceV ceZ, .bool false]) (by simp [results, Tryz.results157, go_sem, j0, j1, j2, j3, j4, ceV, ceZ]) rfl ⟨rfl, HV.out.2⟩
        | true =>
          have hs2 : ((sayR x : Int) == 2) = false := by
            have : sayR x ≠ 2 := fun e => hff ⟨rfl, e⟩
            simp
            omega
          clear hff
          go_wp2
          rw [← hV]
          clear hV r0 r1 r2 r3 r4
          have j0 := blk_at HV.out.1 0 rfl
          have j1 := blk_at HV.out.1 1 rfl
          have j2 := blk_at HV.out.1 2 rfl
          have j3 := blk_at HV.out.1 3 rfl
          have j4 := blk_at HV.out.1 4 rfl
          exact bodyPost_ret (v := .tuple #[ceV ceZ, .bool false]) (by simp [results, Tryz.results157, go_sem, j0, j1, j2, j3, j4, ceV, ceZ]) rfl ⟨rfl, HV.out.2⟩
  · obtain ⟨s, hs⟩ : ∃ s, sayOf x = some s := by
      cases h : sayOf x with
      | none => exact absurd (.inl h) bad
      | some s => exact ⟨s, rfl⟩
    have hs2 : ¬ (full = true ∧ s = 2) := fun e => bad (.inr (.inl ⟨e.1, by rw [hs, e.2]⟩))
    have hv32 : v.length ≤ 32 := by
      rcases Nat.lt_or_ge 32 v.length with h | h
      · exact absurd (.inr (.inr h)) bad
      · exact h
    have e1 : sayR x = s := by unfold sayR; rw [hs]; rfl
    have e2 : sayB x = true := by unfold sayB; rw [hs]; rfl
    rw [e1, e2]
    have HR3 : Hid (r = rdLeft ⟨v, 0, s, 0, 0⟩ (nms s full) ws 0) := by
      show _ = _
      rw [HR2.out, rdLeft_mk]
      unfold ceBy
      rw [HP.out]
      simp only
      rw [hs]
      simp only
      rw [if_neg (by rintro (h | h); exact hs2 h; omega)]
    clear bad hs e1 e2 HR2
    obtain ⟨V, hV⟩ : ∃ V, V = W1.alloc (.cells #[.string (bs v), .int .i64 0, .int .i64 s, .int .i64 0, .int .i64 0] 131) := ⟨_, rfl⟩
    obtain ⟨A, HAe⟩ : ∃ A, Hid (A = W1.heap.size) := ⟨_, rfl⟩
    have HC : Hid (CeAt V A ⟨v, 0, s, 0, 0⟩) := by rw [hV, HAe.out]; exact blk_new _ _
    have HKV : Hid (Kept Nil W1 V) := by rw [hV]; exact (Kept.refl _ _).alloc _
    have HA20 : Hid (14 ≤ A) := by show _ ≤ _; rw [HAe.out]; have := K2.out.size; omega
    have HAw : Hid (w.heap.size ≤ A) := by show _ ≤ _; rw [HAe.out]; exact K2.out.size
    have HAR : Hid (A ≠ R) := by show _ ≠ _; rw [HAe.out]; have := lt_of_block HAW1.out; omega
    have HAN : Hid (A ≠ N) := by show _ ≠ _; rw [HAe.out]; have := lt_of_block HPb.out; omega
    obtain ⟨ns, Hns⟩ : ∃ ns, Hid (ns = nms s full) := ⟨_, rfl⟩
    have HNL : Hid (ns.length ≤ 3 ∧ ∀ x ∈ ns, (x.o = 3 ∨ x.o = 4 ∨ x.o = 1) ∧ x.m ≤ 999999) := by rw [Hns.out]; exact ⟨nms_len _ _, nms_ok _ _⟩
    rw [← Hns.out] at HR3
    have NU : ∀ X, Kept Nil V X → Calls Tryz.prog 180 #[.pointer (some ⟨A, 0, none⟩), .bool full] X (NumPost X A ns) := fun X kX => by
      have := numbers_any X A ⟨v, 0, s, 0, 0⟩ (kX.block _ _ HC.out (fun x => x.elim)) full
      rw [Hns.out]
      exact this
    obtain ⟨wo, Hwo⟩ : ∃ wo : Option Addr, Hid (wo = if ws.length = 0 then some ⟨N, 0, none⟩ else some ⟨N, 1, none⟩) := ⟨_, rfl⟩
    have RAc : ∀ Y no nc, (∃ X, Kept Nil V X ∧ OwnN A X.heap.size Y no nc ns ∧ Kept Nil X Y) → ∀ Z, Kept Nil Y Z → Calls Tryz.prog 179 #[.slice wo ws.length ws.length, .slice no ns.length nc] Z (RaPost Z A r) := fun Y no nc ⟨X, kX, ho, kY⟩ Z kZ => by
      have kVZ := (kX.trans kY).trans kZ
      have hrow : NRow A Y no ns := ho.row (by have := lt_of_block (kX.block _ _ HC.out (fun x => x.elim)); omega)
      have hrowZ : NRow A Z no ns := fun j hj => by
        obtain ⟨a, ea, ha⟩ := hrow j hj
        exact ⟨a, ea, fun X' kX' => ha X' ((kZ.mono (fun _ _ e => e.elim)).trans kX')⟩
      have hpz : Z.heap[N]? = some (.cells ((pcs hd).map fun x => Value.string (bs x)).toArray 9 (0, 0)) := kVZ.block _ _ (HKV.out.block _ _ HPb.out (fun x => x.elim)) (fun x => x.elim)
      have := readAll_any Z A ⟨v, 0, s, 0, 0⟩ (kVZ.block _ _ HC.out (fun x => x.elim)) ns no nc hrowZ ws wo ws.length (wrow_of hpz HAN.out x ws HP.out wo (fun e => by rw [Hwo.out, if_neg (by simpa using e)])) HNL.out.1 HNL.out.2 HWS.out HA20.out (HLw.out.kept ((K2.out.trans HKV.out).trans kVZ))
      rw [HR3.out]
      exact this
    have hz32 : ¬ (32 : Int) < v.length := by omega
    have hkk : k = ws.length + 1 := HKw.out
    obtain ⟨n, hn⟩ : ∃ n, n = ws.length := ⟨_, rfl⟩
    have HWn : Hid (n = ws.length) := hn
    rw [← hn] at RAc hkk
    rw [← HWn.out] at Hwo
    clear hn
    subst hkk
    have hsd : full = true → ((s : Int) == 2) = false := fun e => by
      have : s ≠ 2 := fun e2 => hs2 ⟨e, e2⟩
      simp
      omega
    clear hs2 HKw HK
    cases full with
    | false =>
      clear hsd
      cases n with
      | zero =>
        obtain rfl : wo = some ⟨N, 0, none⟩ := by rw [Hwo.out]; rfl
        go_upto_region 7 with fail
        rw [← hV, ← HAe.out]
        clear hV
        go_region_with (first | (go_at_call 180; go_must (go_fit (NU _ (by repeat (first | exact Kept.refl _ _ | refine Kept.drew ?_)))); rintro _ w3 ⟨no, nc, rfl, ho, k3⟩; have HO3 : Hid (∃ X, Kept Nil V X ∧ OwnN A X.heap.size w3 no nc ns ∧ Kept Nil X w3) := ⟨_, (by repeat (first | exact Kept.refl _ _ | refine Kept.drew ?_)), ho, k3⟩; clear ho k3) | (go_at_call 179; go_must (go_fit (RAc _ _ _ HO3.out _ (by repeat (first | exact Kept.refl _ _ | refine Kept.drew ?_)))); rintro _ w4 ⟨rfl, hc4, k4⟩; have HW4 : Hid (Kept (One A) w3 w4) := (by first | exact k4 | exact (Kept.refl _ _).drew.trans k4); have HC4 : Hid (∃ c, CeAt w4 A c ∧ (r = none ∨ r = some c)) := hc4; clear hc4 k4))
        all_goals
          have HF4 : Hid (CeAt w4 R ceZ ∧ Kept Nil w w4) := by
            obtain ⟨X, kX, _, kY⟩ := HO3.out
            have kk : Kept Nil W1 w3 := HKV.out.trans (kX.trans kY)
            exact ⟨HW4.out.block _ _ (kk.block _ _ HAW1.out (fun x => x)) (fun e => HAR.out (show R = A from e).symm), kept_one_new (K2.out.trans kk) HW4.out HAw.out⟩
          have z0 := blk_free HF4.out.1 0
          have z1 := blk_free HF4.out.1 1
          have z2 := blk_free HF4.out.1 2
          have z3 := blk_free HF4.out.1 3
          have z4 := blk_free HF4.out.1 4
          have r0 : w4.cell? ⟨R, 0, none⟩ = some (.string ⟨#[]⟩) := blk_at HF4.out.1 0 rfl
          have r1 : w4.cell? ⟨R, 1, none⟩ = some (.int .i64 0) := blk_at HF4.out.1 1 rfl
          have r2 : w4.cell? ⟨R, 2, none⟩ = some (.int .i64 0) := blk_at HF4.out.1 2 rfl
          have r3 : w4.cell? ⟨R, 3, none⟩ = some (.int .i64 0) := blk_at HF4.out.1 3 rfl
          have r4 : w4.cell? ⟨R, 4, none⟩ = some (.int .i64 0) := blk_at HF4.out.1 4 rfl
          cases r with
          | none =>
            obtain ⟨Y, hY⟩ : ∃ Y, Y = ((((w4.setCell ⟨R, 0, none⟩ (.string ⟨#[]⟩)).setCell ⟨R, 1, none⟩ (.int .i64 0)).setCell ⟨R, 2, none⟩ (.int .i64 0)).setCell ⟨R, 3, none⟩ (.int .i64 0)).setCell ⟨R, 4, none⟩ (.int .i64 0) := ⟨_, rfl⟩
            have HY : Hid (CeAt Y R ceZ ∧ Kept Nil w Y) := by rw [hY]; exact ⟨blk_set (blk_set (blk_set (blk_set (blk_set HF4.out.1 0 _) 1 _) 2 _) 3 _) 4 _, ((((HF4.out.2.setNew (p := ⟨R, 0, none⟩) HRw.out _).setNew (p := ⟨R, 1, none⟩) HRw.out _).setNew (p := ⟨R, 2, none⟩) HRw.out _).setNew (p := ⟨R, 3, none⟩) HRw.out _).setNew (p := ⟨R, 4, none⟩) HRw.out _⟩
            go_wp2
            rw [← hY]
            clear hY r0 r1 r2 r3 r4
            have j0 := blk_at HY.out.1 0 rfl
            have j1 := blk_at HY.out.1 1 rfl
            have j2 := blk_at HY.out.1 2 rfl
            have j3 := blk_at HY.out.1 3 rfl
            have j4 := blk_at HY.out.1 4 rfl
            exact bodyPost_ret (v := .tuple #[ceV ceZ, .bool false]) (by simp [results, Tryz.results157, go_sem, j0, j1, j2, j3, j4, ceV, ceZ]) rfl ⟨rfl, HY.out.2⟩
          | some c =>
            have HC5 : Hid (CeAt w4 A c) := by
              obtain ⟨c', h1, h2⟩ := HC4.out
              rcases h2 with h2 | h2
              · cases h2
              · cases h2
                exact h1
            obtain ⟨cv, cn, cs, ch, cg⟩ := c
            have a0 : w4.cell? ⟨A, 0, none⟩ = some (.string (bs cv)) := blk_at HC5.out 0 rfl
            have a1 : w4.cell? ⟨A, 1, none⟩ = some (.int .i64 cn) := blk_at HC5.out 1 rfl
            have a2 : w4.cell? ⟨A, 2, none⟩ = some (.int .i64 cs) := blk_at HC5.out 2 rfl
            have a3 : w4.cell? ⟨A, 3, none⟩ = some (.int .i64 ch) := blk_at HC5.out 3 rfl
            have a4 : w4.cell? ⟨A, 4, none⟩ = some (.int .i64 cg) := blk_at HC5.out 4 rfl
            obtain ⟨Y, hY⟩ : ∃ Y, Y = ((((w4.setCell ⟨R, 0, none⟩ (.string (bs cv))).setCell ⟨R, 1, none⟩ (.int .i64 cn)).setCell ⟨R, 2, none⟩ (.int .i64 cs)).setCell ⟨R, 3, none⟩ (.int .i64 ch)).setCell ⟨R, 4, none⟩ (.int .i64 cg) := ⟨_, rfl⟩
            have HY : Hid (CeAt Y R ⟨cv, cn, cs, ch, cg⟩ ∧ Kept Nil w Y) := by rw [hY]; exact ⟨blk_set (blk_set (blk_set (blk_set (blk_set HF4.out.1 0 _) 1 _) 2 _) 3 _) 4 _, ((((HF4.out.2.setNew (p := ⟨R, 0, none⟩) HRw.out _).setNew (p := ⟨R, 1, none⟩) HRw.out _).setNew (p := ⟨R, 2, none⟩) HRw.out _).setNew (p := ⟨R, 3, none⟩) HRw.out _).setNew (p := ⟨R, 4, none⟩) HRw.out _⟩
            go_wp2
            rw [← hY]
            clear hY r0 r1 r2 r3 r4 a0 a1 a2 a3 a4
            have j0 := blk_at HY.out.1 0 rfl
            have j1 := blk_at HY.out.1 1 rfl
            have j2 := blk_at HY.out.1 2 rfl
            have j3 := blk_at HY.out.1 3 rfl
            have j4 := blk_at HY.out.1 4 rfl
            exact bodyPost_ret (v := .tuple #[ceV ⟨cv, cn, cs, ch, cg⟩, .bool true]) (by simp [results, Tryz.results157, go_sem, j0, j1, j2, j3, j4, ceV]) rfl ⟨rfl, HY.out.2⟩
      | succ n =>
        obtain rfl : wo = some ⟨N, 1, none⟩ := by rw [Hwo.out]; rfl
        go_upto_region 7 with fail
        rw [← hV, ← HAe.out]
        clear hV
        go_region_with (first | (go_at_call 180; go_must (go_fit (NU _ (by repeat (first | exact Kept.refl _ _ | refine Kept.drew ?_)))); rintro _ w3 ⟨no, nc, rfl, ho, k3⟩; have HO3 : Hid (∃ X, Kept Nil V X ∧ OwnN A X.heap.size w3 no nc ns ∧ Kept Nil X w3) := ⟨_, (by repeat (first | exact Kept.refl _ _ | refine Kept.drew ?_)), ho, k3⟩; clear ho k3) | (go_at_call 179; go_must (go_fit (RAc _ _ _ HO3.out _ (by repeat (first | exact Kept.refl _ _ | refine Kept.drew ?_)))); rintro _ w4 ⟨rfl, hc4, k4⟩; have HW4 : Hid (Kept (One A) w3 w4) := (by first | exact k4 | exact (Kept.refl _ _).drew.trans k4); have HC4 : Hid (∃ c, CeAt w4 A c ∧ (r = none ∨ r = some c)) := hc4; clear hc4 k4))
        all_goals
          have HF4 : Hid (CeAt w4 R ceZ ∧ Kept Nil w w4) := by
            obtain ⟨X, kX, _, kY⟩ := HO3.out
            have kk : Kept Nil W1 w3 := HKV.out.trans (kX.trans kY)
            exact ⟨HW4.out.block _ _ (kk.block _ _ HAW1.out (fun x => x)) (fun e => HAR.out (show R = A from e).symm), kept_one_new (K2.out.trans kk) HW4.out HAw.out⟩
          have z0 := blk_free HF4.out.1 0
          have z1 := blk_free HF4.out.1 1
          have z2 := blk_free HF4.out.1 2
          have z3 := blk_free HF4.out.1 3
          have z4 := blk_free HF4.out.1 4
          have r0 : w4.cell? ⟨R, 0, none⟩ = some (.string ⟨#[]⟩) := blk_at HF4.out.1 0 rfl
          have r1 : w4.cell? ⟨R, 1, none⟩ = some (.int .i64 0) := blk_at HF4.out.1 1 rfl
          have r2 : w4.cell? ⟨R, 2, none⟩ = some (.int .i64 0) := blk_at HF4.out.1 2 rfl
          have r3 : w4.cell? ⟨R, 3, none⟩ = some (.int .i64 0) := blk_at HF4.out.1 3 rfl
          have r4 : w4.cell? ⟨R, 4, none⟩ = some (.int .i64 0) := blk_at HF4.out.1 4 rfl
          cases r with
          | none =>
            obtain ⟨Y, hY⟩ : ∃ Y, Y = ((((w4.setCell ⟨R, 0, none⟩ (.string ⟨#[]⟩)).setCell ⟨R, 1, none⟩ (.int .i64 0)).setCell ⟨R, 2, none⟩ (.int .i64 0)).setCell ⟨R, 3, none⟩ (.int .i64 0)).setCell ⟨R, 4, none⟩ (.int .i64 0) := ⟨_, rfl⟩
            have HY : Hid (CeAt Y R ceZ ∧ Kept Nil w Y) := by rw [hY]; exact ⟨blk_set (blk_set (blk_set (blk_set (blk_set HF4.out.1 0 _) 1 _) 2 _) 3 _) 4 _, ((((HF4.out.2.setNew (p := ⟨R, 0, none⟩) HRw.out _).setNew (p := ⟨R, 1, none⟩) HRw.out _).setNew (p := ⟨R, 2, none⟩) HRw.out _).setNew (p := ⟨R, 3, none⟩) HRw.out _).setNew (p := ⟨R, 4, none⟩) HRw.out _⟩
            go_wp2
            rw [← hY]
            clear hY r0 r1 r2 r3 r4
            have j0 := blk_at HY.out.1 0 rfl
            have j1 := blk_at HY.out.1 1 rfl
            have j2 := blk_at HY.out.1 2 rfl
            have j3 := blk_at HY.out.1 3 rfl
            have j4 := blk_at HY.out.1 4 rfl
            exact bodyPost_ret (v := .tuple #[ceV ceZ, .bool false]) (by simp [results, Tryz.results157, go_sem, j0, j1, j2, j3, j4, ceV, ceZ]) rfl ⟨rfl, HY.out.2⟩
          | some c =>
            have HC5 : Hid (CeAt w4 A c) := by
              obtain ⟨c', h1, h2⟩ := HC4.out
              rcases h2 with h2 | h2
              · cases h2
              · cases h2
                exact h1
            obtain ⟨cv, cn, cs, ch, cg⟩ := c
            have a0 : w4.cell? ⟨A, 0, none⟩ = some (.string (bs cv)) := blk_at HC5.out 0 rfl
            have a1 : w4.cell? ⟨A, 1, none⟩ = some (.int .i64 cn) := blk_at HC5.out 1 rfl
            have a2 : w4.cell? ⟨A, 2, none⟩ = some (.int .i64 cs) := blk_at HC5.out 2 rfl
            have a3 : w4.cell? ⟨A, 3, none⟩ = some (.int .i64 ch) := blk_at HC5.out 3 rfl
            have a4 : w4.cell? ⟨A, 4, none⟩ = some (.int .i64 cg) := blk_at HC5.out 4 rfl
            obtain ⟨Y, hY⟩ : ∃ Y, Y = ((((w4.setCell ⟨R, 0, none⟩ (.string (bs cv))).setCell ⟨R, 1, none⟩ (.int .i64 cn)).setCell ⟨R, 2, none⟩ (.int .i64 cs)).setCell ⟨R, 3, none⟩ (.int .i64 ch)).setCell ⟨R, 4, none⟩ (.int .i64 cg) := ⟨_, rfl⟩
            have HY : Hid (CeAt Y R ⟨cv, cn, cs, ch, cg⟩ ∧ Kept Nil w Y) := by rw [hY]; exact ⟨blk_set (blk_set (blk_set (blk_set (blk_set HF4.out.1 0 _) 1 _) 2 _) 3 _) 4 _, ((((HF4.out.2.setNew (p := ⟨R, 0, none⟩) HRw.out _).setNew (p := ⟨R, 1, none⟩) HRw.out _).setNew (p := ⟨R, 2, none⟩) HRw.out _).setNew (p := ⟨R, 3, none⟩) HRw.out _).setNew (p := ⟨R, 4, none⟩) HRw.out _⟩
            go_wp2
            rw [← hY]
            clear hY r0 r1 r2 r3 r4 a0 a1 a2 a3 a4
            have j0 := blk_at HY.out.1 0 rfl
            have j1 := blk_at HY.out.1 1 rfl
            have j2 := blk_at HY.out.1 2 rfl
            have j3 := blk_at HY.out.1 3 rfl
            have j4 := blk_at HY.out.1 4 rfl
            exact bodyPost_ret (v := .tuple #[ceV ⟨cv, cn, cs, ch, cg⟩, .bool true]) (by simp [results, Tryz.results157, go_sem, j0, j1, j2, j3, j4, ceV]) rfl ⟨rfl, HY.out.2⟩
    | true =>
      have hsd := hsd rfl
      cases n with
      | zero =>
        obtain rfl : wo = some ⟨N, 0, none⟩ := by rw [Hwo.out]; rfl
        go_upto_region 7 with fail
        rw [← hV, ← HAe.out]
        clear hV
        go_region_with (first | (go_at_call 180; go_must (go_fit (NU _ (by repeat (first | exact Kept.refl _ _ | refine Kept.drew ?_)))); rintro _ w3 ⟨no, nc, rfl, ho, k3⟩; have HO3 : Hid (∃ X, Kept Nil V X ∧ OwnN A X.heap.size w3 no nc ns ∧ Kept Nil X w3) := ⟨_, (by repeat (first | exact Kept.refl _ _ | refine Kept.drew ?_)), ho, k3⟩; clear ho k3) | (go_at_call 179; go_must (go_fit (RAc _ _ _ HO3.out _ (by repeat (first | exact Kept.refl _ _ | refine Kept.drew ?_)))); rintro _ w4 ⟨rfl, hc4, k4⟩; have HW4 : Hid (Kept (One A) w3 w4) := (by first | exact k4 | exact (Kept.refl _ _).drew.trans k4); have HC4 : Hid (∃ c, CeAt w4 A c ∧ (r = none ∨ r = some c)) := hc4; clear hc4 k4))
        all_goals
          have HF4 : Hid (CeAt w4 R ceZ ∧ Kept Nil w w4) := by
            obtain ⟨X, kX, _, kY⟩ := HO3.out
            have kk : Kept Nil W1 w3 := HKV.out.trans (kX.trans kY)
            exact ⟨HW4.out.block _ _ (kk.block _ _ HAW1.out (fun x => x)) (fun e => HAR.out (show R = A from e).symm), kept_one_new (K2.out.trans kk) HW4.out HAw.out⟩
          have z0 := blk_free HF4.out.1 0
          have z1 := blk_free HF4.out.1 1
          have z2 := blk_free HF4.out.1 2
          have z3 := blk_free HF4.out.1 3
          have z4 := blk_free HF4.out.1 4
          have r0 : w4.cell? ⟨R, 0, none⟩ = some (.string ⟨#[]⟩) := blk_at HF4.out.1 0 rfl
          have r1 : w4.cell? ⟨R, 1, none⟩ = some (.int .i64 0) := blk_at HF4.out.1 1 rfl
          have r2 : w4.cell? ⟨R, 2, none⟩ = some (.int .i64 0) := blk_at HF4.out.1 2 rfl
          have r3 : w4.cell? ⟨R, 3, none⟩ = some (.int .i64 0) := blk_at HF4.out.1 3 rfl
          have r4 : w4.cell? ⟨R, 4, none⟩ = some (.int .i64 0) := blk_at HF4.out.1 4 rfl
          cases r with
          | none =>
            obtain ⟨Y, hY⟩ : ∃ Y, Y = ((((w4.setCell ⟨R, 0, none⟩ (.string ⟨#[]⟩)).setCell ⟨R, 1, none⟩ (.int .i64 0)).setCell ⟨R, 2, none⟩ (.int .i64 0)).setCell ⟨R, 3, none⟩ (.int .i64 0)).setCell ⟨R, 4, none⟩ (.int .i64 0) := ⟨_, rfl⟩
            have HY : Hid (CeAt Y R ceZ ∧ Kept Nil w Y) := by rw [hY]; exact ⟨blk_set (blk_set (blk_set (blk_set (blk_set HF4.out.1 0 _) 1 _) 2 _) 3 _) 4 _, ((((HF4.out.2.setNew (p := ⟨R, 0, none⟩) HRw.out _).setNew (p := ⟨R, 1, none⟩) HRw.out _).setNew (p := ⟨R, 2, none⟩) HRw.out _).setNew (p := ⟨R, 3, none⟩) HRw.out _).setNew (p := ⟨R, 4, none⟩) HRw.out _⟩
            go_wp2
            rw [← hY]
            clear hY r0 r1 r2 r3 r4
            have j0 := blk_at HY.out.1 0 rfl
            have j1 := blk_at HY.out.1 1 rfl
            have j2 := blk_at HY.out.1 2 rfl
            have j3 := blk_at HY.out.1 3 rfl
            have j4 := blk_at HY.out.1 4 rfl
            exact bodyPost_ret (v := .tuple #[ceV ceZ, .bool false]) (by simp [results, Tryz.results157, go_sem, j0, j1, j2, j3, j4, ceV, ceZ]) rfl ⟨rfl, HY.out.2⟩
          | some c =>
            have HC5 : Hid (CeAt w4 A c) := by
              obtain ⟨c', h1, h2⟩ := HC4.out
              rcases h2 with h2 | h2
              · cases h2
              · cases h2
                exact h1
            obtain ⟨cv, cn, cs, ch, cg⟩ := c
            have a0 : w4.cell? ⟨A, 0, none⟩ = some (.string (bs cv)) := blk_at HC5.out 0 rfl
            have a1 : w4.cell? ⟨A, 1, none⟩ = some (.int .i64 cn) := blk_at HC5.out 1 rfl
            have a2 : w4.cell? ⟨A, 2, none⟩ = some (.int .i64 cs) := blk_at HC5.out 2 rfl
            have a3 : w4.cell? ⟨A, 3, none⟩ = some (.int .i64 ch) := blk_at HC5.out 3 rfl
            have a4 : w4.cell? ⟨A, 4, none⟩ = some (.int .i64 cg) := blk_at HC5.out 4 rfl
            obtain ⟨Y, hY⟩ : ∃ Y, Y = ((((w4.setCell ⟨R, 0, none⟩ (.string (bs cv))).setCell ⟨R, 1, none⟩ (.int .i64 cn)).setCell ⟨R, 2, none⟩ (.int .i64 cs)).setCell ⟨R, 3, none⟩ (.int .i64 ch)).setCell ⟨R, 4, none⟩ (.int .i64 cg) := ⟨_, rfl⟩
            have HY : Hid (CeAt Y R ⟨cv, cn, cs, ch, cg⟩ ∧ Kept Nil w Y) := by rw [hY]; exact ⟨blk_set (blk_set (blk_set (blk_set (blk_set HF4.out.1 0 _) 1 _) 2 _) 3 _) 4 _, ((((HF4.out.2.setNew (p := ⟨R, 0, none⟩) HRw.out _).setNew (p := ⟨R, 1, none⟩) HRw.out _).setNew (p := ⟨R, 2, none⟩) HRw.out _).setNew (p := ⟨R, 3, none⟩) HRw.out _).setNew (p := ⟨R, 4, none⟩) HRw.out _⟩
            go_wp2
            rw [← hY]
            clear hY r0 r1 r2 r3 r4 a0 a1 a2 a3 a4
            have j0 := blk_at HY.out.1 0 rfl
            have j1 := blk_at HY.out.1 1 rfl
            have j2 := blk_at HY.out.1 2 rfl
            have j3 := blk_at HY.out.1 3 rfl
            have j4 := blk_at HY.out.1 4 rfl
            exact bodyPost_ret (v := .tuple #[ceV ⟨cv, cn, cs, ch, cg⟩, .bool true]) (by simp [results, Tryz.results157, go_sem, j0, j1, j2, j3, j4, ceV]) rfl ⟨rfl, HY.out.2⟩
      | succ n =>
        obtain rfl : wo = some ⟨N, 1, none⟩ := by rw [Hwo.out]; rfl
        go_upto_region 7 with fail
        rw [← hV, ← HAe.out]
        clear hV
        go_region_with (first | (go_at_call 180; go_must (go_fit (NU _ (by repeat (first | exact Kept.refl _ _ | refine Kept.drew ?_)))); rintro _ w3 ⟨no, nc, rfl, ho, k3⟩; have HO3 : Hid (∃ X, Kept Nil V X ∧ OwnN A X.heap.size w3 no nc ns ∧ Kept Nil X w3) := ⟨_, (by repeat (first | exact Kept.refl _ _ | refine Kept.drew ?_)), ho, k3⟩; clear ho k3) | (go_at_call 179; go_must (go_fit (RAc _ _ _ HO3.out _ (by repeat (first | exact Kept.refl _ _ | refine Kept.drew ?_)))); rintro _ w4 ⟨rfl, hc4, k4⟩; have HW4 : Hid (Kept (One A) w3 w4) := (by first | exact k4 | exact (Kept.refl _ _).drew.trans k4); have HC4 : Hid (∃ c, CeAt w4 A c ∧ (r = none ∨ r = some c)) := hc4; clear hc4 k4))
        all_goals
          have HF4 : Hid (CeAt w4 R ceZ ∧ Kept Nil w w4) := by
            obtain ⟨X, kX, _, kY⟩ := HO3.out
            have kk : Kept Nil W1 w3 := HKV.out.trans (kX.trans kY)
            exact ⟨HW4.out.block _ _ (kk.block _ _ HAW1.out (fun x => x)) (fun e => HAR.out (show R = A from e).symm), kept_one_new (K2.out.trans kk) HW4.out HAw.out⟩
          have z0 := blk_free HF4.out.1 0
          have z1 := blk_free HF4.out.1 1
          have z2 := blk_free HF4.out.1 2
          have z3 := blk_free HF4.out.1 3
          have z4 := blk_free HF4.out.1 4
          have r0 : w4.cell? ⟨R, 0, none⟩ = some (.string ⟨#[]⟩) := blk_at HF4.out.1 0 rfl
          have r1 : w4.cell? ⟨R, 1, none⟩ = some (.int .i64 0) := blk_at HF4.out.1 1 rfl
          have r2 : w4.cell? ⟨R, 2, none⟩ = some (.int .i64 0) := blk_at HF4.out.1 2 rfl
          have r3 : w4.cell? ⟨R, 3, none⟩ = some (.int .i64 0) := blk_at HF4.out.1 3 rfl
          have r4 : w4.cell? ⟨R, 4, none⟩ = some (.int .i64 0) := blk_at HF4.out.1 4 rfl
          cases r with
          | none =>
            obtain ⟨Y, hY⟩ : ∃ Y, Y = ((((w4.setCell ⟨R, 0, none⟩ (.string ⟨#[]⟩)).setCell ⟨R, 1, none⟩ (.int .i64 0)).setCell ⟨R, 2, none⟩ (.int .i64 0)).setCell ⟨R, 3, none⟩ (.int .i64 0)).setCell ⟨R, 4, none⟩ (.int .i64 0) := ⟨_, rfl⟩
            have HY : Hid (CeAt Y R ceZ ∧ Kept Nil w Y) := by rw [hY]; exact ⟨blk_set (blk_set (blk_set (blk_set (blk_set HF4.out.1 0 _) 1 _) 2 _) 3 _) 4 _, ((((HF4.out.2.setNew (p := ⟨R, 0, none⟩) HRw.out _).setNew (p := ⟨R, 1, none⟩) HRw.out _).setNew (p := ⟨R, 2, none⟩) HRw.out _).setNew (p := ⟨R, 3, none⟩) HRw.out _).setNew (p := ⟨R, 4, none⟩) HRw.out _⟩
            go_wp2
            rw [← hY]
            clear hY r0 r1 r2 r3 r4
            have j0 := blk_at HY.out.1 0 rfl
            have j1 := blk_at HY.out.1 1 rfl
            have j2 := blk_at HY.out.1 2 rfl
            have j3 := blk_at HY.out.1 3 rfl
            have j4 := blk_at HY.out.1 4 rfl
            exact bodyPost_ret (v := .tuple #[ceV ceZ, .bool false]) (by simp [results, Tryz.results157, go_sem, j0, j1, j2, j3, j4, ceV, ceZ]) rfl ⟨rfl, HY.out.2⟩
          | some c =>
            have HC5 : Hid (CeAt w4 A c) := by
              obtain ⟨c', h1, h2⟩ := HC4.out
              rcases h2 with h2 | h2
              · cases h2
              · cases h2
                exact h1
            obtain ⟨cv, cn, cs, ch, cg⟩ := c
            have a0 : w4.cell? ⟨A, 0, none⟩ = some (.string (bs cv)) := blk_at HC5.out 0 rfl
            have a1 : w4.cell? ⟨A, 1, none⟩ = some (.int .i64 cn) := blk_at HC5.out 1 rfl
            have a2 : w4.cell? ⟨A, 2, none⟩ = some (.int .i64 cs) := blk_at HC5.out 2 rfl
            have a3 : w4.cell? ⟨A, 3, none⟩ = some (.int .i64 ch) := blk_at HC5.out 3 rfl
            have a4 : w4.cell? ⟨A, 4, none⟩ = some (.int .i64 cg) := blk_at HC5.out 4 rfl
            obtain ⟨Y, hY⟩ : ∃ Y, Y = ((((w4.setCell ⟨R, 0, none⟩ (.string (bs cv))).setCell ⟨R, 1, none⟩ (.int .i64 cn)).setCell ⟨R, 2, none⟩ (.int .i64 cs)).setCell ⟨R, 3, none⟩ (.int .i64 ch)).setCell ⟨R, 4, none⟩ (.int .i64 cg) := ⟨_, rfl⟩
            have HY : Hid (CeAt Y R ⟨cv, cn, cs, ch, cg⟩ ∧ Kept Nil w Y) := by rw [hY]; exact ⟨blk_set (blk_set (blk_set (blk_set (blk_set HF4.out.1 0 _) 1 _) 2 _) 3 _) 4 _, ((((HF4.out.2.setNew (p := ⟨R, 0, none⟩) HRw.out _).setNew (p := ⟨R, 1, none⟩) HRw.out _).setNew (p := ⟨R, 2, none⟩) HRw.out _).setNew (p := ⟨R, 3, none⟩) HRw.out _).setNew (p := ⟨R, 4, none⟩) HRw.out _⟩
            go_wp2
            rw [← hY]
            clear hY r0 r1 r2 r3 r4 a0 a1 a2 a3 a4
            have j0 := blk_at HY.out.1 0 rfl
            have j1 := blk_at HY.out.1 1 rfl
            have j2 := blk_at HY.out.1 2 rfl
            have j3 := blk_at HY.out.1 3 rfl
            have j4 := blk_at HY.out.1 4 rfl
            exact bodyPost_ret (v := .tuple #[ceV ⟨cv, cn, cs, ch, cg⟩, .bool true]) (by simp [results, Tryz.results157, go_sem, j0, j1, j2, j3, j4, ceV]) rfl ⟨rfl, HY.out.2⟩
end Go.Proofs.YtflnjlbafchnaaaGreatDoor
