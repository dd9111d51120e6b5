/-
  kv: a pair goes.
-/
import Derived.Test.YtflnjlbafchnaaaGreatDoorWKv6
namespace Go.Proofs.YtflnjlbafchnaaaGreatDoor
open Go.RowKit

def dropP (n : Int) (i : Nat) (ps : List Pr) : List Pr := if n = 0 then ps else delP i ps
def dropR (n : Int) : Value := if n = 0 then resV 2 [] 0 else resV 1 [] n
set_option maxRecDepth 100000 in
set_option maxHeartbeats 2000000 in
theorem drop_any (w0 : World) (b c i : Nat) (ao : Option Addr) (ps : List Pr) (key v : List UInt8) (n : Int) (w : World) (hb : SpotAt w b key v n ao ps.length c i) (hO : OwnP w0.heap.size w ao c ps) (hK : Kept Nil w0 w) (hwb : w0.heap.size ≤ b) (hl : ps.length ≤ 32) (hi1 : n ≠ 0 → i < ps.length) :
    Calls Tryz.prog 117 #[.pointer (some ⟨b, 0, none⟩)] w fun e w' => e = .returned (dropR n) ∧ ∃ ao' c', SpotAt w' b key v n ao' (dropP n i ps).length c' i ∧ OwnP w0.heap.size w' ao' c' (dropP n i ps) ∧ KK w0 w b ao w' := by
  obtain ⟨W, hW⟩ : ∃ W, W = w.alloc (.cells #[.int .i64 0, .string ⟨#[]⟩, .int .i64 0, .slice none 0 0] 50) := ⟨_, rfl⟩
  have KW : Hid (Kept Nil w W) := by rw [hW]; exact (Kept.refl _ _).alloc _
  have HB : Hid (SpotAt W b key v n ao ps.length c i) := KW.out.block _ _ hb (fun x => x.elim)
  have HO : Hid (OwnP w0.heap.size W ao c ps) := hO.kept KW.out
  have HK : Hid (KK w0 w b ao W) := (KK.start hK).then KW.out
  have HNW : Hid (W.heap[w.heap.size]? = some (.cells #[.int .i64 0, .string ⟨#[]⟩, .int .i64 0, .slice none 0 0] 50 (0, 0))) := by rw [hW]; exact blk_new _ _
  have HPR : Hid (w0.heap.size ≤ w.heap.size ∧ b ≠ w.heap.size ∧ New w w.heap.size) := ⟨hK.size, Nat.ne_of_lt (lt_of_block hb), Nat.le_refl _⟩
  have q0 : W.cell? ⟨b, 0, none⟩ = some (.string (bs key)) := blk_at HB.out 0 rfl
  have q2 : W.cell? ⟨b, 2, none⟩ = some (.int .i64 n) := blk_at HB.out 2 rfl
  have q3 : W.cell? ⟨b, 3, none⟩ = some (.slice ao ps.length c) := blk_at HB.out 3 rfl
  have q4 : W.cell? ⟨b, 4, none⟩ = some (.int .i64 i) := blk_at HB.out 4 rfl
  have r0 : W.cell? ⟨w.heap.size, 0, none⟩ = some (.int .i64 0) := blk_at HNW.out 0 rfl
  have r1 : W.cell? ⟨w.heap.size, 1, none⟩ = some (.string ⟨#[]⟩) := blk_at HNW.out 1 rfl
  have r2 : W.cell? ⟨w.heap.size, 2, none⟩ = some (.int .i64 0) := blk_at HNW.out 2 rfl
  have r3 : W.cell? ⟨w.heap.size, 3, none⟩ = some (.slice none 0 0) := blk_at HNW.out 3 rfl
  have z0 : W.frozen? ⟨w.heap.size, 0, none⟩ = false := blk_free HNW.out 0
  have z1 : W.frozen? ⟨w.heap.size, 1, none⟩ = false := blk_free HNW.out 1
  have z2 : W.frozen? ⟨w.heap.size, 2, none⟩ = false := blk_free HNW.out 2
  have z3 : W.frozen? ⟨w.heap.size, 3, none⟩ = false := blk_free HNW.out 3
  have HB0 : Hid (SpotAt w b key v n ao ps.length c i ∧ OwnP w0.heap.size w ao c ps ∧ KK w0 w b ao w) := ⟨hb, hO, KK.start hK⟩
  have y2 : w.cell? ⟨b, 2, none⟩ = some (.int .i64 n) := blk_at hb 2 rfl
  have hlt := lt_of_block hb
  clear hb hO hK KW
  by_cases h0 : n = 0
  · subst h0
    have HP : Hid (dropP 0 i ps = ps ∧ dropR 0 = resV 2 [] 0) := ⟨by unfold dropP; rw [if_pos rfl], by unfold dropR; rw [if_pos rfl]⟩
    rw [HP.out.1, HP.out.2]
    go_enter Tryz.func117, Tryz.ntmps117
    clear hW
    go_wp2
    exact bodyPost_ret (v := resV 2 [] 0) (by simp [results, Tryz.results117, go_sem, resV, bs]) rfl ⟨rfl, ao, c, blk_past HB0.out.1 _, HB0.out.2.1.kept ((Kept.refl _ _).alloc _), HB0.out.2.2.alloc _⟩
  · have h0i : (n == 0) = false := beq_eq_false_iff_ne.2 h0
    have HI := hi1 h0
    have HP : Hid (dropP n i ps = delP i ps ∧ dropR n = resV 1 [] n) := ⟨by unfold dropP; rw [if_neg h0], by unfold dropR; rw [if_neg h0]⟩
    rw [HP.out.1, HP.out.2]
    have hwr : IntKind.i64.wrap ((i : Int) + 1) = (i : Int) + 1 := by rw [IntKind.wrap_i64]; omega
    have DEL := deleteP_any w0.heap.size c i ao ps W.drew (HO.out.kept (Kept.refl _ _).drew) HI hl
    go_enter Tryz.func117, Tryz.ntmps117
    go_upto_region 3 with fail
    rw [← hW]
    clear y2 hlt HB0
    generalize w.heap.size = pr at *
    clear hW
    go_region_with (go_at_call 150; go_must (go_fit DEL); rintro e w4 ⟨rfl, o4, g4⟩; have HB4 : Hid (SpotAt w4 b key v n ao ps.length c i) := grown_blk g4 HB.out (HO.out.neAt (HO.out.apart HB.out)); have HN4 : Hid (w4.heap[pr]? = some (.cells #[.int .i64 0, .string ⟨#[]⟩, .int .i64 0, .slice none 0 0] 50 (0, 0))) := grown_blk g4 HNW.out (HO.out.neRes HNW.out); have HO4 : Hid (OwnP w0.heap.size w4 ao c (delP i ps)) := o4; have HK4 : Hid (KK w0 w b ao w4) := HK.out.drew.grown g4 (fun k hk => own_row HO.out k hk); have f3 : w4.frozen? ⟨b, 3, none⟩ = false := blk_free HB4.out 3; have c3 : w4.cell? ⟨b, 3, none⟩ = some (.slice ao ps.length c) := blk_at HB4.out 3 rfl; clear o4 g4)
    all_goals
      have HB5 : Hid (SpotAt (w4.setCell ⟨b, 3, none⟩ (.slice ao (ps.length - 1) c)) b key v n ao (ps.length - 1) c i) := blk_set HB4.out 3 _
      have HO5 : Hid (OwnP w0.heap.size (w4.setCell ⟨b, 3, none⟩ (.slice ao (ps.length - 1) c)) ao c (delP i ps)) := HO4.out.setSpot HB4.out _
      have HN5 : Hid ((w4.setCell ⟨b, 3, none⟩ (.slice ao (ps.length - 1) c)).heap[pr]? = some (.cells #[.int .i64 0, .string ⟨#[]⟩, .int .i64 0, .slice none 0 0] 50 (0, 0))) := blk_other HN4.out (a := ⟨b, 3, none⟩) (fun e => HPR.out.2.1 e.symm) _
      have HK5 : Hid (KK w0 w b ao (w4.setCell ⟨b, 3, none⟩ (.slice ao (ps.length - 1) c))) := HK4.out.setSpot hwb _
      generalize w4.setCell ⟨b, 3, none⟩ (.slice ao (ps.length - 1) c) = W5 at *
      clear HB4 HO4 HN4 HK4 f3 c3 DEL HB HO HK HNW q0 q2 q3 q4 r0 r1 r2 r3 z0 z1 z2 z3
      have q2 : W5.cell? ⟨b, 2, none⟩ = some (.int .i64 n) := blk_at HB5.out 2 rfl
      have r0 : W5.cell? ⟨pr, 0, none⟩ = some (.int .i64 0) := blk_at HN5.out 0 rfl
      have r1 : W5.cell? ⟨pr, 1, none⟩ = some (.string ⟨#[]⟩) := blk_at HN5.out 1 rfl
      have r2 : W5.cell? ⟨pr, 2, none⟩ = some (.int .i64 0) := blk_at HN5.out 2 rfl
      have r3 : W5.cell? ⟨pr, 3, none⟩ = some (.slice none 0 0) := blk_at HN5.out 3 rfl
      have z0 : W5.frozen? ⟨pr, 0, none⟩ = false := blk_free HN5.out 0
      have z1 : W5.frozen? ⟨pr, 1, none⟩ = false := blk_free HN5.out 1
      have z2 : W5.frozen? ⟨pr, 2, none⟩ = false := blk_free HN5.out 2
      have z3 : W5.frozen? ⟨pr, 3, none⟩ = false := blk_free HN5.out 3
      obtain ⟨V, hV⟩ : ∃ V, V = (((W5.setCell ⟨pr, 0, none⟩ (.int .i64 1)).setCell ⟨pr, 1, none⟩ (.string ⟨#[]⟩)).setCell ⟨pr, 2, none⟩ (.int .i64 n)).setCell ⟨pr, 3, none⟩ (.slice none 0 0) := ⟨_, rfl⟩
      have HV : Hid (V.heap[pr]? = some (.cells #[.int .i64 1, .string ⟨#[]⟩, .int .i64 n, .slice none 0 0] 50 (0, 0)) ∧ SpotAt V b key v n ao (ps.length - 1) c i ∧ OwnP w0.heap.size V ao c (delP i ps) ∧ KK w0 w b ao V) := by rw [hV]; exact set4_all HN5.out HB5.out HO5.out HK5.out HPR.out.1 HPR.out.2.2 _ _ _ _
      go_wp2
      rw [← hV]
      clear hV r0 r1 r2 r3
      have j0 := blk_at HV.out.1 0 rfl
      have j1 := blk_at HV.out.1 1 rfl
      have j2 := blk_at HV.out.1 2 rfl
      have j3 := blk_at HV.out.1 3 rfl
      exact bodyPost_ret (v := resV 1 [] n) (by simp [results, Tryz.results117, go_sem, j0, j1, j2, j3, resV, bs]) rfl ⟨rfl, ao, c, by rw [delP_len HI]; exact HV.out.2.1, HV.out.2.2.1, HV.out.2.2.2⟩

end Go.Proofs.YtflnjlbafchnaaaGreatDoor
