/-
  Joined: WKv7.
-/
import Derived.Test.YtflnjlbafchnaaaGreatDoorQ05
/-
  kv: put.
-/
namespace Go.Proofs.YtflnjlbafchnaaaGreatDoor
open Go.RowKit

set_option maxRecDepth 100000 in
set_option maxHeartbeats 2000000 in
theorem put_any (w0 : World) (b c i : Nat) (ao : Option Addr) (ps : List Pr) (key v x : List UInt8) (n : Int) (w : World) (hb : SpotAt w b key v n ao ps.length c i) (hO : OwnP w0.heap.size w ao c ps) (hK : Kept Nil w0 w) (hwb : w0.heap.size ≤ b) (hl : ps.length ≤ 32) (hn0 : 0 ≤ n) (hi0 : n = 0 → i ≤ ps.length) (hi1 : n ≠ 0 → i < ps.length) :
    Calls Tryz.prog 115 #[.pointer (some ⟨b, 0, none⟩), .string (bs x)] w fun e w' => e = .returned (putR x n ps.length) ∧ ∃ ao' c', SpotAt w' b key v n ao' (putP key x n i ps).length c' i ∧ OwnP w0.heap.size w' ao' c' (putP key x n i ps) ∧ KK w0 w b ao w' := by
  obtain ⟨W, hW⟩ : ∃ W, W = w.alloc (.cells #[.int .i64 0, .string ⟨#[]⟩, .int .i64 0, .slice none 0 0] 50) := ⟨_, rfl⟩
  have KW : Hid (Kept Nil w W) := by rw [hW]; exact (Kept.refl _ _).alloc _
  have HB : Hid (SpotAt W b key v n ao ps.length c i) := KW.out.block _ _ hb (fun x => x.elim)
  have HR := hasRoom_any b ps.length c key v n i ao x W HB.out hl
  have HO : Hid (OwnP w0.heap.size W ao c ps) := hO.kept KW.out
  have HK : Hid (KK w0 w b ao W) := (KK.start hK).then KW.out
  have HNW : Hid (W.heap[w.heap.size]? = some (.cells #[.int .i64 0, .string ⟨#[]⟩, .int .i64 0, .slice none 0 0] 50 (0, 0))) := by rw [hW]; exact blk_new _ _
  have HPR : Hid (w0.heap.size ≤ w.heap.size ∧ b ≠ w.heap.size ∧ New w w.heap.size) := ⟨hK.size, Nat.ne_of_lt (lt_of_block hb), Nat.le_refl _⟩
  have q0 : W.cell? ⟨b, 0, none⟩ = some (.string (bs key)) := blk_at HB.out 0 rfl
  have q2 : W.cell? ⟨b, 2, none⟩ = some (.int .i64 n) := blk_at HB.out 2 rfl
  have q3 : W.cell? ⟨b, 3, none⟩ = some (.slice ao ps.length c) := blk_at HB.out 3 rfl
  have q4 : W.cell? ⟨b, 4, none⟩ = some (.int .i64 i) := blk_at HB.out 4 rfl
  obtain ⟨r, HRR⟩ : ∃ r : Bool, Hid (r = roomB ps.length n x) := ⟨_, rfl⟩
  rw [← HRR.out] at HR
  have r0 : W.cell? ⟨w.heap.size, 0, none⟩ = some (.int .i64 0) := blk_at HNW.out 0 rfl
  have r1 : W.cell? ⟨w.heap.size, 1, none⟩ = some (.string ⟨#[]⟩) := blk_at HNW.out 1 rfl
  have r2 : W.cell? ⟨w.heap.size, 2, none⟩ = some (.int .i64 0) := blk_at HNW.out 2 rfl
  have r3 : W.cell? ⟨w.heap.size, 3, none⟩ = some (.slice none 0 0) := blk_at HNW.out 3 rfl
  have z0 : W.frozen? ⟨w.heap.size, 0, none⟩ = false := blk_free HNW.out 0
  have z1 : W.frozen? ⟨w.heap.size, 1, none⟩ = false := blk_free HNW.out 1
  have z2 : W.frozen? ⟨w.heap.size, 2, none⟩ = false := blk_free HNW.out 2
  have z3 : W.frozen? ⟨w.heap.size, 3, none⟩ = false := blk_free HNW.out 3
  have HB0 : Hid (SpotAt w b key v n ao ps.length c i ∧ OwnP w0.heap.size w ao c ps ∧ KK w0 w b ao w) := ⟨hb, hO, KK.start hK⟩
  clear hb hO hK KW
  cases r with
  | false =>
    have HP : Hid (putP key x n i ps = ps ∧ putR x n ps.length = resV 4 [] 0) := ⟨by unfold putP; rw [if_pos HRR.out.symm], by unfold putR; rw [if_pos HRR.out.symm]⟩
    rw [HP.out.1, HP.out.2]
    go_enter Tryz.func115, Tryz.ntmps115
    go_wp2_with fail
    rw [← hW]
    clear HB0
    generalize w.heap.size = pr at *
    clear hW
    go_fit HR
    rintro _ w1 ⟨rfl, rfl⟩
    obtain ⟨V, hV⟩ : ∃ V, V = (((w1.setCell ⟨pr, 0, none⟩ (.int .i64 4)).setCell ⟨pr, 1, none⟩ (.string ⟨#[]⟩)).setCell ⟨pr, 2, none⟩ (.int .i64 0)).setCell ⟨pr, 3, none⟩ (.slice none 0 0) := ⟨_, rfl⟩
    have HV : Hid (V.heap[pr]? = some (.cells #[.int .i64 4, .string ⟨#[]⟩, .int .i64 0, .slice none 0 0] 50 (0, 0)) ∧ SpotAt V b key v n ao ps.length c i ∧ OwnP w0.heap.size V ao c ps ∧ KK w0 w b ao V) := by rw [hV]; exact set4_all HNW.out HB.out HO.out HK.out HPR.out.1 HPR.out.2.2 _ _ _ _
    go_wp2
    rw [← hV]
    clear hV r0 r1 r2 r3
    have j0 := blk_at HV.out.1 0 rfl
    have j1 := blk_at HV.out.1 1 rfl
    have j2 := blk_at HV.out.1 2 rfl
    have j3 := blk_at HV.out.1 3 rfl
    exact bodyPost_ret (v := resV 4 [] 0) (by simp [results, Tryz.results115, go_sem, j0, j1, j2, j3, resV, bs]) rfl ⟨rfl, ao, c, HV.out.2.1, HV.out.2.2.1, HV.out.2.2.2⟩
  | true =>
    have HP : Hid (putP key x n i ps = (if n = 0 then insP i ⟨key, x, n + 1⟩ ps else ps.set i ⟨key, x, n + 1⟩) ∧ putR x n ps.length = resV 1 [] (n + 1)) := ⟨by unfold putP; rw [if_neg (by rw [← HRR.out]; simp)], by unfold putR; rw [if_neg (by rw [← HRR.out]; simp)]⟩
    rw [HP.out.1, HP.out.2]
    by_cases h0 : n = 0
    · subst h0
      have HIL : Hid (i ≤ ps.length) := hi0 rfl
      have HLN : Hid (ps.length < 32) := by
        show _ < _
        have := HRR.out
        unfold roomB at this
        simp at this
        omega
      go_enter Tryz.func115, Tryz.ntmps115
      go_wp2_with fail
      rw [← hW]
      clear HB0
      generalize w.heap.size = pr at *
      clear hW
      go_fit HR
      rintro _ w1 ⟨rfl, rfl⟩
      go_wp2_with fail
      have hlt := lt_of_block HB.out
      have n0 : (w1.alloc (.cells #[.string ⟨#[]⟩, .string ⟨#[]⟩, .int .i64 0] 63)).cell? ⟨b, 0, none⟩ = some (.string (bs key)) := blk_at (blk_past HB.out _) 0 rfl
      have n2 : (w1.alloc (.cells #[.string ⟨#[]⟩, .string ⟨#[]⟩, .int .i64 0] 63)).cell? ⟨b, 2, none⟩ = some (.int .i64 0) := blk_at (blk_past HB.out _) 2 rfl
      go_region
      clear q0 q2 q3 q4 r0 r1 r2 r3 z0 z1 z2 z3 n0 n2 HR
      obtain ⟨W2, hW2⟩ : ∃ W2, W2 = (w1.alloc (.cells #[.string (bs key), .string (bs x), .int .i64 1] 63)).drew := ⟨_, rfl⟩
      rw [← hW2]
      have HB2 : Hid (SpotAt W2 b key v 0 ao ps.length c i) := by rw [hW2]; exact blk_past HB.out _
      have HN2 : Hid (W2.heap[pr]? = some (.cells #[.int .i64 0, .string ⟨#[]⟩, .int .i64 0, .slice none 0 0] 50 (0, 0))) := by rw [hW2]; exact blk_past HNW.out _
      have HQ2 : Hid (W2.heap[w1.heap.size]? = some (.cells #[.string (bs key), .string (bs x), .int .i64 1] 63 (0, 0))) := by rw [hW2]; exact blk_new _ _
      have HO2 : Hid (OwnP w0.heap.size W2 ao c ps) := by rw [hW2]; exact HO.out.kept ((Kept.refl _ _).alloc _).drew
      have HK2 : Hid (KK w0 w b ao W2) := by rw [hW2]; exact (HK.out.alloc _).drew
      have HPP : Hid (∀ a, ao = some a → a.block ≠ w1.heap.size) := fun a ha e => by
        obtain ⟨g, cs, e0, _, hblk, _⟩ := HO.out.block (by rw [ha]; simp)
        rw [ha] at e0
        cases e0
        exact absurd (lt_of_block hblk) (by simp only at e; omega)
      generalize w1.heap.size = pp at *
      clear hW2 hlt
      have q2 : W2.cell? ⟨b, 2, none⟩ = some (.int .i64 0) := blk_at HB2.out 2 rfl
      have q3 : W2.cell? ⟨b, 3, none⟩ = some (.slice ao ps.length c) := blk_at HB2.out 3 rfl
      have q4 : W2.cell? ⟨b, 4, none⟩ = some (.int .i64 i) := blk_at HB2.out 4 rfl
      have p0 : W2.cell? ⟨pp, 0, none⟩ = some (.string (bs key)) := blk_at HQ2.out 0 rfl
      have p1 : W2.cell? ⟨pp, 1, none⟩ = some (.string (bs x)) := blk_at HQ2.out 1 rfl
      have p2 : W2.cell? ⟨pp, 2, none⟩ = some (.int .i64 1) := blk_at HQ2.out 2 rfl
      have HNP : Hid (pp ≠ b) := fun e => by
        have h1 := HQ2.out
        have h2 := HB2.out
        unfold SpotAt at h2
        rw [e, h2] at h1
        simp at h1
      have HLT : Hid (b < W2.heap.size) := lt_of_block HB2.out
      obtain ⟨W3, hW3⟩ : ∃ W3, W3 = W2.drew.alloc (.cells #[.string (bs key), .string (bs x), .int .i64 1] 63) := ⟨_, rfl⟩
      have INS := insertP_any w0.heap.size c i W2.heap.size ao ps ⟨key, x, 1⟩ W3 (by rw [hW3]; exact HO2.out.kept ((Kept.refl _ _).drew.alloc _)) (hi0 trivial) HLN.out (by rw [hW3]; exact blk_new W2.drew _) (fun a ha e => by
        obtain ⟨g, cs, e0, _, hblk, _⟩ := HO2.out.block (by rw [ha]; simp)
        rw [ha] at e0
        cases e0
        exact absurd (lt_of_block hblk) (by simp only at e; omega)) (by rw [hW3]; exact (HK2.out.drew.alloc _).size)
      rw [hW3] at INS
      have HB3 : Hid (SpotAt (W2.drew.alloc (.cells #[.string (bs key), .string (bs x), .int .i64 1] 63)) b key v 0 ao ps.length c i) := blk_past (w := W2.drew) HB2.out _
      have HN3 : Hid ((W2.drew.alloc (.cells #[.string (bs key), .string (bs x), .int .i64 1] 63)).heap[pr]? = some (.cells #[.int .i64 0, .string ⟨#[]⟩, .int .i64 0, .slice none 0 0] 50 (0, 0))) := blk_past (w := W2.drew) HN2.out _
      have HQ3 : Hid ((W2.drew.alloc (.cells #[.string (bs key), .string (bs x), .int .i64 1] 63)).heap[pp]? = some (.cells #[.string (bs key), .string (bs x), .int .i64 1] 63 (0, 0))) := blk_past (w := W2.drew) HQ2.out _
      have HO3 : Hid (OwnP w0.heap.size (W2.drew.alloc (.cells #[.string (bs key), .string (bs x), .int .i64 1] 63)) ao c ps) := HO2.out.kept ((Kept.refl _ _).drew.alloc _)
      have HK3 : Hid (KK w0 w b ao (W2.drew.alloc (.cells #[.string (bs key), .string (bs x), .int .i64 1] 63))) := HK2.out.drew.alloc _
      clear hW3
      have m3 : (W2.drew.alloc (.cells #[.string (bs key), .string (bs x), .int .i64 1] 63)).cell? ⟨b, 3, none⟩ = some (.slice ao ps.length c) := blk_at HB3.out 3 rfl
      have m4 : (W2.drew.alloc (.cells #[.string (bs key), .string (bs x), .int .i64 1] 63)).cell? ⟨b, 4, none⟩ = some (.int .i64 i) := blk_at HB3.out 4 rfl
      go_wp2_with fail
      have neB : W2.heap.size ≠ b := World.new_ne W2 ⟨b, 3, none⟩ q3
      have neP : W2.heap.size ≠ pp := World.new_ne W2 ⟨pp, 0, none⟩ p0
      have neB' : ¬ b = W2.heap.size := fun e => neB e.symm
      have neP' : ¬ pp = W2.heap.size := fun e => neP e.symm
      have hltB : b < W2.heap.size := HLT.out
      have hltP : pp < W2.heap.size := lt_of_block HQ2.out
      go_region_with (go_at_call 149; go_must (go_fit INS); rintro e w4 ⟨ao', c', rfl, o4, g4⟩; have HB4 : Hid (SpotAt w4 b key v 0 ao ps.length c i) := grown_blk g4 HB3.out (HO3.out.neAt (HO3.out.apart HB3.out)); have HN4 : Hid (w4.heap[pr]? = some (.cells #[.int .i64 0, .string ⟨#[]⟩, .int .i64 0, .slice none 0 0] 50 (0, 0))) := grown_blk g4 HN3.out (HO3.out.neRes HN3.out); have HQ4 : Hid (w4.heap[pp]? = some (.cells #[.string (bs key), .string (bs x), .int .i64 1] 63 (0, 0))) := grown_blk g4 HQ3.out (HO3.out.neAt HPP.out); have HO4 : Hid (OwnP w0.heap.size w4 ao' c' (insP i ⟨key, x, 1⟩ ps)) := o4; have HK4 : Hid (KK w0 w b ao w4) := HK3.out.grown g4 (fun k hk => own_row HO3.out k hk); have f3 : w4.frozen? ⟨b, 3, none⟩ = false := blk_free HB4.out 3; have c3 : w4.cell? ⟨b, 3, none⟩ = some (.slice ao ps.length c) := blk_at HB4.out 3 rfl; clear o4 g4)
      all_goals
        have HB5 : Hid (SpotAt (w4.setCell ⟨b, 3, none⟩ (.slice ao' (ps.length + 1) c')) b key v 0 ao' (ps.length + 1) c' i) := blk_set HB4.out 3 _
        have HO5 : Hid (OwnP w0.heap.size (w4.setCell ⟨b, 3, none⟩ (.slice ao' (ps.length + 1) c')) ao' c' (insP i ⟨key, x, 1⟩ ps)) := HO4.out.setSpot HB4.out _
        have HN5 : Hid ((w4.setCell ⟨b, 3, none⟩ (.slice ao' (ps.length + 1) c')).heap[pr]? = some (.cells #[.int .i64 0, .string ⟨#[]⟩, .int .i64 0, .slice none 0 0] 50 (0, 0))) := blk_other HN4.out (a := ⟨b, 3, none⟩) (fun e => HPR.out.2.1 e.symm) _
        have HQ5 : Hid ((w4.setCell ⟨b, 3, none⟩ (.slice ao' (ps.length + 1) c')).heap[pp]? = some (.cells #[.string (bs key), .string (bs x), .int .i64 1] 63 (0, 0))) := blk_other HQ4.out (a := ⟨b, 3, none⟩) HNP.out _
        have HK5 : Hid (KK w0 w b ao (w4.setCell ⟨b, 3, none⟩ (.slice ao' (ps.length + 1) c'))) := HK4.out.setSpot hwb _
        generalize w4.setCell ⟨b, 3, none⟩ (.slice ao' (ps.length + 1) c') = W5 at *
        clear HB4 HO4 HN4 HQ4 HK4 f3 c3 INS HB3 HN3 HQ3 HO3 HK3 m3 m4 q2 q3 q4 p0 p1 p2 HB2 HN2 HQ2 HO2 HK2
        have p2 : W5.cell? ⟨pp, 2, none⟩ = some (.int .i64 1) := blk_at HQ5.out 2 rfl
        have r0 : W5.cell? ⟨pr, 0, none⟩ = some (.int .i64 0) := blk_at HN5.out 0 rfl
        have r1 : W5.cell? ⟨pr, 1, none⟩ = some (.string ⟨#[]⟩) := blk_at HN5.out 1 rfl
        have r2 : W5.cell? ⟨pr, 2, none⟩ = some (.int .i64 0) := blk_at HN5.out 2 rfl
        have r3 : W5.cell? ⟨pr, 3, none⟩ = some (.slice none 0 0) := blk_at HN5.out 3 rfl
        have z0 : W5.frozen? ⟨pr, 0, none⟩ = false := blk_free HN5.out 0
        have z1 : W5.frozen? ⟨pr, 1, none⟩ = false := blk_free HN5.out 1
        have z2 : W5.frozen? ⟨pr, 2, none⟩ = false := blk_free HN5.out 2
        have z3 : W5.frozen? ⟨pr, 3, none⟩ = false := blk_free HN5.out 3
        obtain ⟨V, hV⟩ : ∃ V, V = (((W5.setCell ⟨pr, 0, none⟩ (.int .i64 1)).setCell ⟨pr, 1, none⟩ (.string ⟨#[]⟩)).setCell ⟨pr, 2, none⟩ (.int .i64 1)).setCell ⟨pr, 3, none⟩ (.slice none 0 0) := ⟨_, rfl⟩
        have HV : Hid (V.heap[pr]? = some (.cells #[.int .i64 1, .string ⟨#[]⟩, .int .i64 1, .slice none 0 0] 50 (0, 0)) ∧ SpotAt V b key v 0 ao' (ps.length + 1) c' i ∧ OwnP w0.heap.size V ao' c' (insP i ⟨key, x, 1⟩ ps) ∧ KK w0 w b ao V) := by rw [hV]; exact set4_all HN5.out HB5.out HO5.out HK5.out HPR.out.1 HPR.out.2.2 _ _ _ _
        go_wp2
        rw [← hV]
        clear hV r0 r1 r2 r3
        have j0 := blk_at HV.out.1 0 rfl
        have j1 := blk_at HV.out.1 1 rfl
        have j2 := blk_at HV.out.1 2 rfl
        have j3 := blk_at HV.out.1 3 rfl
        exact bodyPost_ret (v := resV 1 [] 1) (by simp [results, Tryz.results115, go_sem, j0, j1, j2, j3, resV, bs]) rfl ⟨rfl, ao', c', by rw [insP_len HIL.out]; exact HV.out.2.1, HV.out.2.2.1, HV.out.2.2.2⟩
    · have hr : roomB ps.length n x = true := HRR.out.symm
      have HN := putN_any w0 b c i ao ps key v x n w HB0.out.1 HB0.out.2.1 HB0.out.2.2.old hl hn0 (hi1 h0) h0 hr
      rw [if_neg h0, List.length_set]
      exact HN.mono fun e w' ⟨h1, ao', c', h2, h3, h4⟩ => ⟨h1, ao', c', h2, h3, h4⟩

end Go.Proofs.YtflnjlbafchnaaaGreatDoor
