/-
  The walk through the law of torn and turned frames: it answers true, whatever the bodies, the place and the masks are.
-/
import Derived.Test.YtihgefdpnokoeaaWTorn2
import Derived.Test.YtihgefdpnokoeaaWNums2
namespace Go.Proofs.Ytihgefdpnokoeaa
open Go.RowKit

theorem Kept.cellAll {w w' : World} (h : Kept Nil w w') {a : Addr} {v : Value} (hc : w.cell? a = some v) : w'.cell? a = some v := by
  have hlt := cell_lt hc
  rw [World.cell?_of_block (w := w) (by rw [h.block a.block _ (Array.getElem?_eq_getElem hlt) (fun x => x.elim), Array.getElem?_eq_getElem hlt])]
  exact hc
theorem OwnNats.pushAs {B : Nat} {w' : World} {ao : Option Addr} {c k : Nat} {ns : List Nat} {n : Nat} (hk : ns.length = k) (h : w'.ownsRow B 3 1 (.slice ao (k + 1) c) (k + 1) (natCells ns ++ [.int .i64 n])) : OwnNats B w' ao c (ns ++ [n]) := by
  subst hk
  exact OwnNats.push h

def bodyOf (bl : List (List UInt8)) : List UInt8 := [98, 111, 100, 121] ++ frs bl bl.length

set_option maxRecDepth 100000 in
set_option maxHeartbeats 4000000 in
theorem wireTorn_walk (ao : Option Addr) (bl : List (List UInt8)) (cap : Nat) (at_ m0 m1 m2 m3 : Int) (w : World) (hn : bl.length ≤ 8796093022208)
    (hc : ∀ j, (hj : j < bl.length) → ∃ a, ao = some a ∧ w.cell? (a.add j) = some (.string (bs bl[j])) ∧ bl[j].length ≤ maxLen) :
    Calls Try.prog 9 #[.slice ao bl.length cap, .int .i64 at_, .agg #[.int .i64 m0, .int .i64 m1, .int .i64 m2, .int .i64 m3]] w fun e w' => e = .returned (.bool true) ∧ Kept Nil w w' := by
  obtain ⟨i0, hi, hz0, hz1, hz2⟩ := info_parts Try.infoInt
  have HC : Hid (∀ j, (hj : j < bl.length) → ∃ a, ao = some a ∧ w.cell? (a.add j) = some (.string (bs bl[j])) ∧ bl[j].length ≤ maxLen) := hc
  have hn' : (bl.length : Int) ≤ 8796093022208 := by omega
  have hap := bs_append
  have hsz := bs_size
  obtain ⟨w1, hw1⟩ : ∃ w1, w1 = w.alloc (.cells #[.int .i64 m0, .int .i64 m1, .int .i64 m2, .int .i64 m3] 86) := ⟨_, rfl⟩
  have HM : Hid (w1.heap[w.heap.size]? = some (.cells #[.int .i64 m0, .int .i64 m1, .int .i64 m2, .int .i64 m3] 86 (0, 0))) := by rw [hw1]; exact blk_new _ _
  have HW : Hid (Kept Nil w w1) := by rw [hw1]; exact (Kept.refl _ _).alloc _
  clear hc hn
  go_enter Try.func9, Try.ntmps9
  go_wp2
  rw [← hw1]
  clear hw1
  go_loopw [7, 8, 9] (fun s v i wr => ∃ k : Nat, ∃ a1 c1, k ≤ bl.length ∧ i = .int .i64 k ∧ s = .string (bs (frs bl k)) ∧ v = .slice a1 k c1 ∧ Hid (OwnNats w1.heap.size wr a1 c1 (endsOf bl k)) ∧ Hid (∀ b ∈ bl.take k, b.length ≤ 65536) ∧ Hid (Kept Nil w1 wr)) (fun _ _ i _ => bl.length - (intOf i).toNat)
  case atStart => exact ⟨0, none, 0, Nat.zero_le _, rfl, rfl, rfl, World.ownsRow_nil _ _ _ _, fun b hb => absurd hb (by simp), Kept.refl _ _⟩
  case round =>
    obtain ⟨k, a1, c1, hk, rfl, rfl, rfl, HO, HB, HK⟩ := hrel
    by_cases hlt : k < bl.length
    · obtain ⟨a, rfl, hcell, hmax⟩ := HC.out k hlt
      have hcell := HK.out.cellAll (HW.out.cellAll hcell)
      have HS : Hid (frs bl (k + 1) = frs bl k ++ encFrame bl[k]) := frs_succ hlt
      have HT : Hid (bl[k].length ≤ 65536 → ∀ b ∈ bl.take (k + 1), b.length ≤ 65536) := by
        intro h b hb
        rw [List.take_succ_eq_append_getElem hlt] at hb
        rcases List.mem_append.1 hb with hb | hb
        · exact HB.out b hb
        · rw [List.mem_singleton.1 hb]; exact h
      have hfl := frs_len HB.out
      have hz : (frs bl k).length ≤ 600000000000000000 := by
        have : k * 65546 ≤ 8796093022208 * 65546 := Nat.mul_le_mul_right _ (by omega)
        omega
      have HE : Hid (endsOf bl (k + 1) = endsOf bl k ++ [(frs bl (k + 1)).length]) := endsOf_succ bl k
      have hF := @frame_ok bl[k]
      have hG := fun (h : ¬ bl[k].length ≤ 65536) => frame_no bl[k] wr h hmax
      clear hfl
      generalize bl[k] = b at *
      by_cases h16 : b.length ≤ 65536
      · have F := hF wr h16
        have hmax := encFrame_max h16
        have HT : Hid (∀ b ∈ bl.take (k + 1), b.length ≤ 65536) := HT.out h16
        have h16' : (b.length : Int) ≤ 65536 := by omega
        have ho : wr.ownsRow w1.heap.size 3 1 (.slice a1 k c1) k (natCells (endsOf bl k)) := by have := HO.out; unfold OwnNats at this; rwa [endsOf_len] at this
        clear hF hG h16
        go_wp2_with fail
        refine F.mono ?_
        rintro e w2 ⟨rfl, hk2⟩
        have hcell := hk2.cellAll hcell
        have HK2 : Hid (Kept Nil w1 w2) := HK.out.trans hk2
        have ho := own_kept ho hk2 (fun _ _ _ x => x.elim)
        have HLL : Hid (k + 1 ≤ maxLen ∧ (k + 1) * 8 ≤ 140737488355328) := by
          constructor
          · unfold maxLen; omega
          · omega
        have HSum : Hid (((frs bl k).length : Int) + ((encFrame b).length : Int) = ((frs bl (k + 1)).length : Nat)) := by
          show _ = _
          rw [HS.out, List.length_append]
          omega
        clear hk2
        go_wp2_with (first | (at_builtin; go_must (refine wpList_append_src _ rfl _ _ 31 31 rfl w1.heap.size 3 i0 (.int .i64 0) 1 8 Try.underlying31 hi hz0 hz1 hz2 rfl _ _ _ rfl (ho.alloc _) (.slice (some ⟨w2.heap.size, 0, none⟩) 1 1) 1 [.int .i64 ((frs bl (k + 1)).length : Nat)] rfl (by rw [← HSum.out]; exact src_int _) HLL.out.1 HLL.out.2 (le_alloc HK2.out.size _) ?_); intro ao' c' w3 ho' hg'; have HK3 : Hid (Kept Nil w1 w3) := (HK2.out.alloc _).grown hg' (own_row ho); clear hg'))
        go_roundw
        case rel => exact ⟨k + 1, ao', c', by omega, by go_num, by rw [HS.out], rfl, by show OwnNats _ _ _ _ _; rw [HE.out]; exact OwnNats.pushAs (endsOf_len bl k) ho', HT.out, HK3.out⟩
        case measure => simp [intOf]; omega
      · have G := hG h16
        have h16' : ¬ (b.length : Int) ≤ 65536 := by omega
        clear hF hG h16
        go_wp2_with fail
        refine G.mono ?_
        rintro e w2 ⟨rfl, rfl⟩
        go_wp2
        go_ret
        exact ⟨rfl, HW.out.trans HK.out⟩
    · obtain rfl : k = bl.length := by omega
      have hfl := frs_len HB.out
      have hz : ((frs bl bl.length).length : Int) ≤ 600000000000000000 := by
        have : bl.length * 65546 ≤ 8796093022208 * 65546 := Nat.mul_le_mul_right _ (by omega)
        omega
      have hzp : (0 : Int) < ((frs bl bl.length).length : Int) + 1 := by omega
      have HB' : Hid (∀ j, (hj : j < bl.length) → bl[j].length ≤ 65536) := fun j hj => HB.out _ (by rw [List.take_of_length_le (Nat.le_refl _)]; exact List.getElem_mem hj)
      clear hfl HB hlt hk
      go_wp2_with fail
      refine (pick_any at_ (((frs bl bl.length).length : Int) + 1) _ hzp (by omega)).mono ?_
      rintro e w2 ⟨rfl, rfl⟩
      obtain ⟨K, hK⟩ : ∃ K : Nat, at_ % (((frs bl bl.length).length : Int) + 1) = K := ⟨(at_ % (((frs bl bl.length).length : Int) + 1)).toNat, by have := Int.emod_nonneg at_ (show ((frs bl bl.length).length : Int) + 1 ≠ 0 by omega); omega⟩
      have hKle : (K : Int) ≤ (frs bl bl.length).length := by have := Int.emod_lt_of_pos at_ hzp; omega
      rw [hK]
      clear hK
      have ht := bs_toList
      go_wp2_with fail
      go_loopw [13, 14] (fun s v wz => ∃ i : Nat, i ≤ bl.length ∧ v = .int .i64 i ∧ s = .string (bs (cutRest bl K i)) ∧ Hid ((frs bl i).length ≤ K) ∧ Hid (Kept Nil w2 wz)) (fun _ v _ => bl.length - (intOf v).toNat)
      case atStart => exact ⟨0, Nat.zero_le _, rfl, by rw [bs_take, cutRest_zero], by show (frs bl 0).length ≤ K; simp [frs], Kept.refl _ _⟩
      case round =>
        obtain ⟨i, hin, rfl, rfl, HF, HK2⟩ := hrel
        have HLc : Hid ((cutRest bl K i).length ≤ maxLen) := by
          show (cutRest bl K i).length ≤ maxLen
          have := cutRest_le bl K i
          unfold maxLen
          omega
        have U := unframe_any (cutRest bl K i) wr HLc.out
        by_cases hlt : i < bl.length
        · obtain ⟨gE, _, rfl, ⟨cs, hg⟩, hce⟩ := HO.out.shape (fun e => by have := congrArg List.length e; rw [endsOf_len, List.length_nil] at this; omega)
          have hend : wr.cell? ⟨gE, i, none⟩ = some (.int .i64 ((frs bl (i + 1)).length : Nat)) := by
            rw [HK2.out.cell hg (fun x => x.elim), hce i (by rw [endsOf_len]; exact hlt), endsOf_at]
          clear hce hg
          by_cases hmore : (frs bl (i + 1)).length ≤ K
          · obtain ⟨a, rfl, hcell, _⟩ := HC.out i hlt
            have hcell := HK2.out.cellAll (HK.out.cellAll (HW.out.cellAll hcell))
            rw [cut_more hlt (HB'.out i hlt) hmore] at U
            go_wp2_with fail
            refine U.mono ?_
            rintro e w3 ⟨rfl, hk3⟩
            have hcell := hk3.cellAll hcell
            have HK3 : Hid _ := HK2.out.trans hk3
            have HM3 : Hid ((frs bl (i + 1)).length ≤ K) := hmore
            clear hk3 U hmore
            go_wp2
            go_roundw
            case rel => exact ⟨i + 1, by omega, by go_num, rfl, HM3.out, HK3.out⟩
            case measure => simp [intOf]; omega
          · rw [cut_end hlt (HB'.out i hlt) HF.out (by omega)] at U
            go_wp2_with fail
            refine U.mono ?_
            rintro e w3 ⟨rfl, hk3⟩
            clear hend hmore
            have HK3 : Hid (Kept Nil w w3) := ((HW.out.trans HK.out).trans HK2.out).trans hk3
            have HM3 : Hid (w3.heap[w.heap.size]? = some (.cells #[.int .i64 m0, .int .i64 m1, .int .i64 m2, .int .i64 m3] 86 (0, 0))) := ((HK.out.trans HK2.out).trans hk3).block _ _ HM.out (fun x => x.elim)
            clear U hk3 HC HM HW HK HK2 HO HB' HF HLc
            have hz4 : (⟨#[98, 111, 100, 121]⟩ : ByteArray).size = 4 := rfl
            have hbody : (⟨#[98, 111, 100, 121]⟩ : ByteArray) ++ bs (frs bl bl.length) = bs (bodyOf bl) := bs_append [98, 111, 100, 121] _
            have hbl : (bodyOf bl).length = (frs bl bl.length).length + 4 := by simp [bodyOf]
            obtain ⟨body, hbo⟩ : ∃ body, body = bodyOf bl := ⟨_, rfl⟩
            rw [← hbo] at hbody hbl
            have HBL : Hid (body.length = (frs bl bl.length).length + 4) := hbl
            clear hbl
            generalize frs bl bl.length = L at *
            clear hbo
            by_cases h16 : body.length ≤ 65536
            · have FR := fun w => frame_ok body w h16
              have hb4 : (4 : Int) ≤ body.length := by have := HBL.out; omega
              have hb16 : (body.length : Int) ≤ 65536 := by omega
              clear h16
              go_wp2_with fail
              refine (FR _).mono ?_
              rintro e w4 ⟨rfl, hk4⟩
              have hcv := fun w s => run_bytes_of_string (P := Try.prog) w 9 87 5 s Try.underlying9 Try.underlying87 Try.underlying5
              have hfl := encFrame_len body
              have hen := enc_len6 (n := body.length) (by omega)
              go_wp2_with fail
              refine (pick_any at_ (body.length : Int) _ (by omega) (by omega)).mono ?_
              rintro e w5 ⟨rfl, hw5⟩
              obtain ⟨F, hF⟩ : ∃ F : Nat, at_ % (body.length : Int) = F := ⟨(at_ % (body.length : Int)).toNat, by have := Int.emod_nonneg at_ (show (body.length : Int) ≠ 0 by omega); omega⟩
              have hFl : (F : Int) < body.length := by have := Int.emod_lt_of_pos at_ (show (0 : Int) < body.length by omega); omega
              rw [hF]
              have HR5 : Hid (ByteRow w5 w4.heap.size (turnT body body)) := by rw [hw5, turnT_self]; exact ByteRow.new w4 (encFrame body) _
              have HK5 : Hid (Kept Nil w w5) := by rw [hw5]; exact ((HK3.out.trans hk4).alloc _).drew
              have hM4 := hk4.block _ _ HM3.out (fun x => x.elim)
              have HM5 : Hid (w5.heap[w.heap.size]? = some (.cells #[.int .i64 m0, .int .i64 m1, .int .i64 m2, .int .i64 m3] 86 (0, 0))) := by rw [hw5]; exact blk_past hM4 _
              have HGL : Hid (w.heap.size < w4.heap.size) := lt_of_block hM4
              have HEF : Hid ((enc body.length).length + body.length + 4 = (encFrame body).length) := hfl.symm
              generalize w4.heap.size = g at HR5 HGL ⊢
              generalize grownCap w4 ((enc body.length).length + body.length + 4) 0 5 = cp
              clear hF hw5 hM4 HM3 HK3 hk4 hfl FR hcv HBL hbody hz4
              go_wp2
              go_loopw [27, 28] (fun ch i wz => ∃ j : Nat, ∃ b : List UInt8, ∃ c : Bool, j ≤ 4 ∧ i = .int .i64 j ∧ ch = .bool c ∧ Hid (c = true ↔ b ≠ body) ∧ Hid (Turned body b F j) ∧ Hid (ByteRow wz g (turnT body b)) ∧ Hid (wz.heap[w.heap.size]? = some (.cells #[.int .i64 m0, .int .i64 m1, .int .i64 m2, .int .i64 m3] 86 (0, 0))) ∧ Hid (Kept Nil w wz)) (fun _ i _ => 4 - (intOf i).toNat)
              case atStart => exact ⟨0, body, false, by omega, rfl, rfl, by show false = true ↔ body ≠ body; simp, Turned.start body F, HR5.out, HM5.out, HK5.out⟩
              case round =>
                obtain ⟨j, b, c, hj, rfl, rfl, HCB, HTu, HR, HMr, HKr⟩ := hrel
                clear HR5 HM5 HK5
                by_cases hmore : j < 4 ∧ F + j < body.length
                · obtain ⟨hj4, hFj⟩ := hmore
                  obtain ⟨mz, hmz⟩ : ∃ mz, wr.cell? ⟨w.heap.size, j, none⟩ = some (.int .i64 mz) := by
                    rcases (show j = 0 ∨ j = 1 ∨ j = 2 ∨ j = 3 by omega) with rfl | rfl | rfl | rfl
                    · exact ⟨m0, blk_cell HMr.out 0⟩
                    · exact ⟨m1, blk_cell HMr.out 1⟩
                    · exact ⟨m2, blk_cell HMr.out 2⟩
                    · exact ⟨m3, blk_cell HMr.out 3⟩
                  have hxT : (turnT body b)[(enc body.length).length + F + j]? = some body[F + j] := by rw [Nat.add_assoc, turnT_at HTu.out.len hFj, HTu.out.same _ (.inr (Nat.le_refl _)), List.getElem?_eq_getElem hFj]
                  obtain ⟨hltT, hvT⟩ := List.getElem?_eq_some_iff.1 hxT
                  have hld := HR.out.cell _ hltT
                  have hfr := (HR.out.free ((enc body.length).length + F + j)).resolve_right (by omega)
                  rw [hvT] at hld
                  obtain ⟨hst1, hst2⟩ := HTu.out.step hFj (UInt8.ofNat (mz % 256).toNat)
                  have HS1 : Hid (Turned body (b.set (F + j) (body[F + j] ^^^ UInt8.ofNat (mz % 256).toNat)) F (j + 1)) := hst1
                  have HS2 : Hid (b.set (F + j) (body[F + j] ^^^ UInt8.ofNat (mz % 256).toNat) ≠ body ↔ b ≠ body ∨ UInt8.ofNat (mz % 256).toNat ≠ 0) := hst2
                  have hxb := xor_byte body[F + j] mz
                  have HRS : Hid (ByteRow (wr.setCell ⟨g, (enc body.length).length + F + j, none⟩ (.int .u8 (bits .xor .u8 (body[F + j].toNat : Int) (mz % 256)))) g (turnT body (b.set (F + j) (body[F + j] ^^^ UInt8.ofNat (mz % 256).toNat)))) := by
                    have h1 := HR.out.set ((enc body.length).length + F + j) (body[F + j] ^^^ UInt8.ofNat (mz % 256).toNat) hltT hxb
                    rw [Nat.add_assoc, turnT_set HTu.out.len hFj, ← Nat.add_assoc] at h1
                    exact h1
                  have HMS : Hid ((wr.setCell ⟨g, (enc body.length).length + F + j, none⟩ (.int .u8 (bits .xor .u8 (body[F + j].toNat : Int) (mz % 256)))).heap[w.heap.size]? = some (.cells #[.int .i64 m0, .int .i64 m1, .int .i64 m2, .int .i64 m3] 86 (0, 0))) := blk_other HMr.out (by have := HGL.out; show w.heap.size ≠ g; omega) _
                  have HKS : Hid (Kept Nil w (wr.setCell ⟨g, (enc body.length).length + F + j, none⟩ (.int .u8 (bits .xor .u8 (body[F + j].toNat : Int) (mz % 256))))) := HKr.out.setNew (by have := HGL.out; show w.heap.size ≤ g; omega) _
                  have HZ := byte_zero mz
                  clear hxb hvT hxT hst1 hst2 HR HMr HKr HTu hltT
                  generalize body[F + j] = x at *
                  generalize b.set (F + j) (x ^^^ UInt8.ofNat (mz % 256).toNat) = b2 at *
                  have hFj' : (F : Int) + j < body.length := by omega
                  generalize UInt8.ofNat (mz % 256).toNat = mu at *
                  cases c with
                  | true =>
                    have HC2 : Hid (b2 ≠ body) := HS2.out.2 (.inl (HCB.out.1 rfl))
                    clear HZ HCB HS2
                    go_wp2_with fail
                    refine (pick_any mz 256 _ (by decide) (by decide)).mono ?_
                    rintro e w6 ⟨rfl, rfl⟩
                    go_wp2
                    go_roundw
                    case rel => exact ⟨j + 1, b2, true, by omega, by go_num, rfl, ⟨fun _ => HC2.out, fun _ => rfl⟩, HS1.out, HRS.out, HMS.out, HKS.out⟩
                    case measure => simp [intOf]; omega
                  | false =>
                    by_cases hm : mz % 256 = 0
                    · have HC2 : Hid (false = true ↔ b2 ≠ body) := by
                        have h1 := HCB.out
                        have h2 := HS2.out
                        show false = true ↔ b2 ≠ body
                        constructor
                        · intro h; cases h
                        · intro h
                          rcases h2.1 h with h | h
                          · exact h1.2 h
                          · exact absurd (HZ.2 hm) h
                      have hm' : (mz % 256 != 0) = false := by simp [hm]
                      clear HZ HCB HS2 hm
                      go_wp2_with fail
                      refine (pick_any mz 256 _ (by decide) (by decide)).mono ?_
                      rintro e w6 ⟨rfl, rfl⟩
                      go_wp2
                      go_roundw
                      case rel => exact ⟨j + 1, b2, false, by omega, by go_num, rfl, HC2.out, HS1.out, HRS.out, HMS.out, HKS.out⟩
                      case measure => simp [intOf]; omega
                    · have HC2 : Hid (b2 ≠ body) := HS2.out.2 (.inr (fun h => hm (HZ.1 h)))
                      have hm' : (mz % 256 != 0) = true := by simp [hm]
                      clear HZ HCB HS2 hm
                      go_wp2_with fail
                      refine (pick_any mz 256 _ (by decide) (by decide)).mono ?_
                      rintro e w6 ⟨rfl, rfl⟩
                      go_wp2
                      go_roundw
                      case rel => exact ⟨j + 1, b2, true, by omega, by go_num, rfl, ⟨fun _ => HC2.out, fun _ => rfl⟩, HS1.out, HRS.out, HMS.out, HKS.out⟩
                      case measure => simp [intOf]; omega
                · have hcvb := HR.out.convAs cp (N := (enc body.length).length + body.length + 4) (HEF.out.trans (turnT_len HTu.out.len).symm)
                  have hend4 := turn_end HTu.out hj (by omega)
                  have hUl : (turnT body b).length ≤ maxLen := by rw [turnT_len HTu.out.len, ← HEF.out]; unfold maxLen; omega
                  have U4 := unframe_any (turnT body b) wr hUl
                  have hstop : j < 4 → (body.length : Int) ≤ (F : Int) + j := by omega
                  clear HR HMr HTu hUl hmore
                  cases c with
                  | true =>
                    rw [if_neg (HCB.out.1 rfl)] at hend4
                    generalize unF (turnT body b) = u at U4 hend4
                    obtain ⟨u1, u2, u3⟩ := u
                    simp only at hend4 U4
                    subst hend4
                    clear HCB
                    by_cases hj4 : j < 4
                    · have hs4 := hstop hj4
                      clear hstop
                      go_wp2_with fail
                      refine U4.mono ?_
                      rintro e w6 ⟨rfl, hk6⟩
                      go_wp2
                      go_ret
                      exact ⟨rfl, HKr.out.trans hk6⟩
                    · clear hstop
                      go_wp2_with fail
                      refine U4.mono ?_
                      rintro e w6 ⟨rfl, hk6⟩
                      go_wp2
                      go_ret
                      exact ⟨rfl, HKr.out.trans hk6⟩
                  | false =>
                    rw [if_pos (Decidable.byContradiction fun h => Bool.noConfusion (HCB.out.2 h))] at hend4
                    generalize unF (turnT body b) = u at U4 hend4
                    obtain ⟨u1, u2, u3⟩ := u
                    simp only at hend4 U4
                    subst hend4
                    clear HCB
                    by_cases hj4 : j < 4
                    · have hs4 := hstop hj4
                      clear hstop
                      go_wp2_with fail
                      refine U4.mono ?_
                      rintro e w6 ⟨rfl, hk6⟩
                      go_wp2
                      go_ret
                      exact ⟨rfl, HKr.out.trans hk6⟩
                    · clear hstop
                      go_wp2_with fail
                      refine U4.mono ?_
                      rintro e w6 ⟨rfl, hk6⟩
                      go_wp2
                      go_ret
                      exact ⟨rfl, HKr.out.trans hk6⟩
            · have h16' : ¬ (body.length : Int) ≤ 65536 := by omega
              clear h16
              go_wp2
              go_ret
              exact ⟨rfl, HK3.out⟩
        · obtain rfl : i = bl.length := by omega
          rw [cut_nil HF.out] at U
          go_wp2_with fail
          refine U.mono ?_
          rintro e w3 ⟨rfl, hk3⟩
          have HK3 : Hid (Kept Nil w w3) := ((HW.out.trans HK.out).trans HK2.out).trans hk3
          have HM3 : Hid (w3.heap[w.heap.size]? = some (.cells #[.int .i64 m0, .int .i64 m1, .int .i64 m2, .int .i64 m3] 86 (0, 0))) := ((HK.out.trans HK2.out).trans hk3).block _ _ HM.out (fun x => x.elim)
          clear U hk3 HC HM HW HK HK2 HO HB' HF HLc
          have hz4 : (⟨#[98, 111, 100, 121]⟩ : ByteArray).size = 4 := rfl
          have hbody : (⟨#[98, 111, 100, 121]⟩ : ByteArray) ++ bs (frs bl bl.length) = bs (bodyOf bl) := bs_append [98, 111, 100, 121] _
          have hbl : (bodyOf bl).length = (frs bl bl.length).length + 4 := by simp [bodyOf]
          obtain ⟨body, hbo⟩ : ∃ body, body = bodyOf bl := ⟨_, rfl⟩
          rw [← hbo] at hbody hbl
          have HBL : Hid (body.length = (frs bl bl.length).length + 4) := hbl
          clear hbl
          generalize frs bl bl.length = L at *
          clear hbo
          by_cases h16 : body.length ≤ 65536
          · have FR := fun w => frame_ok body w h16
            have hb4 : (4 : Int) ≤ body.length := by have := HBL.out; omega
            have hb16 : (body.length : Int) ≤ 65536 := by omega
            clear h16
            go_wp2_with fail
            refine (FR _).mono ?_
            rintro e w4 ⟨rfl, hk4⟩
            have hcv := fun w s => run_bytes_of_string (P := Try.prog) w 9 87 5 s Try.underlying9 Try.underlying87 Try.underlying5
            have hfl := encFrame_len body
            have hen := enc_len6 (n := body.length) (by omega)
            go_wp2_with fail
            refine (pick_any at_ (body.length : Int) _ (by omega) (by omega)).mono ?_
            rintro e w5 ⟨rfl, hw5⟩
            obtain ⟨F, hF⟩ : ∃ F : Nat, at_ % (body.length : Int) = F := ⟨(at_ % (body.length : Int)).toNat, by have := Int.emod_nonneg at_ (show (body.length : Int) ≠ 0 by omega); omega⟩
            have hFl : (F : Int) < body.length := by have := Int.emod_lt_of_pos at_ (show (0 : Int) < body.length by omega); omega
            rw [hF]
            have HR5 : Hid (ByteRow w5 w4.heap.size (turnT body body)) := by rw [hw5, turnT_self]; exact ByteRow.new w4 (encFrame body) _
            have HK5 : Hid (Kept Nil w w5) := by rw [hw5]; exact ((HK3.out.trans hk4).alloc _).drew
            have hM4 := hk4.block _ _ HM3.out (fun x => x.elim)
            have HM5 : Hid (w5.heap[w.heap.size]? = some (.cells #[.int .i64 m0, .int .i64 m1, .int .i64 m2, .int .i64 m3] 86 (0, 0))) := by rw [hw5]; exact blk_past hM4 _
            have HGL : Hid (w.heap.size < w4.heap.size) := lt_of_block hM4
            have HEF : Hid ((enc body.length).length + body.length + 4 = (encFrame body).length) := hfl.symm
            generalize w4.heap.size = g at HR5 HGL ⊢
            generalize grownCap w4 ((enc body.length).length + body.length + 4) 0 5 = cp
            clear hF hw5 hM4 HM3 HK3 hk4 hfl FR hcv HBL hbody hz4
            go_wp2
            go_loopw [27, 28] (fun ch i wz => ∃ j : Nat, ∃ b : List UInt8, ∃ c : Bool, j ≤ 4 ∧ i = .int .i64 j ∧ ch = .bool c ∧ Hid (c = true ↔ b ≠ body) ∧ Hid (Turned body b F j) ∧ Hid (ByteRow wz g (turnT body b)) ∧ Hid (wz.heap[w.heap.size]? = some (.cells #[.int .i64 m0, .int .i64 m1, .int .i64 m2, .int .i64 m3] 86 (0, 0))) ∧ Hid (Kept Nil w wz)) (fun _ i _ => 4 - (intOf i).toNat)
            case atStart => exact ⟨0, body, false, by omega, rfl, rfl, by show false = true ↔ body ≠ body; simp, Turned.start body F, HR5.out, HM5.out, HK5.out⟩
            case round =>
              obtain ⟨j, b, c, hj, rfl, rfl, HCB, HTu, HR, HMr, HKr⟩ := hrel
              clear HR5 HM5 HK5
              by_cases hmore : j < 4 ∧ F + j < body.length
              · obtain ⟨hj4, hFj⟩ := hmore
                obtain ⟨mz, hmz⟩ : ∃ mz, wr.cell? ⟨w.heap.size, j, none⟩ = some (.int .i64 mz) := by
                  rcases (show j = 0 ∨ j = 1 ∨ j = 2 ∨ j = 3 by omega) with rfl | rfl | rfl | rfl
                  · exact ⟨m0, blk_cell HMr.out 0⟩
                  · exact ⟨m1, blk_cell HMr.out 1⟩
                  · exact ⟨m2, blk_cell HMr.out 2⟩
                  · exact ⟨m3, blk_cell HMr.out 3⟩
                have hxT : (turnT body b)[(enc body.length).length + F + j]? = some body[F + j] := by rw [Nat.add_assoc, turnT_at HTu.out.len hFj, HTu.out.same _ (.inr (Nat.le_refl _)), List.getElem?_eq_getElem hFj]
                obtain ⟨hltT, hvT⟩ := List.getElem?_eq_some_iff.1 hxT
                have hld := HR.out.cell _ hltT
                have hfr := (HR.out.free ((enc body.length).length + F + j)).resolve_right (by omega)
                rw [hvT] at hld
                obtain ⟨hst1, hst2⟩ := HTu.out.step hFj (UInt8.ofNat (mz % 256).toNat)
                have HS1 : Hid (Turned body (b.set (F + j) (body[F + j] ^^^ UInt8.ofNat (mz % 256).toNat)) F (j + 1)) := hst1
                have HS2 : Hid (b.set (F + j) (body[F + j] ^^^ UInt8.ofNat (mz % 256).toNat) ≠ body ↔ b ≠ body ∨ UInt8.ofNat (mz % 256).toNat ≠ 0) := hst2
                have hxb := xor_byte body[F + j] mz
                have HRS : Hid (ByteRow (wr.setCell ⟨g, (enc body.length).length + F + j, none⟩ (.int .u8 (bits .xor .u8 (body[F + j].toNat : Int) (mz % 256)))) g (turnT body (b.set (F + j) (body[F + j] ^^^ UInt8.ofNat (mz % 256).toNat)))) := by
                  have h1 := HR.out.set ((enc body.length).length + F + j) (body[F + j] ^^^ UInt8.ofNat (mz % 256).toNat) hltT hxb
                  rw [Nat.add_assoc, turnT_set HTu.out.len hFj, ← Nat.add_assoc] at h1
                  exact h1
                have HMS : Hid ((wr.setCell ⟨g, (enc body.length).length + F + j, none⟩ (.int .u8 (bits .xor .u8 (body[F + j].toNat : Int) (mz % 256)))).heap[w.heap.size]? = some (.cells #[.int .i64 m0, .int .i64 m1, .int .i64 m2, .int .i64 m3] 86 (0, 0))) := blk_other HMr.out (by have := HGL.out; show w.heap.size ≠ g; omega) _
                have HKS : Hid (Kept Nil w (wr.setCell ⟨g, (enc body.length).length + F + j, none⟩ (.int .u8 (bits .xor .u8 (body[F + j].toNat : Int) (mz % 256))))) := HKr.out.setNew (by have := HGL.out; show w.heap.size ≤ g; omega) _
                have HZ := byte_zero mz
                clear hxb hvT hxT hst1 hst2 HR HMr HKr HTu hltT
                generalize body[F + j] = x at *
                generalize b.set (F + j) (x ^^^ UInt8.ofNat (mz % 256).toNat) = b2 at *
                have hFj' : (F : Int) + j < body.length := by omega
                generalize UInt8.ofNat (mz % 256).toNat = mu at *
                cases c with
                | true =>
                  have HC2 : Hid (b2 ≠ body) := HS2.out.2 (.inl (HCB.out.1 rfl))
                  clear HZ HCB HS2
                  go_wp2_with fail
                  refine (pick_any mz 256 _ (by decide) (by decide)).mono ?_
                  rintro e w6 ⟨rfl, rfl⟩
                  go_wp2
                  go_roundw
                  case rel => exact ⟨j + 1, b2, true, by omega, by go_num, rfl, ⟨fun _ => HC2.out, fun _ => rfl⟩, HS1.out, HRS.out, HMS.out, HKS.out⟩
                  case measure => simp [intOf]; omega
                | false =>
                  by_cases hm : mz % 256 = 0
                  · have HC2 : Hid (false = true ↔ b2 ≠ body) := by
                      have h1 := HCB.out
                      have h2 := HS2.out
                      show false = true ↔ b2 ≠ body
                      constructor
                      · intro h; cases h
                      · intro h
                        rcases h2.1 h with h | h
                        · exact h1.2 h
                        · exact absurd (HZ.2 hm) h
                    have hm' : (mz % 256 != 0) = false := by simp [hm]
                    clear HZ HCB HS2 hm
                    go_wp2_with fail
                    refine (pick_any mz 256 _ (by decide) (by decide)).mono ?_
                    rintro e w6 ⟨rfl, rfl⟩
                    go_wp2
                    go_roundw
                    case rel => exact ⟨j + 1, b2, false, by omega, by go_num, rfl, HC2.out, HS1.out, HRS.out, HMS.out, HKS.out⟩
                    case measure => simp [intOf]; omega
                  · have HC2 : Hid (b2 ≠ body) := HS2.out.2 (.inr (fun h => hm (HZ.1 h)))
                    have hm' : (mz % 256 != 0) = true := by simp [hm]
                    clear HZ HCB HS2 hm
                    go_wp2_with fail
                    refine (pick_any mz 256 _ (by decide) (by decide)).mono ?_
                    rintro e w6 ⟨rfl, rfl⟩
                    go_wp2
                    go_roundw
                    case rel => exact ⟨j + 1, b2, true, by omega, by go_num, rfl, ⟨fun _ => HC2.out, fun _ => rfl⟩, HS1.out, HRS.out, HMS.out, HKS.out⟩
                    case measure => simp [intOf]; omega
              · have hcvb := HR.out.convAs cp (N := (enc body.length).length + body.length + 4) (HEF.out.trans (turnT_len HTu.out.len).symm)
                have hend4 := turn_end HTu.out hj (by omega)
                have hUl : (turnT body b).length ≤ maxLen := by rw [turnT_len HTu.out.len, ← HEF.out]; unfold maxLen; omega
                have U4 := unframe_any (turnT body b) wr hUl
                have hstop : j < 4 → (body.length : Int) ≤ (F : Int) + j := by omega
                clear HR HMr HTu hUl hmore
                cases c with
                | true =>
                  rw [if_neg (HCB.out.1 rfl)] at hend4
                  generalize unF (turnT body b) = u at U4 hend4
                  obtain ⟨u1, u2, u3⟩ := u
                  simp only at hend4 U4
                  subst hend4
                  clear HCB
                  by_cases hj4 : j < 4
                  · have hs4 := hstop hj4
                    clear hstop
                    go_wp2_with fail
                    refine U4.mono ?_
                    rintro e w6 ⟨rfl, hk6⟩
                    go_wp2
                    go_ret
                    exact ⟨rfl, HKr.out.trans hk6⟩
                  · clear hstop
                    go_wp2_with fail
                    refine U4.mono ?_
                    rintro e w6 ⟨rfl, hk6⟩
                    go_wp2
                    go_ret
                    exact ⟨rfl, HKr.out.trans hk6⟩
                | false =>
                  rw [if_pos (Decidable.byContradiction fun h => Bool.noConfusion (HCB.out.2 h))] at hend4
                  generalize unF (turnT body b) = u at U4 hend4
                  obtain ⟨u1, u2, u3⟩ := u
                  simp only at hend4 U4
                  subst hend4
                  clear HCB
                  by_cases hj4 : j < 4
                  · have hs4 := hstop hj4
                    clear hstop
                    go_wp2_with fail
                    refine U4.mono ?_
                    rintro e w6 ⟨rfl, hk6⟩
                    go_wp2
                    go_ret
                    exact ⟨rfl, HKr.out.trans hk6⟩
                  · clear hstop
                    go_wp2_with fail
                    refine U4.mono ?_
                    rintro e w6 ⟨rfl, hk6⟩
                    go_wp2
                    go_ret
                    exact ⟨rfl, HKr.out.trans hk6⟩
          · have h16' : ¬ (body.length : Int) ≤ 65536 := by omega
            clear h16
            go_wp2
            go_ret
            exact ⟨rfl, HK3.out⟩

end Go.Proofs.Ytihgefdpnokoeaa
