/-
  Joined: WSsM, WSsC.
-/
import Derived.Test.YtpfgnhockfofhaaGreatH38
/-
  The law: both shards show the same.
-/
namespace Go.Proofs.YtpfgnhockfofhaaGreat
open Go.RowKit

/-- From its place k on a row of pairs of cells is as it was. -/
def From (B : Nat) (w : World) (t : TypeId) (a : Option Addr) (n k : Nat) (ys : List Value) : Prop := k < n → ∃ g cs, a = some ⟨g, 0, none⟩ ∧ w.heap[g]? = some (.cells cs t (0, 0)) ∧ B ≤ g ∧ n * 2 ≤ cs.size ∧ ∀ j, k * 2 ≤ j → j < n * 2 → cs[j]? = ys[j]?
theorem From.start {B n c : Nat} {w : World} {t : TypeId} {a : Option Addr} {ys : List Value} (h : w.ownsRow B t 2 (.slice a n c) n ys) : From B w t a n 0 ys := fun hn => by
  obtain ⟨_, h | ⟨g, cap, cur, hv, hB, hb, h1, h2, h3, h4⟩⟩ := h
  · exact absurd h.2 (by omega)
  · cases hv
    refine ⟨g, cur, rfl, hb, hB, by rw [h3]; exact Nat.mul_le_mul_right _ h1, fun j _ hj => ?_⟩
    rw [← h4, List.getElem?_take, if_pos hj, Array.getElem?_toList]
theorem From.next {B n k g : Nat} {w : World} {t : TypeId} {ys : List Value} (h : From B w t (some ⟨g, 0, none⟩) n k ys) (u v : Value) : From B ((w.setCell ⟨g, k * 2, none⟩ u).setCell ⟨g, k * 2 + 1, none⟩ v) t (some ⟨g, 0, none⟩) n (k + 1) ys := fun hk => by
  obtain ⟨g', cs, e, hb, hB, hs, hc⟩ := h (by omega)
  cases e
  refine ⟨g, _, rfl, blk_set (blk_set hb _ _) _ _, hB, by simpa using hs, fun j h1 h2 => ?_⟩
  rw [Array.getElem?_setIfInBounds_ne (by omega), Array.getElem?_setIfInBounds_ne (by omega)]
  exact hc j (by omega) h2
theorem From.cells {B n k : Nat} {w : World} {t : TypeId} {a : Option Addr} {ys : List Value} (h : From B w t a n k ys) (hk : k < n) {u v : Value} (hu : ys[k * 2]? = some u) (hv : ys[k * 2 + 1]? = some v) : ∃ g, a = some ⟨g, 0, none⟩ ∧ B ≤ g ∧ w.cell? ⟨g, k * 2, none⟩ = some u ∧ w.cell? ⟨g, k * 2 + 1, none⟩ = some v ∧ w.frozen? ⟨g, k * 2, none⟩ = false ∧ w.frozen? ⟨g, k * 2 + 1, none⟩ = false ∧ g < w.heap.size := by
  obtain ⟨g, cs, e, hb, hB, hs, hc⟩ := h hk
  exact ⟨g, e, hB, by rw [blk_cell hb, hc _ (by omega) (by omega), hu], by rw [blk_cell hb, hc _ (by omega) (by omega), hv], blk_free hb _, blk_free hb _, lt_of_block hb⟩
theorem From.kept {B n k : Nat} {w w' : World} {t : TypeId} {a : Option Addr} {ys : List Value} (h : From B w t a n k ys) (hk : Kept Nil w w') : From B w' t a n k ys := fun hn => by
  obtain ⟨g, cs, e, hb, hB, hs, hc⟩ := h hn
  exact ⟨g, cs, e, hk.block _ _ hb (fun e => e), hB, hs, hc⟩
theorem From.typed {B n k : Nat} {w : World} {t : TypeId} {g : Nat} {ys : List Value} (h : From B w t (some ⟨g, 0, none⟩) n k ys) (hk : k < n) : ∃ cs, w.heap[g]? = some (.cells cs t (0, 0)) := by
  obtain ⟨g', cs, e, hb, _⟩ := h hk
  cases e
  exact ⟨cs, hb⟩
theorem From.other {B n k g : Nat} {w : World} {t t' : TypeId} {a : Option Addr} {ys : List Value} (h : From B w t a n k ys) (hg : ∃ cs, w.heap[g]? = some (.cells cs t' (0, 0))) (ne : t ≠ t') (i : Nat) (u : Value) : From B (w.setCell ⟨g, i, none⟩ u) t a n k ys := fun hn => by
  obtain ⟨g', cs, e, hb, hr⟩ := h hn
  obtain ⟨cs', hb'⟩ := hg
  have hgg : g' ≠ g := fun e => by
    rw [e, hb'] at hb
    cases hb
    exact ne rfl
  exact ⟨g', cs, e, blk_other hb hgg _, hr⟩
set_option maxRecDepth 100000 in
set_option maxHeartbeats 16000000 in
theorem shardsAll_any (K : List (List UInt8)) (M : Nat) (Gs Gy : Nat → Nat → Prop) (b hb ch cw d hd cd cy : Nat) (hs hy : Nat → Nat) (aw ay : Option Addr) (S : Sd) (w : World) (x : ShX Gs w b hb ch hs aw cw S) (y : SyX Gy w d hd cd hy ay cy S) (inv : Inv K M S) (hM : M ≤ 1900000) :
    Calls Tryz.prog 9 #[.pointer (some ⟨b, 0, none⟩), .pointer (some ⟨d, 0, none⟩)] w fun e w' => e = .returned (.bool true) ∧ Kept Nil w w' := by
  have HX : Hid (ShX Gs w b hb ch hs aw cw S) := x
  have HY : Hid (SyX Gy w d hd cd hy ay cy S) := y
  have HIn : Hid (Inv K M S) := inv
  have hn9 := inv.n1.2
  obtain ⟨n, HN⟩ : ∃ n, Hid (n = S.n) := ⟨_, rfl⟩
  rw [← HN.out] at hn9
  clear x y inv
  go_enter Tryz.func9, Tryz.ntmps9
  go_wp2
  go_loopw [5] (fun u wr => ∃ k : Nat, k ≤ n + 2 ∧ u = .int .i64 k ∧ Hid (Kept Nil w wr)) (fun u _ => n + 2 - (intOf u).toNat)
  case atStart => exact ⟨0, Nat.zero_le _, rfl, Kept.refl _ _⟩
  case round =>
    obtain ⟨k, hk, rfl, HK⟩ := hrel
    rename World => wo
    have HXo : Hid (ShX Gs wo b hb ch hs aw cw S) := HX.out.kept HK.out
    have HYo : Hid (SyX Gy wo d hd cd hy ay cy S) := HY.out.kept HK.out
    have s0 : wo.cell? ⟨d, 0, none⟩ = some (.slice (some ⟨hd, 0, none⟩) n cd) := by rw [HN.out]; exact blk_at HYo.out.blk 0 rfl
    have hdl : d < wo.heap.size := lt_of_block HYo.out.blk
    have hwn : IntKind.i64.wrap ((n : Int) + 1) = (n : Int) + 1 := IntWalk.i64_in _ (by omega)
    by_cases hlt : k < n + 2
    · have hli : (k : Int) ≤ (n : Int) + 1 := by omega
      by_cases hin : 1 ≤ k ∧ k ≤ n
      · obtain ⟨i, rfl⟩ : ∃ i, k = i + 1 := ⟨k - 1, by omega⟩
        have hi : i < n := by omega
        have hiS : i < S.n := by rw [← HN.out]; exact hi
        have g1 : (1 : Int) ≤ (i : Int) + 1 := by omega
        have g2 : (i : Int) + 1 ≤ (n : Int) := by omega
        have g3 : decide ((1 : Int) ≤ (i : Int) + 1) = true := decide_eq_true g1
        have g4 : decide ((i : Int) + 1 ≤ (n : Int)) = true := decide_eq_true g2
        have hwk : IntKind.i64.wrap ((i : Int) + 1 - 1) = (i : Int) := by rw [IntKind.wrap_i64]; omega
        have hii : (i : Int) < (n : Int) := by omega
        have LY := look_yes K M i Gs b hb ch cw hs aw S ((i + 1 : Nat) : Int) wo HXo.out HIn.out hM rfl hiS
        have HOK : Hid (OkH K M (S.ho i)) := HIn.out.ho i hiS
        obtain ⟨rb, ry, cry, ai, ci, gk, ck, y⟩ := HYo.out.ho i hiS
        obtain ⟨h, Hh⟩ : ∃ h, Hid (h = S.ho i) := ⟨_, rfl⟩
        rw [← Hh.out] at LY HOK y
        have HYH : Hid (HyX (Gy i) wo (hy i) rb (i + 1 : Nat) ry cry ai ci gk ck h) := y
        obtain ⟨v1, v2, v3⟩ := vb_facts HOK.out.kv
        have hkl := HOK.out.kl
        have hil : h.it.length ≤ M := Nat.le_trans HOK.out.len HIn.out.kl
        have hkb : (h.kb.length : Int) ≤ 4611686018427387903 := by omega
        have HV3 : Hid (FitB h.kb ∧ (h.kb.length : Int) ≤ 4611686018427387903) := ⟨v3, hkb⟩
        clear y v1 v2 v3
        go_wp2_with fail
        go_fit LY
        rintro e w5 ⟨a1, c1, a2, c2, rfl, o1, o2, k5⟩
        have HK5 : Hid (Kept Nil wo w5) := k5
        have HY5 : Hid (SyX Gy w5 d hd cd hy ay cy S) := HYo.out.kept k5
        have HH5 : Hid (HyX (Gy i) w5 (hy i) rb (i + 1 : Nat) ry cry ai ci gk ck h) := HYH.out.kept k5
        have HF1 : Hid (From wo.heap.size w5 75 a1 h.it.length 0 (itCells h.it)) := From.start o1
        have HF2 : Hid (From wo.heap.size w5 62 a2 h.kb.length 0 (bdCells h.kb)) := From.start o2
        have SB := sameB_yes w5.heap.size w5.heap.size c2 ck a2 (some ⟨gk, 0, none⟩) h.kb w5 (o2.row HV3.out.1) (HH5.out.bounds HV3.out.1) HV3.out.2
        have t0 : w5.cell? ⟨d, 0, none⟩ = some (.slice (some ⟨hd, 0, none⟩) n cd) := by rw [HN.out]; exact blk_at HY5.out.blk 0 rfl
        have t1 : w5.cell? ⟨hd, i, none⟩ = some (.pointer (some ⟨hy i, 0, none⟩)) := HY5.out.at hiS
        have t2 : w5.cell? ⟨hy i, 2, none⟩ = some (.slice (some ⟨gk, 0, none⟩) h.kb.length ck) := blk_at HH5.out.ho 2 rfl
        have l0 : d < w5.heap.size := lt_of_block HY5.out.blk
        have l1 : hd < w5.heap.size := World.block_lt_of_cell? w5 _ t1
        have l2 : hy i < w5.heap.size := lt_of_block HH5.out.ho
        clear LY o1 o2 k5 s0 hdl
        go_wp2_with fail
        go_fit SB
        rintro e w6 ⟨rfl, k6⟩
        have HK6 : Hid (Kept Nil wo w6) := HK5.out.trans k6
        have HH6 : Hid (HyX (Gy i) w6 (hy i) rb (i + 1 : Nat) ry cry ai ci gk ck h) := HH5.out.kept k6
        have HG1 : Hid (From wo.heap.size w6 75 a1 h.it.length 0 (itCells h.it)) := HF1.out.kept k6
        have HG2 : Hid (From wo.heap.size w6 62 a2 h.kb.length 0 (bdCells h.kb)) := HF2.out.kept k6
        have t3 : w6.cell? ⟨hy i, 1, none⟩ = some (.slice ai h.it.length ci) := blk_at HH6.out.ho 1 rfl
        have l3 : hy i < w6.heap.size := lt_of_block HH6.out.ho
        clear SB k6 t0 t1 t2 l0 l1 l2
        go_wp2
        go_loopw [11] (fun u wr => ∃ j : Nat, j ≤ h.it.length ∧ u = .int .i64 j ∧ Hid (Kept Nil wo wr) ∧ Hid (From wo.heap.size wr 75 a1 h.it.length j (itCells h.it)) ∧ Hid (From wo.heap.size wr 62 a2 h.kb.length 0 (bdCells h.kb))) (fun u _ => h.it.length - (intOf u).toNat)
        case atStart => exact ⟨0, Nat.zero_le _, rfl, HK6.out, HG1.out, HG2.out⟩
        case round =>
          obtain ⟨j, hj, rfl, HKj, HJ1, HJ2⟩ := hrel
          clear t3 l3
          by_cases hjl : j < h.it.length
          · have hji : (j : Int) < (h.it.length : Int) := by omega
            have HHj : Hid (HyX (Gy i) wr (hy i) rb (i + 1 : Nat) ry cry ai ci gk ck h) := HYH.out.kept HKj.out
            have q1 : wr.cell? ⟨hy i, 1, none⟩ = some (.slice ai h.it.length ci) := blk_at HHj.out.ho 1 rfl
            have hhl : hy i < wr.heap.size := lt_of_block HHj.out.ho
            obtain ⟨gi, egi, _, hgl, x0, x1, _, _⟩ := OwnIt.cells HHj.out.it hjl
            obtain ⟨e0, e1⟩ := itCells_at h.it j hjl
            obtain ⟨g, eg, hB, d0, d1, f0, f1, hgw⟩ := HJ1.out.cells hjl e0 e1
            subst eg
            have HTY := HJ1.out.typed hjl
            have HTYH : Hid (∃ cs, wr.heap[g]? = some (.cells cs 75 (0, 0))) := HTY
            have HBg : Hid (wo.heap.size ≤ g) := hB
            rw [egi] at q1
            clear e0 e1 HTY hB
            generalize h.it[j] = z at *
            go_upto_region 15 with fail
            go_quiet (fail)
            rename Nat => nq
            obtain ⟨V, hV⟩ : ∃ X0, X0 = wr.drewN nq := ⟨_, rfl⟩
            have KV : Hid (Kept Nil wr V) := by rw [hV]; exact (Kept.refl _ _).drewN _
            rw [← hV]
            have k0 := cell_kept KV.out (fun _ e => e) d0
            have k1 := cell_kept KV.out (fun _ e => e) d1
            have HTV : Hid (∃ cs, V.heap[g]? = some (.cells cs 75 (0, 0))) := by obtain ⟨cs, hc⟩ := HTYH.out; exact ⟨cs, KV.out.block _ _ hc (fun e => e)⟩
            have m0 : V.frozen? ⟨g, j * 2, none⟩ = false := by obtain ⟨cs, hc⟩ := HTV.out; exact blk_free hc _
            have m1 : V.frozen? ⟨g, j * 2 + 1, none⟩ = false := by obtain ⟨cs, hc⟩ := HTV.out; exact blk_free hc _
            have hgV : g < V.heap.size := by obtain ⟨cs, hc⟩ := HTV.out; exact lt_of_block hc
            clear hV d0 d1 f0 f1 x0 x1 q1 hhl hgw hgl
            go_wp2
            go_roundw
            case rel =>
              have hno : ∀ X : World, ∀ o, wo.heap[g]? = some o → Nil g o := fun _ o ho => by have := lt_of_block ho; have := HBg.out; omega
              refine ⟨j + 1, by omega, by congr 1, (((HKj.out.trans KV.out).setT (hno V) _ _).setT (hno V) _ _), (HJ1.out.kept KV.out).next _ _, ((HJ2.out.kept KV.out).other HTV.out (by decide) _ _).other (t' := 75) ?_ (by decide) _ _⟩
              obtain ⟨cs, hc⟩ := HTV.out
              exact ⟨_, blk_set hc _ _⟩
            case measure => simp [intOf]; omega
          · obtain rfl : j = h.it.length := by omega
            go_wp2
            go_loopw [12] (fun u wq => ∃ j : Nat, j ≤ h.kb.length ∧ u = .int .i64 j ∧ Hid (Kept Nil wo wq) ∧ Hid (From wo.heap.size wq 62 a2 h.kb.length j (bdCells h.kb))) (fun u _ => h.kb.length - (intOf u).toNat)
            case atStart => exact ⟨0, Nat.zero_le _, rfl, HKj.out, HJ2.out⟩
            case round =>
              obtain ⟨j, hj2, rfl, HKq, HJq⟩ := hrel
              by_cases hjl : j < h.kb.length
              · have hji : (j : Int) < (h.kb.length : Int) := by omega
                obtain ⟨e0, e1⟩ := bdCells_at h.kb j hjl
                rename World => wq
                obtain ⟨g, eg, hB, d0, d1, f0, f1, hgw⟩ := HJq.out.cells hjl e0 e1
                subst eg
                have HBg : Hid (wo.heap.size ≤ g) := hB
                clear e0 e1 hB
                go_wp2
                go_roundw
                case rel =>
                  have hno : ∀ o, wo.heap[g]? = some o → Nil g o := fun o ho => by have := lt_of_block ho; have := HBg.out; omega
                  exact ⟨j + 1, by omega, by congr 1, ((HKq.out.setT hno _ _).setT hno _ _), HJq.out.next _ _⟩
                case measure => simp [intOf]; omega
              · obtain rfl : j = h.kb.length := by omega
                have HKE : Hid (Kept Nil w _) := HK.out.trans HKq.out
                go_wp2
                go_roundw
                case rel => exact ⟨i + 1 + 1, by omega, by congr 1, HKE.out⟩
                case measure => simp [intOf]; omega
      · have LN := look_no S.n b hb ch _ ((k : Nat) : Int) wo HXo.out.blk (by
          cases e : isHo S.n ((k : Nat) : Int) with
          | false => rfl
          | true => have := isHo_iff.1 e; rw [← HN.out] at this; exact absurd ⟨by omega, by omega⟩ hin)
        go_wp2_with fail
        go_fit LN
        rintro e w5 ⟨rfl, rfl⟩
        clear LN
        by_cases h1 : (1 : Int) ≤ (k : Int)
        · have h2 : ¬ (k : Int) ≤ (n : Int) := by omega
          go_wp2
          go_roundw
          case rel => exact ⟨k + 1, by omega, by congr 1, HK.out⟩
          case measure => simp [intOf]; omega
        · go_wp2
          go_roundw
          case rel => exact ⟨k + 1, by omega, by congr 1, HK.out⟩
          case measure => simp [intOf]; omega
    · obtain rfl : k = n + 2 := by omega
      have hli : ¬ ((n + 2 : Nat) : Int) ≤ (n : Int) + 1 := by omega
      have hli2 : ¬ (n : Int) + 2 ≤ (n : Int) + 1 := by omega
      have WA : Calls Tryz.prog 28 #[.pointer (some ⟨b, 0, none⟩)] wo.drew fun e w' => e = .returned (.int .i64 S.wy.length) ∧ Kept Nil wo.drew w' := by
        have h9 := way_any S.n b hb ch S.wy.length cw aw wo.drew HXo.out.blk
        refine h9.mono ?_
        rintro e w' ⟨rfl, rfl⟩
        exact ⟨rfl, Kept.refl _ _⟩
      have t1 : wo.cell? ⟨d, 1, none⟩ = some (.slice ay S.wy.length cy) := blk_at HYo.out.blk 1 rfl
      go_upto_region 22 with fail
      go_region_with (go_at_call 28; go_must (go_fit WA); rintro e w5 ⟨rfl, k5⟩; have HK5 : Hid (Kept Nil wo w5) := ((Kept.refl _ _).drew.trans k5); have t5 : w5.cell? ⟨d, 1, none⟩ = some (.slice ay S.wy.length cy) := cell_kept HK5.out (fun _ e => e) t1; have hd5 : d < w5.heap.size := World.block_lt_of_cell? w5 _ t5; clear k5)
      all_goals
        go_wp2
        go_ret
        exact ⟨by first | rfl | (simp; done) | (congr 2; simp), HK.out.trans (HK5.out.trans (by first | exact (Kept.refl _ _).drewN _ | exact Kept.refl _ _))⟩
end Go.Proofs.YtpfgnhockfofhaaGreat

/-
  The document's shards: a step that carries; a step of no host.
-/
namespace Go.Proofs.YtpfgnhockfofhaaGreat
open Go.RowKit

set_option maxRecDepth 100000 in
set_option maxHeartbeats 8000000 in
theorem dy_carry (K : List (List UInt8)) (M : Nat) (Gs : Nat → Nat → Prop) (b hb ch cw : Nat) (hs : Nat → Nat) (aw : Option Addr) (S T : Sd) (kd hh ot nn : Int) (ky up vl : List UInt8) (w : World) (x : SyX Gs w b hb ch hs aw cw S) (inv : Inv K M S) (hM : M ≤ 1900000) (hk : 6 ≤ kd) (hT : T = carryS kd nn S) :
    Calls Tryz.prog 7 #[.pointer (some ⟨b, 0, none⟩), .agg #[.int .i64 kd, .int .i64 hh, .int .i64 ot, .int .i64 nn, .string (bs ky), .string (bs up), .string (bs vl)]] w fun e w' => e = .returned (.agg (anC an0)) ∧ SyPost Gs w b hb ch hs T w' := by
  have HIn : Hid (Inv K M S) := inv
  have HX : Hid (SyX Gs w b hb ch hs aw cw S) := x
  obtain ⟨W, hW⟩ : ∃ W, W = (w.alloc (.cells #[.int .i64 kd, .int .i64 hh, .int .i64 ot, .int .i64 nn, .string (bs ky), .string (bs up), .string (bs vl)] 34)).alloc (.cells #[.int .i64 0, .int .i64 0, .int .i64 0, .string ⟨#[]⟩, .int .i64 0, .slice none 0 0] 31) := ⟨_, rfl⟩
  obtain ⟨A, HA⟩ : ∃ A : Nat, Hid (A = w.heap.size) := ⟨_, rfl⟩
  obtain ⟨R, HR⟩ : ∃ R : Nat, Hid (R = w.heap.size + 1) := ⟨_, rfl⟩
  have KW : Hid (Kept Nil w W) := by rw [hW]; exact ((Kept.refl _ _).alloc _).alloc _
  have HAW : Hid (W.heap[A]? = some (.cells #[.int .i64 kd, .int .i64 hh, .int .i64 ot, .int .i64 nn, .string (bs ky), .string (bs up), .string (bs vl)] 34 (0, 0))) := by rw [hW, HA.out]; exact blk_past (blk_new _ _) _
  have HRW : Hid (W.heap[R]? = some (.cells #[.int .i64 0, .int .i64 0, .int .i64 0, .string ⟨#[]⟩, .int .i64 0, .slice none 0 0] 31 (0, 0))) := by rw [hW, HR.out]; exact blk_new1 w _ _
  have HRB : Hid (w.heap.size ≤ R ∧ R < W.heap.size) := ⟨by rw [HR.out]; omega, lt_of_block HRW.out⟩
  have HXW : Hid (SyX Gs W b hb ch hs aw cw S) := x.kept KW.out
  have p0 : W.cell? ⟨A, 0, none⟩ = some (.int .i64 kd) := blk_at HAW.out 0 rfl
  have p1 : W.cell? ⟨A, 1, none⟩ = some (.int .i64 hh) := blk_at HAW.out 1 rfl
  have s0 : W.cell? ⟨b, 0, none⟩ = some (.slice (some ⟨hb, 0, none⟩) S.n ch) := blk_at HXW.out.blk 0 rfl
  have hbW : b < W.heap.size := lt_of_block HXW.out.blk
  have hAW : A < W.heap.size := lt_of_block HAW.out
  have CA := move_any K M Gs b hb ch cw hs aw S kd hh ot nn ky up vl W HXW.out HIn.out hM hk
  rw [← hT] at CA
  have hk1 : decide (kd ≥ 6) = true := decide_eq_true hk
  clear hT
  clear x inv
  go_enter Tryz.func7, Tryz.ntmps7
  go_upto_region 1 with fail
  rw [← hW, ← HR.out, ← HA.out]
  clear hW
  go_wp2_with ((with_reducible refine atLoad 34 ?_); go_must (refine wpList_loadW rfl _ _ rfl _ rfl _ _ _ HAW.out Tryz.underlying34 rfl Tryz.sizeSt rfl ?_))
  go_fit CA
  rintro e w6 ⟨rfl, y6⟩
  have HY : Hid (SyPost Gs W b hb ch hs T w6) := y6
  have HR6 : Hid (w6.heap[R]? = some (.cells #[.int .i64 0, .int .i64 0, .int .i64 0, .string ⟨#[]⟩, .int .i64 0, .slice none 0 0] 31 (0, 0))) := HY.out.own HX.out.lt HRB.out.1 HRW.out
  clear CA y6 p0 p1 s0
  go_wp2_with ((with_reducible refine atStore 31 ?_); go_must (refine wpList_storeW rfl _ _ _ rfl _ (anC an0) _ _ rfl rfl HR6.out rfl Tryz.sizeAn rfl (anC_one _) ?_); intro w9 hb9 hk9 hs9)
  refine bodyPost_ret (results_cellW rfl rfl hb9 Tryz.underlying31 rfl Tryz.sizeAn rfl) rfl ⟨rfl, ?_⟩
  exact SyPost.done HX.out.lt KW.out HRB.out.1 HRB.out.2 HY.out hk9
set_option maxRecDepth 100000 in
set_option maxHeartbeats 8000000 in
theorem dy_nohost (K : List (List UInt8)) (M : Nat) (Gs : Nat → Nat → Prop) (b hb ch cw : Nat) (hs : Nat → Nat) (aw : Option Addr) (S T : Sd) (kd hh ot nn : Int) (ky up vl : List UInt8) (w : World) (x : SyX Gs w b hb ch hs aw cw S) (inv : Inv K M S) (hk : ¬ 6 ≤ kd) (hh0 : isHo S.n hh = false) (hT : T = S) :
    Calls Tryz.prog 7 #[.pointer (some ⟨b, 0, none⟩), .agg #[.int .i64 kd, .int .i64 hh, .int .i64 ot, .int .i64 nn, .string (bs ky), .string (bs up), .string (bs vl)]] w fun e w' => e = .returned (.agg (anC (anE 17))) ∧ SyPost Gs w b hb ch hs T w' := by
  have HIn : Hid (Inv K M S) := inv
  have HX : Hid (SyX Gs w b hb ch hs aw cw S) := x
  obtain ⟨W, hW⟩ : ∃ W, W = (w.alloc (.cells #[.int .i64 kd, .int .i64 hh, .int .i64 ot, .int .i64 nn, .string (bs ky), .string (bs up), .string (bs vl)] 34)).alloc (.cells #[.int .i64 0, .int .i64 0, .int .i64 0, .string ⟨#[]⟩, .int .i64 0, .slice none 0 0] 31) := ⟨_, rfl⟩
  obtain ⟨A, HA⟩ : ∃ A : Nat, Hid (A = w.heap.size) := ⟨_, rfl⟩
  obtain ⟨R, HR⟩ : ∃ R : Nat, Hid (R = w.heap.size + 1) := ⟨_, rfl⟩
  have KW : Hid (Kept Nil w W) := by rw [hW]; exact ((Kept.refl _ _).alloc _).alloc _
  have HAW : Hid (W.heap[A]? = some (.cells #[.int .i64 kd, .int .i64 hh, .int .i64 ot, .int .i64 nn, .string (bs ky), .string (bs up), .string (bs vl)] 34 (0, 0))) := by rw [hW, HA.out]; exact blk_past (blk_new _ _) _
  have HRW : Hid (W.heap[R]? = some (.cells #[.int .i64 0, .int .i64 0, .int .i64 0, .string ⟨#[]⟩, .int .i64 0, .slice none 0 0] 31 (0, 0))) := by rw [hW, HR.out]; exact blk_new1 w _ _
  have HRB : Hid (w.heap.size ≤ R ∧ R < W.heap.size) := ⟨by rw [HR.out]; omega, lt_of_block HRW.out⟩
  have HXW : Hid (SyX Gs W b hb ch hs aw cw S) := x.kept KW.out
  have p0 : W.cell? ⟨A, 0, none⟩ = some (.int .i64 kd) := blk_at HAW.out 0 rfl
  have p1 : W.cell? ⟨A, 1, none⟩ = some (.int .i64 hh) := blk_at HAW.out 1 rfl
  have s0 : W.cell? ⟨b, 0, none⟩ = some (.slice (some ⟨hb, 0, none⟩) S.n ch) := blk_at HXW.out.blk 0 rfl
  have hbW : b < W.heap.size := lt_of_block HXW.out.blk
  have hAW : A < W.heap.size := lt_of_block HAW.out
  rw [hT]
  have hk1 : decide (kd ≥ 6) = false := decide_eq_false hk
  clear hT
  clear x inv
  go_enter Tryz.func7, Tryz.ntmps7
  go_upto_region 1 with fail
  rw [← hW, ← HR.out, ← HA.out]
  clear hW
  rcases host_no hh0 with h1 | ⟨h1, h2⟩
  · have f1 : decide (hh < 1) = true := decide_eq_true h1
    go_upto_region 4 with fail
    clear h1 hh0
    go_quiet (fail)
    rename Nat => nq1
    obtain ⟨U, hU⟩ : ∃ X0, X0 = W.drewN nq1 := ⟨_, rfl⟩
    have KU : Hid (Kept Nil W U) := by rw [hU]; exact (Kept.refl _ _).drewN _
    rw [← hU]
    clear hU
    have HRU : Hid (U.heap[R]? = some (.cells #[.int .i64 0, .int .i64 0, .int .i64 0, .string ⟨#[]⟩, .int .i64 0, .slice none 0 0] 31 (0, 0))) := KU.out.block _ _ HRW.out (fun e => e)
    have HAU : Hid (U.heap[A]? = _) := KU.out.block _ _ HAW.out (fun e => e)
    have HXU : Hid (SyX Gs U b hb ch hs aw cw S) := HXW.out.kept KU.out
    have HRBU : Hid (w.heap.size ≤ R ∧ R < U.heap.size) := ⟨HRB.out.1, lt_of_block HRU.out⟩
    have HKU : Hid (Kept Nil w U) := KW.out.trans KU.out
    clear s0 hbW hAW p0 p1
    go_wp2_with ((with_reducible refine atStore 31 ?_); go_must (refine wpList_storeW rfl _ _ _ rfl _ (anC (anE 17)) _ _ rfl rfl HRU.out rfl Tryz.sizeAn rfl (anC_one _) ?_); intro w9 hb9 hk9 hs9)
    refine bodyPost_ret (results_cellW rfl rfl hb9 Tryz.underlying31 rfl Tryz.sizeAn rfl) rfl ⟨rfl, ?_⟩
    exact SyPost.done HX.out.lt HKU.out HRBU.out.1 HRBU.out.2 (SyPost.same HXU.out (Kept.refl _ _)) hk9
  · have f1 : decide (hh < 1) = false := decide_eq_false h1
    have f2 : decide (hh > (S.n : Int)) = true := decide_eq_true h2
    have f3 : decide ((S.n : Int) < hh) = true := decide_eq_true h2
    go_upto_region 4 with fail
    clear h1 h2 hh0
    go_quiet (fail)
    rename Nat => nq1
    obtain ⟨U, hU⟩ : ∃ X0, X0 = W.drewN nq1 := ⟨_, rfl⟩
    have KU : Hid (Kept Nil W U) := by rw [hU]; exact (Kept.refl _ _).drewN _
    rw [← hU]
    clear hU
    have HRU : Hid (U.heap[R]? = some (.cells #[.int .i64 0, .int .i64 0, .int .i64 0, .string ⟨#[]⟩, .int .i64 0, .slice none 0 0] 31 (0, 0))) := KU.out.block _ _ HRW.out (fun e => e)
    have HAU : Hid (U.heap[A]? = _) := KU.out.block _ _ HAW.out (fun e => e)
    have HXU : Hid (SyX Gs U b hb ch hs aw cw S) := HXW.out.kept KU.out
    have HRBU : Hid (w.heap.size ≤ R ∧ R < U.heap.size) := ⟨HRB.out.1, lt_of_block HRU.out⟩
    have HKU : Hid (Kept Nil w U) := KW.out.trans KU.out
    clear s0 hbW hAW p0 p1
    go_wp2_with ((with_reducible refine atStore 31 ?_); go_must (refine wpList_storeW rfl _ _ _ rfl _ (anC (anE 17)) _ _ rfl rfl HRU.out rfl Tryz.sizeAn rfl (anC_one _) ?_); intro w9 hb9 hk9 hs9)
    refine bodyPost_ret (results_cellW rfl rfl hb9 Tryz.underlying31 rfl Tryz.sizeAn rfl) rfl ⟨rfl, ?_⟩
    exact SyPost.done HX.out.lt HKU.out HRBU.out.1 HRBU.out.2 (SyPost.same HXU.out (Kept.refl _ _)) hk9
end Go.Proofs.YtpfgnhockfofhaaGreat
