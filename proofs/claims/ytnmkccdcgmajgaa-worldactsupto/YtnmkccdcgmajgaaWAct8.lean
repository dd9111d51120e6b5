/-
  WorldActs, walked.
-/
import Derived.Test.YtnmkccdcgmajgaaWAct7
import Derived.Test.YtnmkccdcgmajgaaWAct5a
import Derived.Test.YtnmkccdcgmajgaaWAct5b
import Derived.Test.YtnmkccdcgmajgaaWAct5c
import Derived.Test.YtnmkccdcgmajgaaWAct5d
import Derived.Test.YtnmkccdcgmajgaaWAct5e
import Derived.Test.YtnmkccdcgmajgaaWAct5f
import Derived.Deep.LoopGhost
namespace Go.Proofs.Ytnmkccdcgmajgaa
open Go.RowKit

theorem act_any (B c : Nat) (ao : Option Addr) (fs : List Fi) (what : Int) (nm tn dt : List UInt8) (sz : Int) (w : World) (h : OwnFs B w ao c fs) (hl : (fs.length : Int) ≤ 1099511627775) (hdl : ∀ f ∈ fs, f.2.length ≤ 1099511627776) (hdt : dt.length ≤ 1099511627776) (hnm : nm.length ≤ maxLen) (htn : tn.length ≤ maxLen) :
    Calls Try.prog 51 #[.slice ao fs.length c, .agg #[.int .i64 what, .string (bs nm), .string (bs tn), .string (bs dt), .int .i64 sz]] w fun e w' => ∃ ao' c', e = .returned (.slice ao' (actZ fs what nm tn dt sz).length c') ∧ OwnFs w.heap.size w' ao' c' (actZ fs what nm tn dt sz) ∧ Kept Nil w w' := by
  by_cases h1 : what = 1
  · subst h1; exact act_write B c ao fs nm tn dt sz w h hl
  by_cases h2 : what = 2
  · subst h2; exact act_append B c ao fs nm tn dt sz w h hl hdl hdt
  by_cases h6 : what = 6
  · subst h6; exact act_cut B c ao fs nm tn dt sz w h hl hdl
  by_cases h4 : what = 4
  · subst h4; exact act_rename B c ao fs nm tn dt sz w h hl hnm htn
  by_cases h7 : what = 7
  · subst h7; exact act_remove B c ao fs nm tn dt sz w h hl hnm
  exact act_other B c ao fs what nm tn dt sz w h hl h1 h2 h6 h4 h7

structure Ac where
  what : Int
  nm : List UInt8
  tn : List UInt8
  dt : List UInt8
  sz : Int
/-- A row of acts, wherever it lies. -/
def AcRow (B : Nat) (w : World) (ao : Option Addr) (xs : List Ac) : Prop := ∀ j, (hj : j < xs.length) → ∃ a, ao = some a ∧ a.block < B ∧ w.cell? (a.add (j * 5)) = some (.int .i64 xs[j].what) ∧ w.cell? ⟨(a.add (j * 5)).block, (a.add (j * 5)).off + 1, none⟩ = some (.string (bs xs[j].nm)) ∧ w.cell? ⟨(a.add (j * 5)).block, (a.add (j * 5)).off + 2, none⟩ = some (.string (bs xs[j].tn)) ∧ w.cell? ⟨(a.add (j * 5)).block, (a.add (j * 5)).off + 3, none⟩ = some (.string (bs xs[j].dt)) ∧ w.cell? ⟨(a.add (j * 5)).block, (a.add (j * 5)).off + 4, none⟩ = some (.int .i64 xs[j].sz)
theorem AcRow.nil {B : Nat} {w w' : World} {ao : Option Addr} {xs : List Ac} (h : AcRow B w ao xs) (hk : Kept Nil w w') : AcRow B w' ao xs := fun j hj => by
  obtain ⟨a, h0, h1, h2, h3, h4, h5, h6⟩ := h j hj
  exact ⟨a, h0, h1, cell_kept hk (fun _ x => x) h2, cell_kept hk (fun _ x => x) h3, cell_kept hk (fun _ x => x) h4, cell_kept hk (fun _ x => x) h5, cell_kept hk (fun _ x => x) h6⟩
theorem kept_ofGrownF {w w' : World} {ao : Option Addr} {n c : Nat} (hg : w.grownBy w' (Value.slice ao n c).ownBlock) : Kept (Blk ao) w w' :=
  ⟨hg.os, hg.tape, hg.output, hg.size, fun k o ho hx => by
    rw [hg.block k (lt_of_block ho) (fun e => hx (by
      cases ao with
      | none => simp [Value.ownBlock] at e
      | some a => simp [Value.ownBlock] at e; exact ⟨a, rfl, e.symm⟩))]
    exact ho⟩
theorem own_blkF {X : Nat → Obj → Prop} {B c : Nat} {w w' : World} {ao : Option Addr} {fs : List Fi} (h : OwnFs B w ao c fs) (hk : Kept X w w') (hX : ∀ k o, B ≤ k → ¬ X k o) : OwnFs B w' ao c fs := own_kept h hk (fun k _ hb => hX k _ hb)

set_option maxRecDepth 100000 in
set_option maxHeartbeats 16000000 in
theorem worldActs_walk (B c : Nat) (ro : Option Addr) (xs : List Ac) (w : World) (h : AcRow B w ro xs) (hl : xs.length ≤ 1048576) (hs : ∀ a ∈ xs, a.nm.length ≤ 1048576 ∧ a.tn.length ≤ 1048576 ∧ a.dt.length ≤ 1048576) :
    Calls Try.prog 9 #[.slice ro xs.length c] w fun e w' => e = .returned (.bool true) ∧ Kept Nil w w' := by
  obtain ⟨i0, hi, hz0, hz1, hz2⟩ := info_parts Try.infoFi
  have HR : Hid (AcRow B w ro xs) := h
  have HS : Hid (∀ a ∈ xs, a.nm.length ≤ 1048576 ∧ a.tn.length ≤ 1048576 ∧ a.dt.length ≤ 1048576) := hs
  clear h hs
  have A0 : Calls Try.prog 51 #[.slice none 0 0, .agg #[.int .i64 1, .string ⟨#[97]⟩, .string ⟨#[]⟩, .string ⟨#[98, 99]⟩, .int .i64 0]] w fun e w' => ∃ ao' c', e = .returned (.slice ao' 1 c') ∧ OwnFs w.heap.size w' ao' c' [([97], [98, 99])] ∧ Kept Nil w w' := act_any 0 0 none [] 1 [97] [] [98, 99] 0 w (World.ownsRow_nil _ _ _ _) (by decide) (fun f hf => by cases hf) (by decide) (by decide) (by decide)
  go_enter Try.func9, Try.ntmps9
  go_wp2_with fail
  go_fit A0
  rintro e w1 ⟨a1, c1, rfl, o1, k1⟩
  have K1 : Hid (Kept Nil w w1) := k1
  obtain ⟨g1, rfl, _, _, hcs⟩ := o1.cells (by decide)
  obtain ⟨d0, d1, _, _⟩ := hcs 0 (by decide)
  have c0 : w1.cell? ⟨g1, 0, none⟩ = some (.string ⟨#[97]⟩) := d0
  have c1' : w1.cell? ⟨g1, 1, none⟩ = some (.string ⟨#[98, 99]⟩) := d1
  clear o1 k1 hcs d0 d1 A0
  go_wp2
  go_loopw [4, 5, 6] (fun x y i wr => ∃ k : Nat, ∃ fs : List Fi, ∃ xo xc yo yc, k ≤ xs.length ∧ x = .slice xo fs.length xc ∧ y = .slice yo fs.length yc ∧ i = .int .i64 k ∧ Hid (FOk fs k (k * 1048576)) ∧ Hid (OwnFs 0 wr xo xc fs) ∧ Hid (OwnFs 0 wr yo yc fs) ∧ Hid (Kept Nil w wr)) (fun _ _ i _ => xs.length - (intOf i).toNat)
  case atStart => exact ⟨0, [], none, 0, none, 0, Nat.zero_le _, rfl, rfl, rfl, fok_nil, World.ownsRow_nil _ _ _ _, World.ownsRow_nil _ _ _ _, K1.out⟩
  case round =>
    obtain ⟨k, fs, xo, xc, yo, yc, hk, rfl, rfl, rfl, HF, HX, HY, HK⟩ := hrel
    obtain ⟨wo, rfl⟩ : ∃ x : World, x = wr := ⟨_, rfl⟩
    clear c0 c1' K1
    have hfl : fs.length ≤ 1048576 := Nat.le_trans HF.out.len (by omega)
    by_cases hlt : k < xs.length
    · have hki : (k : Int) < xs.length := by omega
      obtain ⟨ac, HA⟩ : ∃ y : Ac, Hid (y = xs[k]) := ⟨xs[k], (rfl : xs[k] = xs[k])⟩
      have HAS : Hid (ac.nm.length ≤ 1048576 ∧ ac.tn.length ≤ 1048576 ∧ ac.dt.length ≤ 1048576) := by have := HS.out xs[k] (List.getElem_mem hlt); rw [← HA.out] at this; exact this
      have HDL : Hid (∀ f ∈ fs, f.2.length ≤ 1099511627776) := fun f hf => Nat.le_trans (HF.out.dat f hf) (by omega)
      have hmx : ∀ n : Nat, n ≤ 1048576 → n ≤ maxLen := fun n hn => by unfold maxLen; omega
      have HML : Hid (ac.nm.length ≤ maxLen ∧ ac.tn.length ≤ maxLen ∧ ac.dt.length ≤ 1099511627776) := ⟨hmx _ HAS.out.1, hmx _ HAS.out.2.1, by have := HAS.out.2.2; omega⟩
      clear hmx
      have FO := filesOf_any wo.heap.size xc xo fs wo HX.out.row (by omega)
      go_wp2_with fail
      go_fit FO
      rintro e w2 ⟨io, ic, rfl, o2, k2⟩
      have HI2 : Hid (OwnFs wo.heap.size w2 io ic fs) := o2
      have K2 : Hid (Kept Nil wo w2) := k2
      clear o2 k2 FO
      obtain ⟨a, rfl, _, b0, b1, b2, b3, b4⟩ := (HR.out.nil (HK.out.trans K2.out)) k hlt
      rw [← HA.out] at b0 b1 b2 b3 b4
      have AA := act_any wo.heap.size ic io fs ac.what ac.nm ac.tn ac.dt ac.sz w2 HI2.out (by omega) HDL.out HML.out.2.2 HML.out.1 HML.out.2.1
      obtain ⟨zs, HZ⟩ : ∃ l : List Fi, Hid (l = actZ fs ac.what ac.nm ac.tn ac.dt ac.sz) := ⟨_, rfl⟩
      have HFZ : Hid (FOk zs (k + 1) ((k + 1) * 1048576)) := by
        show FOk zs _ _
        rw [HZ.out]
        exact (actZ_ok HF.out ac.what ac.nm ac.tn ac.dt ac.sz).more (Nat.le_refl _) (by have := HAS.out.2.2; omega)
      rw [← HZ.out] at AA
      have hzl : zs.length ≤ 1048577 := Nat.le_trans HFZ.out.len (by omega)
      go_wp2_with fail
      go_fit AA
      rintro e w3 ⟨zo, zc, rfl, o3, k3⟩
      have HZ3 : Hid (OwnFs w2.heap.size w3 zo zc zs) := o3
      have K3 : Hid (Kept Nil w2 w3) := k3
      clear o3 k3 AA b0 b1 b2 b3 b4
      obtain ⟨a', e', _, b0, b1, b2, b3, b4⟩ := (HR.out.nil ((HK.out.trans K2.out).trans K3.out)) k hlt
      simp only [Option.some.injEq] at e'
      subst e'
      rw [← HA.out] at b0 b1 b2 b3 b4
      have RA := refAct_any w3.heap.size yc yo fs ac.what ac.nm ac.tn ac.dt ac.sz w3 (HY.out.kept (K2.out.trans K3.out)).row (by omega) HDL.out HML.out.2.2
      rw [ref_eq HF.out.nod, ← HZ.out] at RA
      go_wp2_with fail
      go_fit RA
      rintro e w4 ⟨vo, vc, rfl, o4, k4⟩
      have HV4 : Hid (OwnFs w3.heap.size w4 vo vc zs) := o4
      have K4 : Hid (Kept Nil w3 w4) := k4
      have HZ4 : Hid (OwnFs w2.heap.size w4 zo zc zs) := HZ3.out.kept k4
      clear o4 k4 RA b0 b1 b2 b3 b4 HZ3
      have SF1 := sameFiles_yes w4.heap.size w4.heap.size zc vc zo vo zs w4 HZ4.out.row HV4.out.row (by omega)
      go_wp2_with fail
      go_fit SF1
      rintro e w5 ⟨rfl, k5⟩
      have K5 : Hid (Kept Nil w4 w5) := k5
      have KI5 : Hid (Kept Nil w2 w5) := (K3.out.trans K4.out).trans k5
      have SF2 := sameFiles_yes w5.heap.size w5.heap.size ic xc io xo fs w5 (HI2.out.kept KI5.out).row (HX.out.kept (K2.out.trans KI5.out)).row (by omega)
      clear k5 SF1
      go_wp2_with fail
      go_fit SF2
      rintro e w6 ⟨rfl, k6⟩
      have KI6 : Hid (Kept Nil w2 w6) := KI5.out.trans k6
      have HI6 : Hid (OwnFs wo.heap.size w6 io ic fs) := HI2.out.kept KI6.out
      have HZ6 : Hid (OwnFs w2.heap.size w6 zo zc zs) := HZ4.out.kept (K5.out.trans k6)
      have HV6 : Hid (OwnFs w3.heap.size w6 vo vc zs) := HV4.out.kept (K5.out.trans k6)
      have HIL : Hid (∀ k o, Blk io k o → k < w2.heap.size) := fun k o hb => blk_lt HI2.out hb
      have HIG : Hid (∀ k o, Blk io k o → wo.heap.size ≤ k) := fun k o hb => Blk.own HI2.out hb
      have H23 : Hid (w2.heap.size ≤ w3.heap.size) := K3.out.size
      have KA6 : Hid (Kept Nil wo w6) := K2.out.trans KI6.out
      clear k6 SF2 K5 KI5 HZ4 HV4 K3 K4 HI2 HX HY
      go_wp2
      go_loopg [12] fs.length (fun g j wr => ∃ q : Nat, ∃ hs : List Fi, q ≤ fs.length ∧ g = fs.length - q ∧ j = .int .i64 q ∧ Hid (hs.length = fs.length) ∧ Hid (OwnFs wo.heap.size wr io ic hs) ∧ Hid (Kept (Blk io) w6 wr)) 
      case atStart => exact ⟨0, fs, Nat.zero_le _, rfl, rfl, rfl, HI6.out, Kept.refl _ _⟩
      case round =>
        obtain ⟨q, hs, hq, rfl, rfl, HL, HO, HKB⟩ := hrel
        by_cases hql : q < fs.length
        · have hqh : q < hs.length := by rw [HL.out]; exact hql
          have hqi : (q : Int) < fs.length := by omega
          obtain ⟨g, rfl, _, _, hcs⟩ := HO.out.cells (by omega)
          obtain ⟨d0, d1, z0, z1⟩ := hcs q hqh
          clear hcs
          have HO2 : Hid _ := HO.out.set2 hqh [111, 118, 101, 114] []
          go_wp2
          go_roundg (fs.length - (q + 1))
          case measure => omega
          case rel => exact ⟨q + 1, hs.set q ([111, 118, 101, 114], []), by omega, rfl, by go_num, (by show _ = _; rw [List.length_set]; exact HL.out), HO2.out, kept_blk (kept_blk HKB.out _) _⟩
        · have HOh : Hid (OwnFs wo.heap.size wr io ic hs) := HO.out
          have ho : wr.ownsRow wo.heap.size 88 2 (.slice io fs.length ic) fs.length (fiCells hs) := by have := HO.out; unfold OwnFs at this; rw [HL.out] at this; exact this
          have HLL : Hid (fs.length + 1 ≤ maxLen ∧ (fs.length + 1) * 32 ≤ 140737488355328) := by constructor <;> (try unfold maxLen) <;> omega
          have HSZ : Hid (wo.heap.size ≤ wr.heap.size) := Nat.le_trans KA6.out.size HKB.out.size
          go_wp2_with (at_builtin; go_must (refine wpList_append_src _ rfl _ _ 83 83 rfl wo.heap.size 88 i0 (.agg #[.string ⟨#[]⟩, .string ⟨#[]⟩]) 2 32 Try.underlying83 hi hz0 hz1 hz2 rfl _ _ _ rfl (World.ownsRow.alloc ho _) (.slice (some ⟨wr.heap.size, 0, none⟩) 1 1) 1 [.string ⟨#[111, 118, 101, 114]⟩, .string ⟨#[]⟩] rfl (src_fi _ _) HLL.out.1 HLL.out.2 (le_alloc HSZ.out _) ?_); intro a7 c7 w7 ho' hg'; have KB7 : Hid (Kept (Blk io) w6 w7) := (HKB.out.alloc _).trans (kept_ofGrownF hg'); clear ho' hg')
          have HZ7 : Hid (OwnFs w2.heap.size w7 zo zc zs) := own_blkF HZ6.out KB7.out (fun k o hb hx => by have := HIL.out k o hx; omega)
          have HV7 : Hid (OwnFs w3.heap.size w7 vo vc zs) := own_blkF HV6.out KB7.out (fun k o hb hx => by have := HIL.out k o hx; have := H23.out; omega)
          have K7 : Hid (Kept Nil w w7) := HK.out.trans (Kept.ofNew KA6.out KB7.out HIG.out)
          have SF3 := sameFiles_yes w7.heap.size w7.heap.size zc vc zo vo zs w7 HZ7.out.row HV7.out.row (by omega)
          go_fit SF3
          rintro e w8 ⟨rfl, k8⟩
          have K8 : Hid (Kept Nil w w8) := K7.out.trans k8
          have HZ8 : Hid (OwnFs 0 w8 zo zc zs) := (HZ7.out.kept k8).mono (Nat.zero_le _)
          have HV8 : Hid (OwnFs 0 w8 vo vc zs) := (HV7.out.kept k8).mono (Nat.zero_le _)
          clear k8 SF3 ho
          go_wp2
          go_roundw
          case rel => exact ⟨k + 1, zs, zo, zc, vo, vc, by omega, rfl, rfl, by go_num, HFZ.out, HZ8.out, HV8.out, K8.out⟩
          case measure => simp [intOf]; omega
    · go_wp2
      go_ret
      exact ⟨rfl, HK.out⟩

end Go.Proofs.Ytnmkccdcgmajgaa
