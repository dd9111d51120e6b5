/-
  ConfigMeets, the last part: what was asked for is so.
-/
import Derived.Test.YtijklginabipgaaWMeetP
import Derived.Deep.DeepCutAuto
import Derived.Deep.RegionHeld3
import Derived.Deep.CutBlock
import Derived.Deep.DeepFit
import Derived.Deep.QuietTactic
import Derived.BigQuiet
namespace Go.Proofs.Ytijklginabipgaa
open Go.RowKit

set_option maxRecDepth 1000000 in
set_option maxHeartbeats 40000000 in
theorem partD : PartD := by
  intro w bc bd oc ac bk c1 c2 c3 e1 e2 e3 a1 a2 a3 oo ao bo b1 b2 b3 v n l av bv n' l' nx os w19 bl f1 f2 f3 g1 g2 g3 ln v0 v1 v2 v3 v4 v5 v6 v7 v8 v9 v10 v13 v14 v15 v16 v17 v18 v20 v21 v22 v23 v26 v27 v28 v29 v30 v31 v32 v33 v34 v35 v36 v37 v38 v39 v40 v41 v42 v43 v44 v45 v46 v47 v48 v49 v50 v51 v52 v53 v54 v55 v56 v57 v58 v59 v60 v61 v62 v63 v64 v65 v66 v67 v68 v69 v70 v71 v72 v73 v74 v75 v76 v77 v78 v79 v80 v81 v82 v83 v84 v85 v86 v87 v88 v89 v90 v91 v92 v93 v94 v95 v96 v97 v98 v99 v100 v101 v102 v103 v104 v105 v106 v107 v108 v109 v110 v111 v112 v113 v114 v115 v116 v117 v118 v119 v120 v121 v122 v123 v124 v125 v126 v127 v128 v129 v130 v131 v132 v133 v134 v135 v136 v137 v138 v139 v140 v141 v142 v143 v144 v145 v146 v147 v148 v149 v150 v151 v152 v153 v154 v155 v156 v157 v158 v159 v160 v161 v162 v163 v164 v165 v166 v167 v168 v169 v170 v171 v172 v173 v174 v175 v176 v177 v178 v179 v180 v181 v182 v183 v184 v185 v186 v187 v188 v189 v190 v191 v192 v193 v194 v195 v196 v197 v198 v199 v200 v201 v202 v203 v204 v205 v206 v207 v208 v209 v210 v211 v212 v213 v214 v215 v216 v217 v218 v219 v220 v221 v222 v223 v224 v225 v226 v227 v228 v229 v230 v231 v232 v233 v234 v235 v236 v237 v238 v239 v240 v241 v242 v243 v244 v245 v246 v247 v248 v249 v250 v251 v252 v253 v254 v255 v256 v257 v258 v259 v260 v261 v262 v263 v264 v265 v266 v267 v268 v269 v270 v271 v272 v273 v274 v275 v276 v277 v278 v279 v280 v281 v282 v283 v284 v285 v286 v287 v288 S19 hbl hln of1 of2 of3
  have SS : Hid (MS w bc bd oc ac bk c1 c2 c3 e1 e2 e3 a1 a2 a3 oo ao bo b1 b2 b3 v n l av bv n' l' nx os w19) := S19
  have BL : Hid (w19.heap[bl]? = some (.cells #[.slice f1 nx.length g1, .slice f2 ln.length g2, .slice f3 l'.length g3] 24 (0, 0))) := hbl
  have HLN : Hid (ln = []) := hln
  have OF : Hid (OwnInts 0 w19 f1 g1 nx ∧ OwnInts 0 w19 f2 g2 ln ∧ OwnInts 0 w19 f3 g3 l') := ⟨of1, of2, of3⟩
  clear S19 hbl hln of1 of2 of3
  have hv9 : v.length ≤ 9 := SS.out.hdr.len.1
  have hx9 : nx.length ≤ 9 := SS.out.hdr.len.2.1
  have hl9' : l'.length ≤ 9 := SS.out.hdr.len.2.2
  have hn9' : n'.length ≤ 9 := by rw [SS.out.hn1]; split; simp; exact hx9
  have ha9 := SS.out.a9
  have hb9 := SS.out.b9
  have hn9 := SS.out.c9
  have hl9 := SS.out.l9
  have hos := SS.out.o9
  have HWN : Hid (∀ i (hi : i < os.length), (∀ t (ht : t < os.length), i < t → os[t].2 ≠ os[i].2) → wants os[i].1 os[i].2 nx l') := fun i hi h => doAll_wants SS.out.hda i hi h
  conv => arg 2; whnf
  go_wp2
  go_loopg [25, 26] os.length (fun g s25 s26 wz => ∃ k : Nat, k ≤ os.length ∧ g = os.length - k ∧ s25 = .bool true ∧ s26 = .int .i64 k ∧ Hid (Kept Nil w19 wz))
  case atStart => exact ⟨0, Nat.zero_le _, rfl, rfl, rfl, Kept.refl _ _⟩
  case round =>
    obtain ⟨k, hk, rfl, rfl, rfl, KL⟩ := hrel
    rename World => wk
    by_cases hlt : k < os.length
    · obtain ⟨g, rfl, _, _, hc⟩ := (SS.out.ops.kept KL.out).cells (by omega)
      obtain ⟨u0, u1, _, _⟩ := hc k hlt
      have hki : (k : Int) < os.length := by omega
      have HWK : Hid ((∀ t (ht : t < os.length), k < t → os[t].2 ≠ os[k].2) → wants os[k].1 os[k].2 nx l') := HWN.out k hlt
      have HCC : Hid (∀ j, (hj : j < os.length) → wk.cell? ⟨g, j * 2 + 1, none⟩ = some (.int .i64 os[j].2)) := fun j hj => (hc j hj).2.1
      obtain ⟨kd, hkd⟩ : ∃ z, z = os[k].1 := ⟨_, rfl⟩
      obtain ⟨nd, hnd⟩ : ∃ z, z = os[k].2 := ⟨_, rfl⟩
      rw [← hkd] at u0
      rw [← hnd] at u1
      rw [← hkd, ← hnd] at HWK
      have HND : Hid (nd = os[k].2) := hnd
      have HKD : Hid (kd = os[k].1) := hkd
      clear hc hkd hnd
      go_wp2
      go_loopg [27, 28] (os.length - (k + 1)) (fun g2 s27 s28 wz => ∃ j : Nat, ∃ b : Bool, k + 1 ≤ j ∧ j ≤ os.length ∧ g2 = os.length - j ∧ s27 = .bool b ∧ s28 = .int .i64 j ∧ Hid (b = false → ∀ t (ht : t < os.length), k < t → t < j → os[t].2 ≠ nd) ∧ Hid (Kept Nil wk wz))
      case atStart => exact ⟨k + 1, false, Nat.le_refl _, by omega, rfl, rfl, by go_num, fun _ t ht h1 h2 => by omega, Kept.refl _ _⟩
      case round =>
        obtain ⟨j, b, hkj, hjo, rfl, rfl, rfl, HB, HQ⟩ := hrel
        rename World => wj
        obtain ⟨g', eg, _, _, hcj⟩ := (SS.out.ops.kept (KL.out.trans HQ.out)).cells (by omega)
        simp only [Option.some.injEq, Addr.mk.injEq, and_true] at eg
        subst eg
        obtain ⟨u0j, u1j, _, _⟩ := hcj k hlt
        have hk1 := HKD.out
        have hk2 := HND.out
        rw [← hk1] at u0j
        rw [← hk2] at u1j
        clear hk1 hk2
        by_cases hlj : j < os.length
        · have hji : (j : Int) < os.length := by omega
          have ujj := (hcj j hlj).2.1
          have HX : Hid (os[j].2 ≠ nd → b = false → ∀ t (ht : t < os.length), k < t → t < j + 1 → os[t].2 ≠ nd) := fun hne hb t ht h1 h2 => by
            by_cases htj : t = j
            · subst htj; exact hne
            · exact HB.out hb t ht h1 (by omega)
          generalize os[j].2 = y at *
          clear hcj u0 u1
          cases b with
          | true =>
            go_wp2
            go_quiet (fail)
            go_wp2
            go_roundg (os.length - (j + 1))
            case measure => omega
            case rel => exact ⟨j + 1, true, by omega, by omega, rfl, rfl, by go_num, fun h => absurd h (by decide), HQ.out.drewN _⟩
          | false =>
            by_cases hy : y = nd
            · have hyy : (y == nd) = true := by simpa using hy
              clear hy
              go_wp2
              go_quiet (fail)
              go_wp2
              go_roundg (os.length - (j + 1))
              case measure => omega
              case rel => exact ⟨j + 1, true, by omega, by omega, rfl, rfl, by go_num, fun h => absurd h (by decide), HQ.out.drewN _⟩
            · have hyy : (y == nd) = false := by simpa using hy
              have HX2 : Hid (∀ t (ht : t < os.length), k < t → t < j + 1 → os[t].2 ≠ nd) := HX.out hy rfl
              clear hy
              go_wp2
              go_quiet (fail)
              go_wp2
              go_roundg (os.length - (j + 1))
              case measure => omega
              case rel => exact ⟨j + 1, false, by omega, by omega, rfl, rfl, by go_num, fun _ => HX2.out, HQ.out.drewN _⟩
        · obtain rfl : j = os.length := by omega
          have HWB : Hid (b = false → wantB kd (hasZ nx nd) (hasZ l' nd) = true) := fun hb => wantB_of (HWK.out (fun t ht h1 => HB.out hb t ht h1 ht))
          have KJ : Hid (Kept Nil w19 wj) := KL.out.trans HQ.out
          have BLj : Hid (wj.heap[bl]? = some (.cells #[.slice f1 nx.length g1, .slice f2 ln.length g2, .slice f3 l'.length g3] 24 (0, 0))) := KJ.out.block _ _ BL.out (fun x => x.elim)
          have t0 : wj.cell? ⟨bl, 0, none⟩ = some (.slice f1 nx.length g1) := blk_at (BLj.out) 0 rfl
          have t1 : wj.cell? ⟨bl, 1, none⟩ = some (.slice f2 ln.length g2) := blk_at (BLj.out) 1 rfl
          have t2 : wj.cell? ⟨bl, 2, none⟩ = some (.slice f3 l'.length g3) := blk_at (BLj.out) 2 rfl
          have Q1 := fun m => keepHas_any _ g1 f1 nx nd (wj.drewN m) ((OF.out.1.kept KJ.out).row.nil ((Kept.refl _ _).drewN _)) (by omega)
          have Q2 := fun (X : World) (hx : Kept Nil wj X) (m : Nat) => keepHas_any _ g3 f3 l' nd (X.drewN m) (((OF.out.2.2.kept KJ.out).kept hx).row.nil ((Kept.refl _ _).drewN _)) (by omega)
          generalize hasZ nx nd = bw1 at *
          generalize hasZ l' nd = bw2 at *
          clear hcj u0 u1 HB HWK
          go_upto_region 41 with fail
          go_quiet (first | (go_at_call 37; exact Calls.quiet_of_same (Q1 _)))
          generalize hwd : wj.drewN _ = wd
          have KD : Hid (Kept Nil wj wd) := by rw [← hwd]; exact (Kept.refl _ _).drewN _
          have u0d : wd.cell? ⟨g, k * 2, none⟩ = some (.int .i64 kd) := by rw [← hwd]; exact u0j
          have u1d : wd.cell? ⟨g, k * 2 + 1, none⟩ = some (.int .i64 nd) := by rw [← hwd]; exact u1j
          have BLd : Hid (wd.heap[bl]? = some (.cells #[.slice f1 nx.length g1, .slice f2 ln.length g2, .slice f3 l'.length g3] 24 (0, 0))) := KD.out.block _ _ BLj.out (fun x => x.elim)
          have Q3 := Q2 wd KD.out
          clear hwd Q1 Q2 t0 t1 t2 u0j u1j
          have t0 : wd.cell? ⟨bl, 0, none⟩ = some (.slice f1 nx.length g1) := blk_at (BLd.out) 0 rfl
          have t1 : wd.cell? ⟨bl, 1, none⟩ = some (.slice f2 ln.length g2) := blk_at (BLd.out) 1 rfl
          have t2 : wd.cell? ⟨bl, 2, none⟩ = some (.slice f3 l'.length g3) := blk_at (BLd.out) 2 rfl
          go_upto_region 42 with fail
          go_quiet (first | (go_at_call 37; exact Calls.quiet_of_same (Q3 _)))
          generalize hwe : wd.drewN _ = we
          have KE : Hid (Kept Nil wj we) := by rw [← hwe]; exact KD.out.drewN _
          have u0e : we.cell? ⟨g, k * 2, none⟩ = some (.int .i64 kd) := by rw [← hwe]; exact u0d
          clear hwe Q3 t0 t1 t2 u0d u1d
          obtain ⟨wb, HWb⟩ : ∃ wb, Hid (wb = wantB kd bw1 bw2) := ⟨_, rfl⟩
          go_upto_region 43 with fail
          go_cut [31] (fun x wx => x = .bool wb ∧ wx = we)
          case first =>
            by_cases k1 : kd = 1
            · subst k1
              cases bw1 with
              | true =>
                cases bw2 with
                | true =>
                  go_wp2
                  go_meet
                  case rel => exact ⟨congrArg Value.bool HWb.out.symm, rfl⟩
                | false =>
                  go_wp2
                  go_meet
                  case rel => exact ⟨congrArg Value.bool HWb.out.symm, rfl⟩
              | false =>
                cases bw2 with
                | true =>
                  go_wp2
                  go_meet
                  case rel => exact ⟨congrArg Value.bool HWb.out.symm, rfl⟩
                | false =>
                  go_wp2
                  go_meet
                  case rel => exact ⟨congrArg Value.bool HWb.out.symm, rfl⟩
            · have j1 : (kd == 1) = false := by simpa using k1
              by_cases k2 : kd = 2
              · subst k2
                clear j1
                cases bw1 with
                | true =>
                  cases bw2 with
                  | true =>
                    go_wp2
                    go_meet
                    case rel => exact ⟨congrArg Value.bool HWb.out.symm, rfl⟩
                  | false =>
                    go_wp2
                    go_meet
                    case rel => exact ⟨congrArg Value.bool HWb.out.symm, rfl⟩
                | false =>
                  cases bw2 with
                  | true =>
                    go_wp2
                    go_meet
                    case rel => exact ⟨congrArg Value.bool HWb.out.symm, rfl⟩
                  | false =>
                    go_wp2
                    go_meet
                    case rel => exact ⟨congrArg Value.bool HWb.out.symm, rfl⟩
              · have j2 : (kd == 2) = false := by simpa using k2
                by_cases k3 : kd = 3
                · subst k3
                  clear j1 j2
                  cases bw1 with
                  | true =>
                    cases bw2 with
                    | true =>
                      go_wp2
                      go_meet
                      case rel => exact ⟨congrArg Value.bool HWb.out.symm, rfl⟩
                    | false =>
                      go_wp2
                      go_meet
                      case rel => exact ⟨congrArg Value.bool HWb.out.symm, rfl⟩
                  | false =>
                    cases bw2 with
                    | true =>
                      go_wp2
                      go_meet
                      case rel => exact ⟨congrArg Value.bool HWb.out.symm, rfl⟩
                    | false =>
                      go_wp2
                      go_meet
                      case rel => exact ⟨congrArg Value.bool HWb.out.symm, rfl⟩
                · have j3 : (kd == 3) = false := by simpa using k3
                  have HWF : Hid (wantB kd bw1 bw2 = false) := by show _ = _; unfold wantB; rw [j1, j2, j3]; rfl
                  clear k1 k2 k3
                  go_wp2
                  go_meet
                  case rel => exact ⟨congrArg Value.bool (HWb.out.trans HWF.out).symm, rfl⟩
          case rest =>
            obtain ⟨rfl, rfl⟩ := hcut
            have HWc : Hid (b = false → wb = true) := fun hb => HWb.out.trans (HWB.out hb)
            cases b with
            | true =>
              go_wp2
              go_roundg (os.length - (k + 1))
              case measure => omega
              case rel => exact ⟨k + 1, by omega, rfl, rfl, by go_num, KL.out.trans (HQ.out.trans KE.out)⟩
            | false =>
              obtain rfl : wb = true := HWc.out rfl
              go_wp2
              go_roundg (os.length - (k + 1))
              case measure => omega
              case rel => exact ⟨k + 1, by omega, rfl, rfl, by go_num, KL.out.trans (HQ.out.trans KE.out)⟩
    · have SK : Hid (MS w bc bd oc ac bk c1 c2 c3 e1 e2 e3 a1 a2 a3 oo ao bo b1 b2 b3 v n l av bv n' l' nx os wk) := SS.out.kept KL.out
      have BLk : Hid (wk.heap[bl]? = some (.cells #[.slice f1 nx.length g1, .slice f2 ln.length g2, .slice f3 l'.length g3] 24 (0, 0))) := KL.out.block _ _ BL.out (fun x => x.elim)
      have V1 := valid_any _ e1 e2 e3 b1 b2 b3 v n' l' wk SK.out.od.rows (by omega) (by omega) (by omega)
      have hv1 : isCfg v n' l' = true := by
        rw [SK.out.hn1]
        split
        · exact dr_same SK.out.hdr SK.out.hv0
        · exact dr_joint SK.out.hdr SK.out.hv0
      rw [hv1] at V1
      have V2 := fun (X : World) (hx : Kept Nil wk X) => valid_any _ g1 g2 g3 f1 f2 f3 nx ln l' X ⟨((OF.out.1.kept KL.out).kept hx).row, ((OF.out.2.1.kept KL.out).kept hx).row, ((OF.out.2.2.kept KL.out).kept hx).row⟩ (by omega) (by rw [HLN.out]; simp) (by omega)
      have hv2 : isCfg nx ln l' = true := by rw [HLN.out]; exact dr_after SK.out.hdr SK.out.hnx
      simp only [hv2] at V2
      clear hv1 hv2
      have d0 : wk.cell? ⟨bd, 0, none⟩ = some (.slice b1 v.length e1) := blk_at (SK.out.bdb) 0 rfl
      have d1 : wk.cell? ⟨bd, 1, none⟩ = some (.slice b2 n'.length e2) := blk_at (SK.out.bdb) 1 rfl
      have d2 : wk.cell? ⟨bd, 2, none⟩ = some (.slice b3 l'.length e3) := blk_at (SK.out.bdb) 2 rfl
      go_wp2_with fail
      go_fit V1
      rintro e x1 ⟨rfl, kx1⟩
      have KX1 : Hid (Kept Nil wk x1) := kx1
      have BLx : Hid (x1.heap[bl]? = some (.cells #[.slice f1 nx.length g1, .slice f2 ln.length g2, .slice f3 l'.length g3] 24 (0, 0))) := kx1.block _ _ BLk.out (fun x => x.elim)
      clear kx1 V1 d0 d1 d2
      have t0 : x1.cell? ⟨bl, 0, none⟩ = some (.slice f1 nx.length g1) := blk_at (BLx.out) 0 rfl
      have t1 : x1.cell? ⟨bl, 1, none⟩ = some (.slice f2 ln.length g2) := blk_at (BLx.out) 1 rfl
      have t2 : x1.cell? ⟨bl, 2, none⟩ = some (.slice f3 l'.length g3) := blk_at (BLx.out) 2 rfl
      go_wp2_with fail
      go_fit (V2 x1 KX1.out)
      rintro e x2 ⟨rfl, kx2⟩
      have KX2 : Hid (Kept Nil w x2) := (SK.out.kw.trans KX1.out).trans kx2
      clear kx2 V2
      go_wp2
      go_ret
      exact ⟨rfl, KX2.out⟩

end Go.Proofs.Ytijklginabipgaa
