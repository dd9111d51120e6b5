/-
  ConfigMeets, the second part: the second test, and the change's end.
-/
import Derived.Test.YtijklginabipgaaWMeetP
import Derived.Deep.DeepCutAuto
import Derived.Deep.RegionHeld3
import Derived.Deep.CutBlock
import Derived.Deep.DeepFit
import Derived.Deep.QuietTactic
import Derived.BigQuiet
namespace Go.Proofs.Ytijklginabipgaa
open Go.RowKit

set_option maxRecDepth 1000000 in
set_option maxHeartbeats 40000000 in
theorem partB (hC : PartC) : PartB := by
  intro w bc bd oc ac bk c1 c2 c3 e1 e2 e3 a1 a2 a3 oo ao bo b1 b2 b3 v n l av bv n' l' nx os w11 w12 mo mc M v0 v1 v2 v3 v4 v5 v6 v7 v8 v9 v10 v13 v14 v15 v16 v21 v22 v24 v25 v26 v27 v28 v29 v30 v31 v32 v33 v34 v35 v36 v37 v38 v39 v40 v41 v42 v43 v44 v45 v46 v47 v48 v49 v50 v51 v52 v53 v54 v55 v56 v57 v58 v59 v60 v61 v62 v63 v64 v65 v66 v67 v68 v69 v70 v71 v72 v73 v74 v75 v76 v77 v78 v79 v80 v81 v82 v83 v84 v85 v86 v87 v88 v89 v90 v91 v92 v93 v94 v95 v96 v97 v98 v99 v100 v101 v102 v103 v104 v105 v106 v107 v108 v109 v110 v111 v112 v113 v114 v115 v116 v117 v118 v119 v120 v121 v122 v123 v124 v125 v126 v127 v128 v129 v130 v131 v132 v133 v134 v135 v136 v137 v138 v139 v140 v141 v142 v143 v144 v145 v146 v147 v148 v149 v150 v151 v152 v153 v154 v155 v156 v157 v158 v159 v160 v161 v162 v163 v164 v165 v166 v167 v168 v169 v170 v171 v172 v173 v174 v175 v176 v177 v178 v179 v180 v181 v182 v183 v184 v185 v186 v187 v188 v189 v190 v191 v192 v193 v194 v195 v196 v197 v198 v199 v200 v201 v202 v203 v204 v205 v206 v207 v208 v209 v210 v211 v212 v213 v214 v215 v216 v217 v218 v219 v220 v221 v222 v223 v224 v225 v226 v227 v228 v229 v230 v231 v232 v233 v234 v235 v236 v237 v238 v239 v240 v241 v242 v243 v244 v245 v246 v247 v248 v249 v250 v251 v252 v253 v254 v255 v256 v257 v258 v259 v260 v261 v262 v263 v264 v265 v266 v267 v268 v269 v270 v271 v272 v273 v274 v275 v276 v277 v278 v279 v280 v281 v282 v283 v284 v285 v286 v287 v288 S11 hml hMv KC OM
  have S : Hid (MS w bc bd oc ac bk c1 c2 c3 e1 e2 e3 a1 a2 a3 oo ao bo b1 b2 b3 v n l av bv n' l' nx os w11) := S11
  have SS : Hid (MS w bc bd oc ac bk c1 c2 c3 e1 e2 e3 a1 a2 a3 oo ao bo b1 b2 b3 v n l av bv n' l' nx os w12) := S11.kept KC
  have KC : Hid (Kept Nil w11 w12) := KC
  have OM : Hid (OwnInts w11.heap.size w12 mo mc M) := OM
  have HMv : Hid (∀ x ∈ v, x ∈ M) := hMv
  have HC : Hid PartC := hC
  clear hMv S11 hC
  have MB : Hid (∀ g, (Value.slice mo M.length mc).ownBlock = some g → w11.heap.size ≤ g ∧ g < w12.heap.size) := fun g hg => World.ownsRow.lt OM.out g hg
  have hv9 : v.length ≤ 9 := SS.out.hdr.len.1
  have hx9 : nx.length ≤ 9 := SS.out.hdr.len.2.1
  have hl9' : l'.length ≤ 9 := SS.out.hdr.len.2.2
  have hn9' : n'.length ≤ 9 := by rw [SS.out.hn1]; split; simp; exact hx9
  have ha9 := SS.out.a9
  have hb9 := SS.out.b9
  have hn9 := SS.out.c9
  have hl9 := SS.out.l9
  have hos := SS.out.o9
  conv => arg 2; whnf
  dsimp only
  have q0 : w12.cell? ⟨bc, 0, none⟩ = some (.slice a1 v.length c1) := blk_at (SS.out.bcb) 0 rfl
  have q1 : w12.cell? ⟨bc, 1, none⟩ = some (.slice a2 n.length c2) := blk_at (SS.out.bcb) 1 rfl
  have q2 : w12.cell? ⟨bc, 2, none⟩ = some (.slice a3 l.length c3) := blk_at (SS.out.bcb) 2 rfl
  have d0 : w12.cell? ⟨bd, 0, none⟩ = some (.slice b1 v.length e1) := blk_at (SS.out.bdb) 0 rfl
  have d1 : w12.cell? ⟨bd, 1, none⟩ = some (.slice b2 n'.length e2) := blk_at (SS.out.bdb) 1 rfl
  have d2 : w12.cell? ⟨bd, 2, none⟩ = some (.slice b3 l'.length e3) := blk_at (SS.out.bdb) 2 rfl
  go_upto_region 22 with fail
  go_cut [155] (fun b wx => b = .bool false ∧ Hid (Kept Nil w12 wx))
  case first =>
    have P1 := quorum_any w12.heap.size c1 c2 c3 ac a1 a2 a3 ao v n l av w12 (SS.out).rows SS.out.oa.row (by omega) (by omega) (by omega)
    cases h1 : quo v n av with
    | false =>
      rw [h1] at P1
      clear h1
      go_wp2_with fail
      go_fit P1
      rintro e x1 ⟨rfl, kx1⟩
      have KX1 : Hid (Kept Nil w12 x1) := kx1
      clear kx1
      go_wp2
      go_meet
      case rel => exact ⟨rfl, KX1.out⟩
    | true =>
      rw [h1] at P1
      have H1 : Hid (quo v n av = true) := h1
      clear h1
      go_wp2_with fail
      go_fit P1
      rintro e x1 ⟨rfl, kx1⟩
      have KX1 : Hid (Kept Nil w12 x1) := kx1
      clear kx1 P1
      have BX1 : Hid (MS w bc bd oc ac bk c1 c2 c3 e1 e2 e3 a1 a2 a3 oo ao bo b1 b2 b3 v n l av bv n' l' nx os x1) := SS.out.kept KX1.out
      clear q0 q1 q2 d0 d1 d2
      have d0 : x1.cell? ⟨bd, 0, none⟩ = some (.slice b1 v.length e1) := blk_at (BX1.out.bdb) 0 rfl
      have d1 : x1.cell? ⟨bd, 1, none⟩ = some (.slice b2 n'.length e2) := blk_at (BX1.out.bdb) 1 rfl
      have d2 : x1.cell? ⟨bd, 2, none⟩ = some (.slice b3 l'.length e3) := blk_at (BX1.out.bdb) 2 rfl
      have P2 := quorum_any x1.heap.size e1 e2 e3 bk b1 b2 b3 bo v n' l' bv x1 (SS.out.kept KX1.out).od.rows (SS.out.ob.kept KX1.out).row (by omega) (by omega) (by omega)
      cases h2 : quo v n' bv with
      | false =>
        rw [h2] at P2
        clear h2
        go_wp2_with fail
        go_fit P2
        rintro e x2 ⟨rfl, kx2⟩
        have KX2 : Hid (Kept Nil w12 x2) := KX1.out.trans kx2
        clear kx2
        go_wp2
        go_meet
        case rel => exact ⟨rfl, KX2.out⟩
      | true =>
        rw [h2] at P2
        have H2 : Hid (quo v n' bv = true) := h2
        clear h2
        go_wp2_with fail
        go_fit P2
        rintro e x2 ⟨rfl, kx2⟩
        have KX2 : Hid (Kept Nil w12 x2) := KX1.out.trans kx2
        clear kx2 P2
        have P3 := meet_any _ _ _ ac bk mc ao bo mo av bv M x2 (SS.out.oa.kept KX2.out).row (SS.out.ob.kept KX2.out).row (OM.out.kept KX2.out).row (by omega) (by omega) (by omega)
        rw [meets_one H1.out H2.out HMv.out] at P3
        go_wp2_with fail
        go_fit P3
        rintro e x3 ⟨rfl, kx3⟩
        have KX3 : Hid (Kept Nil w12 x3) := KX2.out.trans kx3
        clear kx3 P3
        go_wp2
        go_meet
        case rel => exact ⟨rfl, KX3.out⟩
  case rest =>
    obtain ⟨rfl, KC2⟩ := hcut
    rename World => w13
    have S13 : Hid (MS w bc bd oc ac bk c1 c2 c3 e1 e2 e3 a1 a2 a3 oo ao bo b1 b2 b3 v n l av bv n' l' nx os w13) := SS.out.kept KC2.out
    have OM13 : Hid (OwnInts w11.heap.size w13 mo mc M) := OM.out.kept KC2.out
    have K13 : Hid (Kept Nil w11 w13) := KC.out.trans KC2.out
    have hs13 := KC2.out.size
    clear q0 q1 q2 d0 d1 d2
    have d0 : w13.cell? ⟨bd, 0, none⟩ = some (.slice b1 v.length e1) := blk_at (S13.out.bdb) 0 rfl
    have d1 : w13.cell? ⟨bd, 1, none⟩ = some (.slice b2 n'.length e2) := blk_at (S13.out.bdb) 1 rfl
    have d2 : w13.cell? ⟨bd, 2, none⟩ = some (.slice b3 l'.length e3) := blk_at (S13.out.bdb) 2 rfl
    obtain ⟨w14, hw14⟩ : ∃ x, x = w13.alloc (.cells #[.slice b1 v.length e1, .slice b2 n'.length e2, .slice b3 l'.length e3] 24) := ⟨_, rfl⟩
    have K14 : Hid (Kept Nil w13 w14) := by rw [hw14]; exact (Kept.refl _ _).alloc _
    have BL14 : Hid (w14.heap[w13.heap.size]? = some (.cells #[.slice b1 v.length e1, .slice b2 n'.length e2, .slice b3 l'.length e3] 24 (0, 0))) := by rw [hw14]; exact blk_new _ _
    have J := joint_any e1 e2 e3 b1 b2 b3 v.length n'.length l'.length w14
    obtain ⟨jb, HJ⟩ : ∃ jb, Hid (jb = decide (0 < n'.length)) := ⟨_, rfl⟩
    rw [← HJ.out] at J
    have s0 : (w13.alloc (.cells #[.slice b1 v.length e1, .slice b2 n'.length e2, .slice b3 l'.length e3] 24)).cell? ⟨bd, 0, none⟩ = some (.slice b1 v.length e1) := blk_at (blk_past S13.out.bdb _) 0 rfl
    have s1 : (w13.alloc (.cells #[.slice b1 v.length e1, .slice b2 n'.length e2, .slice b3 l'.length e3] 24)).cell? ⟨bd, 1, none⟩ = some (.slice b2 n'.length e2) := blk_at (blk_past S13.out.bdb _) 1 rfl
    have s2 : (w13.alloc (.cells #[.slice b1 v.length e1, .slice b2 n'.length e2, .slice b3 l'.length e3] 24)).cell? ⟨bd, 2, none⟩ = some (.slice b3 l'.length e3) := blk_at (blk_past S13.out.bdb _) 2 rfl
    go_wp2_with fail
    clear s0 s1 s2
    rw [← hw14]
    clear hw14
    obtain ⟨bl, hbl⟩ : ∃ bl, bl = w13.heap.size := ⟨_, rfl⟩
    rw [← hbl] at BL14
    rw [← hbl]
    have HBL : Hid (bl = w13.heap.size) := hbl
    clear hbl
    go_fit J
    rintro e w15 ⟨rfl, k15⟩
    have K15 : Hid (Kept Nil w13 w15) := K14.out.trans k15
    have BL15 : Hid (w15.heap[bl]? = some (.cells #[.slice b1 v.length e1, .slice b2 n'.length e2, .slice b3 l'.length e3] 24 (0, 0))) := k15.block _ _ BL14.out (fun x => x.elim)
    have S15 : Hid (MS w bc bd oc ac bk c1 c2 c3 e1 e2 e3 a1 a2 a3 oo ao bo b1 b2 b3 v n l av bv n' l' nx os w15) := S13.out.kept K15.out
    clear k15 J K14 BL14 d0 d1 d2
    have d0 : w15.cell? ⟨bd, 0, none⟩ = some (.slice b1 v.length e1) := blk_at (S15.out.bdb) 0 rfl
    have d1 : w15.cell? ⟨bd, 1, none⟩ = some (.slice b2 n'.length e2) := blk_at (S15.out.bdb) 1 rfl
    have d2 : w15.cell? ⟨bd, 2, none⟩ = some (.slice b3 l'.length e3) := blk_at (S15.out.bdb) 2 rfl
    have t0 : w15.cell? ⟨bl, 0, none⟩ = some (.slice b1 v.length e1) := blk_at (BL15.out) 0 rfl
    have t1 : w15.cell? ⟨bl, 1, none⟩ = some (.slice b2 n'.length e2) := blk_at (BL15.out) 1 rfl
    have t2 : w15.cell? ⟨bl, 2, none⟩ = some (.slice b3 l'.length e3) := blk_at (BL15.out) 2 rfl
    have y0 : w15.frozen? ⟨bl, 0, none⟩ = false := blk_free BL15.out 0
    have y1 : w15.frozen? ⟨bl, 1, none⟩ = false := blk_free BL15.out 1
    have y2 : w15.frozen? ⟨bl, 2, none⟩ = false := blk_free BL15.out 2
    go_upto_if 158 with fail
    go_cut [20] (fun e wx => e = .int .i64 0 ∧ ∃ f1 f2 f3 g1 g2 g3, ∃ ln : List Int, Hid (wx.heap[bl]? = some (.cells #[.slice f1 nx.length g1, .slice f2 ln.length g2, .slice f3 l'.length g3] 24 (0, 0))) ∧ Hid (ln = []) ∧ Hid (OwnInts 0 wx f1 g1 nx) ∧ Hid (OwnInts 0 wx f2 g2 ln) ∧ Hid (OwnInts 0 wx f3 g3 l') ∧ Hid (∀ g, (Value.slice f1 nx.length g1).ownBlock = some g → (Value.slice mo M.length mc).ownBlock ≠ some g) ∧ Hid (∀ g, (Value.slice f2 ln.length g2).ownBlock = some g → (Value.slice mo M.length mc).ownBlock ≠ some g) ∧ Hid (∀ g, (Value.slice f3 l'.length g3).ownBlock = some g → (Value.slice mo M.length mc).ownBlock ≠ some g) ∧ Hid (Kept Nil w13 wx))
    case first =>
      cases jb with
      | false =>
        have hn0 : n' = [] := by
          have := HJ.out.symm
          rw [decide_eq_false_iff_not] at this
          exact List.length_eq_zero_iff.1 (by omega)
        have HVN : Hid (v = nx) := by
          have h1 := S.out.hn1
          by_cases hv : v = nx
          · exact hv
          · rw [if_neg hv, hn0] at h1
            exact absurd h1.symm S.out.hnx
        have HNN' : Hid (n' = []) := hn0
        clear hn0
        have hne : ∀ {fo c zs}, OwnInts 0 w11 fo c zs → ∀ g, (Value.slice fo zs.length c).ownBlock = some g → (Value.slice mo M.length mc).ownBlock ≠ some g := fun {fo c zs} ho g hg hm => by have := (World.ownsRow.lt ho _ hg).2; have := (MB.out _ hm).1; omega
        have HNE : Hid ((∀ g, (Value.slice b1 v.length e1).ownBlock = some g → (Value.slice mo M.length mc).ownBlock ≠ some g) ∧ (∀ g, (Value.slice b2 n'.length e2).ownBlock = some g → (Value.slice mo M.length mc).ownBlock ≠ some g) ∧ (∀ g, (Value.slice b3 l'.length e3).ownBlock = some g → (Value.slice mo M.length mc).ownBlock ≠ some g)) := ⟨hne S.out.od.o1, hne S.out.od.o2, hne S.out.od.o3⟩
        clear hne
        go_wp2
        go_meet
        case rel => exact ⟨rfl, b1, b2, b3, e1, e2, e3, n', by rw [← HVN.out]; exact BL15.out, HNN'.out, by rw [← HVN.out]; exact S15.out.od.o1, S15.out.od.o2, S15.out.od.o3, by rw [← HVN.out]; exact HNE.out.1, HNE.out.2.1, HNE.out.2.2, K15.out⟩
      | true =>
        have hj : 0 < n'.length := of_decide_eq_true HJ.out.symm
        have HNV : Hid (n' = nx) := by
          have h1 := S.out.hn1
          by_cases hv : v = nx
          · rw [if_pos hv] at h1; rw [h1] at hj; simp at hj
          · rw [if_neg hv] at h1; exact h1
        have FZ := finish_any 0 e1 e2 e3 b1 b2 b3 v n' l' w15 S15.out.od.o1 S15.out.od.o2 S15.out.od.o3
        have hfz : finZ v n' l' = .ok (nx, [], l') := by
          unfold finZ
          rw [if_pos ⟨by rw [HNV.out]; exact dr_joint S.out.hdr S.out.hv0, hj⟩, HNV.out]
        rw [hfz] at FZ
        clear hfz hj
        go_wp2_with fail
        go_fit FZ
        rintro e w16 (⟨ec2, her2, _, _⟩ | ⟨v2, n2, l2, her2, f1, f2, f3, g1, g2, g3, rfl, own16, k16⟩)
        · cases her2
        · simp only [Except.ok.injEq, Prod.mk.injEq] at her2
          obtain ⟨rfl, rfl, rfl⟩ := her2
          have O16 : Hid (Own3 w15.heap.size f1 f2 f3 g1 g2 g3 nx [] l' w16) := own16
          have K16 : Hid (Kept Nil w13 w16) := K15.out.trans k16
          have BL16 : Hid (w16.heap[bl]? = some (.cells #[.slice b1 v.length e1, .slice b2 n'.length e2, .slice b3 l'.length e3] 24 (0, 0))) := k16.block _ _ BL15.out (fun x => x.elim)
          clear own16 k16 FZ t0 t1 t2 y0 y1 y2 d0 d1 d2
          have t0 : w16.cell? ⟨bl, 0, none⟩ = some (.slice b1 v.length e1) := blk_at (BL16.out) 0 rfl
          have t1 : w16.cell? ⟨bl, 1, none⟩ = some (.slice b2 n'.length e2) := blk_at (BL16.out) 1 rfl
          have t2 : w16.cell? ⟨bl, 2, none⟩ = some (.slice b3 l'.length e3) := blk_at (BL16.out) 2 rfl
          have y0 : w16.frozen? ⟨bl, 0, none⟩ = false := blk_free BL16.out 0
          have y1 : w16.frozen? ⟨bl, 1, none⟩ = false := blk_free BL16.out 1
          have y2 : w16.frozen? ⟨bl, 2, none⟩ = false := blk_free BL16.out 2
          go_wp2
          go_meet
          case rel =>
            have hbl := HBL.out
            have hlt15 := lt_of_block BL15.out
            have hb : ∀ {fo c zs}, OwnInts w15.heap.size w16 fo c zs → (Value.slice fo zs.length c).ownBlock ≠ some bl := fun {fo c zs} ho e => by have := (World.ownsRow.lt ho _ e).1; omega
            have hne : ∀ {fo c zs}, OwnInts w15.heap.size w16 fo c zs → ∀ g, (Value.slice fo zs.length c).ownBlock = some g → (Value.slice mo M.length mc).ownBlock ≠ some g := fun {fo c zs} ho g hg hm => by have := (World.ownsRow.lt ho _ hg).1; have := (MB.out _ hm).2; omega
            have hmv : ∀ {fo c zs}, OwnInts w15.heap.size w16 fo c zs → OwnInts 0 (((w16.setCell ⟨bl, 0, none⟩ (.slice f1 nx.length g1)).setCell ⟨bl, 1, none⟩ (.slice f2 0 g2)).setCell ⟨bl, 2, none⟩ (.slice f3 l'.length g3)) fo c zs := fun {fo c zs} ho => own_mono (own_setNe (own_setNe (own_setNe ho (hb ho) _) (hb ho) _) (hb ho) _) (Nat.zero_le _)
            exact ⟨rfl, f1, f2, f3, g1, g2, g3, [], blk_set (blk_set (blk_set BL16.out 0 _) 1 _) 2 _, rfl, hmv O16.out.o1, hmv O16.out.o2, hmv O16.out.o3, hne O16.out.o1, hne O16.out.o2, hne O16.out.o3, ((K16.out.setNew (by show w13.heap.size ≤ bl; omega) _).setNew (by show w13.heap.size ≤ bl; omega) _).setNew (by show w13.heap.size ≤ bl; omega) _⟩
    case rest =>
      obtain ⟨rfl, f1, f2, f3, g1, g2, g3, ln, BL, HLN, OF1, OF2, OF3, NF1, NF2, NF3, KC3⟩ := hcut
      rename World => w17
      have HNB : Hid ((Value.slice mo M.length mc).ownBlock ≠ some bl) := fun e => by have := (MB.out _ e).2; have := HBL.out; omega
      apply_assumption
      exact HC.out w bc bd oc ac bk c1 c2 c3 e1 e2 e3 a1 a2 a3 oo ao bo b1 b2 b3 v n l av bv n' l' nx os w11 w17 mo mc bl M f1 f2 f3 g1 g2 g3 ln _ _ _ _ _ _ _ _ _ _ _ _ _ _ _ _ _ _ _ _ _ _ _ _ _ _ _ _ _ _ _ _ _ _ _ _ _ _ _ _ _ _ _ _ _ _ _ _ _ _ _ _ _ _ _ _ _ _ _ _ _ _ _ _ _ _ _ _ _ _ _ _ _ _ _ _ _ _ _ _ _ _ _ _ _ _ _ _ _ _ _ _ _ _ _ _ _ _ _ _ _ _ _ _ _ _ _ _ _ _ _ _ _ _ _ _ _ _ _ _ _ _ _ _ _ _ _ _ _ _ _ _ _ _ _ _ _ _ _ _ _ _ _ _ _ _ _ _ _ _ _ _ _ _ _ _ _ _ _ _ _ _ _ _ _ _ _ _ _ _ _ _ _ _ _ _ _ _ _ _ _ _ _ _ _ _ _ _ _ _ _ _ _ _ _ _ _ _ _ _ _ _ _ _ _ _ _ _ _ _ _ _ _ _ _ _ _ _ _ _ _ _ _ _ _ _ _ _ _ _ _ _ _ _ _ _ _ _ _ _ _ _ _ _ _ _ _ _ _ _ _ _ _ _ _ _ _ _ _ _ _ _ _ _ _ _ _ _ _ _ _ _ _ _ _ _ _ _ _ _ _ S.out hml (K13.out.trans KC3.out) (OM13.out.kept KC3.out) HNB.out BL.out HLN.out OF1.out OF2.out OF3.out NF1.out NF2.out NF3.out

end Go.Proofs.Ytijklginabipgaa
