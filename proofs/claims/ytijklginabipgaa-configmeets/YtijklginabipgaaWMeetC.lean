/-
  ConfigMeets, the third part: the third test.
-/
import Derived.Test.YtijklginabipgaaWMeetP
import Derived.Deep.DeepCutAuto
import Derived.Deep.RegionHeld3
import Derived.Deep.CutBlock
import Derived.Deep.DeepFit
import Derived.Deep.QuietTactic
import Derived.BigQuiet
namespace Go.Proofs.Ytijklginabipgaa
open Go.RowKit

set_option maxRecDepth 1000000 in
set_option maxHeartbeats 40000000 in
theorem partC (hD : PartD) : PartC := by
  intro w bc bd oc ac bk c1 c2 c3 e1 e2 e3 a1 a2 a3 oo ao bo b1 b2 b3 v n l av bv n' l' nx os w11 w17 mo mc bl M f1 f2 f3 g1 g2 g3 ln v0 v1 v2 v3 v4 v5 v6 v7 v8 v9 v10 v13 v14 v15 v16 v21 v22 v25 v26 v27 v28 v29 v30 v31 v32 v33 v34 v35 v36 v37 v38 v39 v40 v41 v42 v43 v44 v45 v46 v47 v48 v49 v50 v51 v52 v53 v54 v55 v56 v57 v58 v59 v60 v61 v62 v63 v64 v65 v66 v67 v68 v69 v70 v71 v72 v73 v74 v75 v76 v77 v78 v79 v80 v81 v82 v83 v84 v85 v86 v87 v88 v89 v90 v91 v92 v93 v94 v95 v96 v97 v98 v99 v100 v101 v102 v103 v104 v105 v106 v107 v108 v109 v110 v111 v112 v113 v114 v115 v116 v117 v118 v119 v120 v121 v122 v123 v124 v125 v126 v127 v128 v129 v130 v131 v132 v133 v134 v135 v136 v137 v138 v139 v140 v141 v142 v143 v144 v145 v146 v147 v148 v149 v150 v151 v152 v153 v154 v155 v156 v157 v158 v159 v160 v161 v162 v163 v164 v165 v166 v167 v168 v169 v170 v171 v172 v173 v174 v175 v176 v177 v178 v179 v180 v181 v182 v183 v184 v185 v186 v187 v188 v189 v190 v191 v192 v193 v194 v195 v196 v197 v198 v199 v200 v201 v202 v203 v204 v205 v206 v207 v208 v209 v210 v211 v212 v213 v214 v215 v216 v217 v218 v219 v220 v221 v222 v223 v224 v225 v226 v227 v228 v229 v230 v231 v232 v233 v234 v235 v236 v237 v238 v239 v240 v241 v242 v243 v244 v245 v246 v247 v248 v249 v250 v251 v252 v253 v254 v255 v256 v257 v258 v259 v260 v261 v262 v263 v264 v265 v266 v267 v268 v269 v270 v271 v272 v273 v274 v275 v276 v277 v278 v279 v280 v281 v282 v283 v284 v285 v286 v287 v288 S11 hml k17 om17 hnb hbl hln of1 of2 of3 nf1 nf2 nf3
  obtain ⟨j0, hj, hy0, hy1, hy2⟩ := info_parts Try.infoInt
  have S : Hid (MS w bc bd oc ac bk c1 c2 c3 e1 e2 e3 a1 a2 a3 oo ao bo b1 b2 b3 v n l av bv n' l' nx os w11) := S11
  have SS : Hid (MS w bc bd oc ac bk c1 c2 c3 e1 e2 e3 a1 a2 a3 oo ao bo b1 b2 b3 v n l av bv n' l' nx os w17) := S11.kept k17
  have HD : Hid PartD := hD
  have OM17 : w17.ownsRow w11.heap.size 3 1 (.slice mo M.length mc) M.length (M.map (Value.int .i64)) := om17
  have K17 : Hid (Kept Nil w11 w17) := k17
  have HLN : Hid (ln = []) := hln
  have BL : Hid (w17.heap[bl]? = some (.cells #[.slice f1 nx.length g1, .slice f2 ln.length g2, .slice f3 l'.length g3] 24 (0, 0))) := hbl
  have OF : Hid (OwnInts 0 w17 f1 g1 nx ∧ OwnInts 0 w17 f2 g2 ln ∧ OwnInts 0 w17 f3 g3 l') := ⟨of1, of2, of3⟩
  have NF : Hid ((∀ g, (Value.slice f1 nx.length g1).ownBlock = some g → (Value.slice mo M.length mc).ownBlock ≠ some g) ∧ (∀ g, (Value.slice f2 ln.length g2).ownBlock = some g → (Value.slice mo M.length mc).ownBlock ≠ some g) ∧ (∀ g, (Value.slice f3 l'.length g3).ownBlock = some g → (Value.slice mo M.length mc).ownBlock ≠ some g)) := ⟨nf1, nf2, nf3⟩
  have HNB : Hid ((Value.slice mo M.length mc).ownBlock ≠ some bl) := hnb
  clear S11 hD k17 om17 hln hbl of1 of2 of3 nf1 nf2 nf3 hnb
  have hv9 : v.length ≤ 9 := SS.out.hdr.len.1
  have hx9 : nx.length ≤ 9 := SS.out.hdr.len.2.1
  have hl9' : l'.length ≤ 9 := SS.out.hdr.len.2.2
  have hn9' : n'.length ≤ 9 := by rw [SS.out.hn1]; split; simp; exact hx9
  have ha9 := SS.out.a9
  have hb9 := SS.out.b9
  have hn9 := SS.out.c9
  have hl9 := SS.out.l9
  have hos := SS.out.o9
  have LL3 : Hid (M.length + nx.length ≤ maxLen ∧ (M.length + nx.length) * 8 ≤ 140737488355328) := by constructor; unfold maxLen; omega; omega
  have SRC3 : Hid (Src Try.prog 1 22 (.slice f1 nx.length g1) nx.length (nx.map (Value.int .i64)) w17) := OF.out.1.row.src
  have SZ3 : Hid (w11.heap.size ≤ w17.heap.size) := K17.out.size
  have HLB : Hid (bl < w17.heap.size) := lt_of_block BL.out
  have d0 : w17.cell? ⟨bd, 0, none⟩ = some (.slice b1 v.length e1) := blk_at (SS.out.bdb) 0 rfl
  have d1 : w17.cell? ⟨bd, 1, none⟩ = some (.slice b2 n'.length e2) := blk_at (SS.out.bdb) 1 rfl
  have d2 : w17.cell? ⟨bd, 2, none⟩ = some (.slice b3 l'.length e3) := blk_at (SS.out.bdb) 2 rfl
  have t0 : w17.cell? ⟨bl, 0, none⟩ = some (.slice f1 nx.length g1) := blk_at (BL.out) 0 rfl
  have t1 : w17.cell? ⟨bl, 1, none⟩ = some (.slice f2 ln.length g2) := blk_at (BL.out) 1 rfl
  have t2 : w17.cell? ⟨bl, 2, none⟩ = some (.slice f3 l'.length g3) := blk_at (BL.out) 2 rfl
  obtain ⟨M2, HM2⟩ : ∃ M2 : List Int, Hid (M2 = M ++ nx) := ⟨_, rfl⟩
  have HML2 : Hid (M.length + nx.length = M2.length) := by show _ = _; rw [HM2.out, List.length_append]
  conv => arg 2; whnf
  go_upto_region 30 with (first | (at_builtin; go_must (refine wpList_append_src _ rfl _ _ 22 22 rfl w11.heap.size 3 j0 (.int .i64 0) 1 8 Try.underlying22 hj hy0 hy1 hy2 rfl _ _ _ rfl OM17 (.slice f1 nx.length g1) nx.length (nx.map (Value.int .i64)) rfl SRC3.out LL3.out.1 LL3.out.2 SZ3.out ?_); intro mo2 mc2 w18 ho' hg'; have HO18 : Hid (OwnInts w11.heap.size w18 mo2 mc2 M2) := (by have := ho'; rw [← List.map_append, ← HM2.out, HML2.out] at this; exact this); have HG18 : Hid (w17.grownBy w18 (Value.slice mo M.length mc).ownBlock) := hg'; rw [HML2.out]; clear ho' hg'))
  have K18 : Hid (Kept Nil w11 w18) := K17.out.grown HG18.out (own_row OM17)
  have BL18 : Hid (w18.heap[bl]? = some (.cells #[.slice f1 nx.length g1, .slice f2 ln.length g2, .slice f3 l'.length g3] 24 (0, 0))) := (HG18.out.block bl HLB.out (fun e => HNB.out e.symm)).trans BL.out
  have OG1 : Hid (OwnInts 0 w18 f1 g1 nx) := OF.out.1.far HG18.out (fun g hg e => NF.out.1 g hg e.symm)
  have OG2 : Hid (OwnInts 0 w18 f2 g2 ln) := OF.out.2.1.far HG18.out (fun g hg e => NF.out.2.1 g hg e.symm)
  have OG3 : Hid (OwnInts 0 w18 f3 g3 l') := OF.out.2.2.far HG18.out (fun g hg e => NF.out.2.2 g hg e.symm)
  have S18 : Hid (MS w bc bd oc ac bk c1 c2 c3 e1 e2 e3 a1 a2 a3 oo ao bo b1 b2 b3 v n l av bv n' l' nx os w18) := S.out.kept K18.out
  clear HG18 OM17 K17 LL3 SRC3 SZ3 OF NF BL d0 d1 d2 t0 t1 t2 HNB HLB SS
  have d0 : w18.cell? ⟨bd, 0, none⟩ = some (.slice b1 v.length e1) := blk_at (S18.out.bdb) 0 rfl
  have d1 : w18.cell? ⟨bd, 1, none⟩ = some (.slice b2 n'.length e2) := blk_at (S18.out.bdb) 1 rfl
  have d2 : w18.cell? ⟨bd, 2, none⟩ = some (.slice b3 l'.length e3) := blk_at (S18.out.bdb) 2 rfl
  have t0 : w18.cell? ⟨bl, 0, none⟩ = some (.slice f1 nx.length g1) := blk_at (BL18.out) 0 rfl
  have t1 : w18.cell? ⟨bl, 1, none⟩ = some (.slice f2 ln.length g2) := blk_at (BL18.out) 1 rfl
  have t2 : w18.cell? ⟨bl, 2, none⟩ = some (.slice f3 l'.length g3) := blk_at (BL18.out) 2 rfl
  have hm2 : M2.length ≤ 30 := by have := HML2.out; omega
  go_cut [184] (fun b wx => b = .bool false ∧ Hid (Kept Nil w18 wx))
  case first =>
    have P1 := quorum_any w18.heap.size e1 e2 e3 ac b1 b2 b3 ao v n' l' av w18 (S18.out).od.rows S18.out.oa.row (by omega) (by omega) (by omega)
    cases h1 : quo v n' av with
    | false =>
      rw [h1] at P1
      clear h1
      go_wp2_with fail
      go_fit P1
      rintro e x1 ⟨rfl, kx1⟩
      have KX1 : Hid (Kept Nil w18 x1) := kx1
      clear kx1
      go_wp2
      go_meet
      case rel => exact ⟨rfl, KX1.out⟩
    | true =>
      rw [h1] at P1
      have H1 : Hid (quo v n' av = true) := h1
      clear h1
      go_wp2_with fail
      go_fit P1
      rintro e x1 ⟨rfl, kx1⟩
      have KX1 : Hid (Kept Nil w18 x1) := kx1
      clear kx1 P1
      have BX1 : Hid (x1.heap[bl]? = some (.cells #[.slice f1 nx.length g1, .slice f2 ln.length g2, .slice f3 l'.length g3] 24 (0, 0))) := KX1.out.block _ _ BL18.out (fun x => x.elim)
      clear d0 d1 d2 t0 t1 t2
      have t0 : x1.cell? ⟨bl, 0, none⟩ = some (.slice f1 nx.length g1) := blk_at (BX1.out) 0 rfl
      have t1 : x1.cell? ⟨bl, 1, none⟩ = some (.slice f2 ln.length g2) := blk_at (BX1.out) 1 rfl
      have t2 : x1.cell? ⟨bl, 2, none⟩ = some (.slice f3 l'.length g3) := blk_at (BX1.out) 2 rfl
      have P2 := quorum_any x1.heap.size g1 g2 g3 bk f1 f2 f3 bo nx ln l' bv x1 ⟨(OG1.out.kept KX1.out).row, (OG2.out.kept KX1.out).row, (OG3.out.kept KX1.out).row⟩ (S18.out.ob.kept KX1.out).row (by omega) (by rw [HLN.out]; simp) (by omega)
      cases h2 : quo nx ln bv with
      | false =>
        rw [h2] at P2
        clear h2
        go_wp2_with fail
        go_fit P2
        rintro e x2 ⟨rfl, kx2⟩
        have KX2 : Hid (Kept Nil w18 x2) := KX1.out.trans kx2
        clear kx2
        go_wp2
        go_meet
        case rel => exact ⟨rfl, KX2.out⟩
      | true =>
        rw [h2] at P2
        have H2 : Hid (quo nx ln bv = true) := h2
        clear h2
        go_wp2_with fail
        go_fit P2
        rintro e x2 ⟨rfl, kx2⟩
        have KX2 : Hid (Kept Nil w18 x2) := KX1.out.trans kx2
        clear kx2 P2
        have P3 := meet_any _ _ _ ac bk mc2 ao bo mo2 av bv M2 x2 (S18.out.oa.kept KX2.out).row (S18.out.ob.kept KX2.out).row (HO18.out.kept KX2.out).row (by omega) (by omega) (by omega)
        rw [meets_last S18.out.hn1 S18.out.hnx H1.out H2.out (fun x hx => by rw [HM2.out]; exact List.mem_append_right _ hx)] at P3
        go_wp2_with fail
        go_fit P3
        rintro e x3 ⟨rfl, kx3⟩
        have KX3 : Hid (Kept Nil w18 x3) := KX2.out.trans kx3
        clear kx3 P3
        go_wp2
        go_meet
        case rel => exact ⟨rfl, KX3.out⟩
  case rest =>
    obtain ⟨rfl, KC4⟩ := hcut
    rename World => w19
    have S19 : Hid (MS w bc bd oc ac bk c1 c2 c3 e1 e2 e3 a1 a2 a3 oo ao bo b1 b2 b3 v n l av bv n' l' nx os w19) := S18.out.kept KC4.out
    have BL19 : Hid (w19.heap[bl]? = some (.cells #[.slice f1 nx.length g1, .slice f2 ln.length g2, .slice f3 l'.length g3] 24 (0, 0))) := KC4.out.block _ _ BL18.out (fun x => x.elim)
    have OH1 : Hid (OwnInts 0 w19 f1 g1 nx) := OG1.out.kept KC4.out
    have OH2 : Hid (OwnInts 0 w19 f2 g2 ln) := OG2.out.kept KC4.out
    have OH3 : Hid (OwnInts 0 w19 f3 g3 l') := OG3.out.kept KC4.out
    clear d0 d1 d2 t0 t1 t2 OG1 OG2 OG3 BL18 KC4 S18 HO18 HM2 HML2 K18
    go_upto_region 32 with fail
    go_cut [25] (fun b wx => b = .bool true ∧ Hid (Kept Nil w19 wx))
    case first =>
      go_wp2
      go_meet
      case rel => exact ⟨rfl, Kept.refl _ _⟩
    case rest =>
      obtain ⟨rfl, KC5⟩ := hcut
      rename World => w20
      apply_assumption
      exact HD.out w bc bd oc ac bk c1 c2 c3 e1 e2 e3 a1 a2 a3 oo ao bo b1 b2 b3 v n l av bv n' l' nx os w20 bl f1 f2 f3 g1 g2 g3 ln _ _ _ _ _ _ _ _ _ _ _ _ _ _ _ _ _ _ _ _ _ _ _ _ _ _ _ _ _ _ _ _ _ _ _ _ _ _ _ _ _ _ _ _ _ _ _ _ _ _ _ _ _ _ _ _ _ _ _ _ _ _ _ _ _ _ _ _ _ _ _ _ _ _ _ _ _ _ _ _ _ _ _ _ _ _ _ _ _ _ _ _ _ _ _ _ _ _ _ _ _ _ _ _ _ _ _ _ _ _ _ _ _ _ _ _ _ _ _ _ _ _ _ _ _ _ _ _ _ _ _ _ _ _ _ _ _ _ _ _ _ _ _ _ _ _ _ _ _ _ _ _ _ _ _ _ _ _ _ _ _ _ _ _ _ _ _ _ _ _ _ _ _ _ _ _ _ _ _ _ _ _ _ _ _ _ _ _ _ _ _ _ _ _ _ _ _ _ _ _ _ _ _ _ _ _ _ _ _ _ _ _ _ _ _ _ _ _ _ _ _ _ _ _ _ _ _ _ _ _ _ _ _ _ _ _ _ _ _ _ _ _ _ _ _ _ _ _ _ _ _ _ _ _ _ _ _ _ _ _ _ _ _ _ _ _ _ _ _ _ _ _ _ _ _ _ _ _ _ _ _ _ _ _ (S19.out.kept KC5.out) (KC5.out.block _ _ BL19.out (fun x => x.elim)) HLN.out (OH1.out.kept KC5.out) (OH2.out.kept KC5.out) (OH3.out.kept KC5.out)

end Go.Proofs.Ytijklginabipgaa
