/-
  ConfigExact, its third part: members, whether it may be, quorums.
-/
import Derived.Test.YtijklginabipgaaWExactP
import Derived.Deep.DeepCutAuto
import Derived.Deep.RegionHeld3
import Derived.Deep.CutBlock
import Derived.Deep.DeepFit
namespace Go.Proofs.Ytijklginabipgaa
open Go.RowKit

set_option maxRecDepth 1000000 in
set_option maxHeartbeats 40000000 in
theorem xpartC (hD : XPartD) : XPartC := by
  intro w B p3 p7 c1 c2 c3 d1 d2 d3 ck cm hd a1 a2 a3 x1 x2 x3 ro mo ho v n l hs os Z X e1 e2 e3 g1 g2 g3 f1 f2 f3 h1 h2 h3 p12 p18 dv dn dl gv gn gl k1 k2 v0 v4 v5 v6 v9 v10 v11 v14 v20 v23 v24 v25 v26 v27 v28 v29 v30 v31 v32 v33 v34 v35 v36 v37 v38 v39 v40 v41 v42 v43 v44 v45 v46 v47 v48 v49 v50 v51 v52 v53 v54 v55 v56 v57 v58 v59 v60 v61 v62 v63 v64 v65 v66 v67 v68 v69 v70 v71 v72 v73 v74 v75 v76 v77 v78 v79 v80 v81 v82 v83 v84 v85 v86 v87 v88 v89 v90 v91 v92 v93 v94 v95 v96 v97 v98 v99 v100 v101 v102 v103 v104 v105 v106 v107 v108 v109 v110 v111 v112 v113 v114 v115 v116 v117 v118 v119 v120 v121 v122 v123 v124 v125 v126 v127 v128 v129 v130 v131 v132 v133 v134 v135 v136 v137 v138 v139 v140 v141 v142 v143 v144 v145 v146 v147 v148 v149 v150 v151 v152 v153 v154 v155 v156 v157 v158 v159 v160 v161 v162 v163 v164 v165 v166 v167 v168 v169 v170 v171 v172 v173 v174 v175 v176 v177 v178 v179 v180 v181 v182 v183 v184 v185 v186 v187 v188 v189 v190 S0 D0
  have HPD : Hid XPartD := hD
  have SSZ : Hid (ES w B p3 p7 c1 c2 c3 d1 d2 d3 ck cm hd a1 a2 a3 x1 x2 x3 ro mo ho v n l hs os Z) := S0
  have SSX : Hid (ES w B p3 p7 c1 c2 c3 d1 d2 d3 ck cm hd a1 a2 a3 x1 x2 x3 ro mo ho v n l hs os X) := S0.kept D0.kz
  have DDX : Hid (DS Z e1 e2 e3 g1 g2 g3 f1 f2 f3 h1 h2 h3 p12 p18 dv dn dl gv gn gl X) := D0
  have h1' := S0.lv
  have h2' := S0.ln
  have h3' := S0.ll
  have h4' := S0.lo
  have h5' := S0.lh
  clear S0 D0 hD
  conv => arg 2; whnf
  dsimp only
  obtain ⟨M, HM⟩ : ∃ x, Hid (x = mem v n l) := ⟨_, rfl⟩
  have HML : M.length ≤ 4000000 := by have := mem_le v n l; rw [← HM.out] at this; omega
  have MM := membersY_any X.heap.size d1 d2 d3 x1 x2 x3 v n l X SSX.out.xr h1' h2' h3'
  rw [← HM.out] at MM
  have q0 : X.cell? ⟨p3, 0, none⟩ = some (.slice a1 v.length c1) := blk_at (SSX.out.b3) 0 rfl
  have q1 : X.cell? ⟨p3, 1, none⟩ = some (.slice a2 n.length c2) := blk_at (SSX.out.b3) 1 rfl
  have q2 : X.cell? ⟨p3, 2, none⟩ = some (.slice a3 l.length c3) := blk_at (SSX.out.b3) 2 rfl
  have j0 : X.cell? ⟨p7, 0, none⟩ = some (.slice x1 v.length d1) := blk_at (SSX.out.b7) 0 rfl
  have j1 : X.cell? ⟨p7, 1, none⟩ = some (.slice x2 n.length d2) := blk_at (SSX.out.b7) 1 rfl
  have j2 : X.cell? ⟨p7, 2, none⟩ = some (.slice x3 l.length d3) := blk_at (SSX.out.b7) 2 rfl
  go_wp2_with fail
  go_fit MM
  rintro e w1 ⟨no, nc, rfl, om, kw1⟩
  have OM : Hid (OwnInts X.heap.size w1 no nc M) := om
  have K1 : Hid (Kept Nil X w1) := kw1
  have SSw1 : Hid (ES w B p3 p7 c1 c2 c3 d1 d2 d3 ck cm hd a1 a2 a3 x1 x2 x3 ro mo ho v n l hs os w1) := SSX.out.kept kw1
  clear om kw1 MM q0 q1 q2 j0 j1 j2
  have q0 : w1.cell? ⟨p3, 0, none⟩ = some (.slice a1 v.length c1) := blk_at (SSw1.out.b3) 0 rfl
  have q1 : w1.cell? ⟨p3, 1, none⟩ = some (.slice a2 n.length c2) := blk_at (SSw1.out.b3) 1 rfl
  have q2 : w1.cell? ⟨p3, 2, none⟩ = some (.slice a3 l.length c3) := blk_at (SSw1.out.b3) 2 rfl
  have j0 : w1.cell? ⟨p7, 0, none⟩ = some (.slice x1 v.length d1) := blk_at (SSw1.out.b7) 0 rfl
  have j1 : w1.cell? ⟨p7, 1, none⟩ = some (.slice x2 n.length d2) := blk_at (SSw1.out.b7) 1 rfl
  have j2 : w1.cell? ⟨p7, 2, none⟩ = some (.slice x3 l.length d3) := blk_at (SSw1.out.b7) 2 rfl
  obtain ⟨K, HK⟩ : ∃ x, Hid (x = nineF (memF v n l) 9) := ⟨_, rfl⟩
  have HKL : K.length ≤ 9 := by rw [HK.out]; exact nineF_len _ _
  have RM := refMembers_any B c1 c2 c3 a1 a2 a3 v n l w1 SSw1.out.cr (by omega) (by omega) (by omega)
  rw [← HK.out] at RM
  go_wp2_with fail
  go_fit RM
  rintro e w2 ⟨so, sc, rfl, os2, kw2⟩
  have SI := refSameInts_any w2.heap.size w2.heap.size nc sc no so M K w2 (OM.out.kept kw2).row os2.row (by omega) (by omega)
  have K2 : Hid (Kept Nil X w2) := K1.out.trans kw2
  have OM2 : Hid (OwnInts X.heap.size w2 no nc M) := OM.out.kept kw2
  clear kw2 os2 RM OM SSw1 q0 q1 q2 j0 j1 j2
  obtain ⟨t1, HT1⟩ : ∃ t : Bool, Hid (t = decide (M = K)) := ⟨_, rfl⟩
  rw [← HT1.out] at SI
  go_wp2_with fail
  go_fit SI
  rintro e w3 ⟨rfl, kw3⟩
  have K3 : Hid (Kept Nil X w3) := K2.out.trans kw3
  have OM3 : Hid (OwnInts X.heap.size w3 no nc M) := OM2.out.kept kw3
  have SSw3 : Hid (ES w B p3 p7 c1 c2 c3 d1 d2 d3 ck cm hd a1 a2 a3 x1 x2 x3 ro mo ho v n l hs os w3) := SSX.out.kept K3.out
  clear kw3 OM2 K2 SI
  have q0 : w3.cell? ⟨p3, 0, none⟩ = some (.slice a1 v.length c1) := blk_at (SSw3.out.b3) 0 rfl
  have q1 : w3.cell? ⟨p3, 1, none⟩ = some (.slice a2 n.length c2) := blk_at (SSw3.out.b3) 1 rfl
  have q2 : w3.cell? ⟨p3, 2, none⟩ = some (.slice a3 l.length c3) := blk_at (SSw3.out.b3) 2 rfl
  have j0 : w3.cell? ⟨p7, 0, none⟩ = some (.slice x1 v.length d1) := blk_at (SSw3.out.b7) 0 rfl
  have j1 : w3.cell? ⟨p7, 1, none⟩ = some (.slice x2 n.length d2) := blk_at (SSw3.out.b7) 1 rfl
  have j2 : w3.cell? ⟨p7, 2, none⟩ = some (.slice x3 l.length d3) := blk_at (SSw3.out.b7) 2 rfl
  obtain ⟨ok, HOK⟩ : ∃ b : Bool, Hid (b = isCfg v n l) := ⟨_, rfl⟩
  have VA := fun (Y : World) (hY : ES w B p3 p7 c1 c2 c3 d1 d2 d3 ck cm hd a1 a2 a3 x1 x2 x3 ro mo ho v n l hs os Y) => valid_any Y.heap.size d1 d2 d3 x1 x2 x3 v n l Y hY.xr (by omega) (by omega) (by omega)
  have IC := fun (Y : World) (hY : ES w B p3 p7 c1 c2 c3 d1 d2 d3 ck cm hd a1 a2 a3 x1 x2 x3 ro mo ho v n l hs os Y) => refIsConfig_any B c1 c2 c3 a1 a2 a3 v n l Y hY.cr (by omega) (by omega) (by omega)
  rw [← HOK.out] at VA IC
  obtain ⟨bq, HBQ⟩ : ∃ b : Bool, Hid (b = quo v n hs) := ⟨_, rfl⟩
  have QX := fun (Y : World) (hY : ES w B p3 p7 c1 c2 c3 d1 d2 d3 ck cm hd a1 a2 a3 x1 x2 x3 ro mo ho v n l hs os Y) => quorumX_any Y.heap.size d1 d2 d3 hd x1 x2 x3 ho v n l hs Y hY.xr hY.hx.own.row (by omega) (by omega) (by omega)
  have RQ := fun (Y : World) (hY : ES w B p3 p7 c1 c2 c3 d1 d2 d3 ck cm hd a1 a2 a3 x1 x2 x3 ro mo ho v n l hs os Y) => refQuorum_any B c1 c2 c3 cm a1 a2 a3 mo v n l hs Y hY.cr hY.hr (by omega) (by omega) (by omega)
  rw [← HBQ.out] at QX RQ
  obtain ⟨bl, HBL⟩ : ∃ b : Bool, Hid (b = !(quo v n (outZ hs (mem v n l)))) := ⟨_, rfl⟩
  obtain ⟨bk, HBK⟩ : ∃ b : Bool, Hid (b = !quo v n (nineF (fun k => !hasZ hs k) 9)) := ⟨_, rfl⟩
  have LX := fun (Y : World) (hY : ES w B p3 p7 c1 c2 c3 d1 d2 d3 ck cm hd a1 a2 a3 x1 x2 x3 ro mo ho v n l hs os Y) => lost_any Y.heap.size d1 d2 d3 hd x1 x2 x3 ho v n l hs Y hY.xr hY.hx.own.row (Nat.le_refl _) (by omega) (by omega) (by omega) (by omega)
  have RX := fun (Y : World) (hY : ES w B p3 p7 c1 c2 c3 d1 d2 d3 ck cm hd a1 a2 a3 x1 x2 x3 ro mo ho v n l hs os Y) => refLost_any B c1 c2 c3 cm a1 a2 a3 mo v n l hs Y hY.cr hY.hr (by omega) (by omega) (by omega)
  rw [← HBL.out] at LX
  rw [← HBK.out] at RX
  go_upto_region 16 with fail
  go_cut [25] (fun b wx => b = .bool true ∧ Hid (Kept Nil w3 wx))
  case first =>
    cases ok with
    | false =>
      have SSD : Hid (ES w B p3 p7 c1 c2 c3 d1 d2 d3 ck cm hd a1 a2 a3 x1 x2 x3 ro mo ho v n l hs os w3.drew) := SSw3.out.kept (Kept.refl _ _).drew
      have sD : w3.drew.cell? ⟨p7, 0, none⟩ = some (.slice x1 v.length d1) ∧ w3.drew.cell? ⟨p7, 1, none⟩ = some (.slice x2 n.length d2) ∧ w3.drew.cell? ⟨p7, 2, none⟩ = some (.slice x3 l.length d3) ∧ w3.drew.cell? ⟨p3, 0, none⟩ = some (.slice a1 v.length c1) ∧ w3.drew.cell? ⟨p3, 1, none⟩ = some (.slice a2 n.length c2) ∧ w3.drew.cell? ⟨p3, 2, none⟩ = some (.slice a3 l.length c3) := ⟨blk_at SSD.out.b7 0 rfl, blk_at SSD.out.b7 1 rfl, blk_at SSD.out.b7 2 rfl, blk_at SSD.out.b3 0 rfl, blk_at SSD.out.b3 1 rfl, blk_at SSD.out.b3 2 rfl⟩
      go_region_held3 (fun w' => w'.cell? ⟨p7, 0, none⟩ = some (.slice x1 v.length d1) ∧ w'.cell? ⟨p7, 1, none⟩ = some (.slice x2 n.length d2) ∧ w'.cell? ⟨p7, 2, none⟩ = some (.slice x3 l.length d3) ∧ w'.cell? ⟨p3, 0, none⟩ = some (.slice a1 v.length c1) ∧ w'.cell? ⟨p3, 1, none⟩ = some (.slice a2 n.length c2) ∧ w'.cell? ⟨p3, 2, none⟩ = some (.slice a3 l.length c3)) (first | assumption | go_keep) (first | (go_at_call 20; go_fit (VA w3.drew SSD.out); rintro e wa ⟨rfl, kA⟩; have KA : Hid (Kept Nil w3 wa) := (Kept.refl _ _).drew.trans kA; have SA : Hid (ES w B p3 p7 c1 c2 c3 d1 d2 d3 ck cm hd a1 a2 a3 x1 x2 x3 ro mo ho v n l hs os wa) := SSw3.out.kept KA.out; have sA : wa.cell? ⟨p7, 0, none⟩ = some (.slice x1 v.length d1) ∧ wa.cell? ⟨p7, 1, none⟩ = some (.slice x2 n.length d2) ∧ wa.cell? ⟨p7, 2, none⟩ = some (.slice x3 l.length d3) ∧ wa.cell? ⟨p3, 0, none⟩ = some (.slice a1 v.length c1) ∧ wa.cell? ⟨p3, 1, none⟩ = some (.slice a2 n.length c2) ∧ wa.cell? ⟨p3, 2, none⟩ = some (.slice a3 l.length c3) := ⟨blk_at SA.out.b7 0 rfl, blk_at SA.out.b7 1 rfl, blk_at SA.out.b7 2 rfl, blk_at SA.out.b3 0 rfl, blk_at SA.out.b3 1 rfl, blk_at SA.out.b3 2 rfl⟩; clear kA) | (go_at_call 21; go_fit (IC wa SA.out); rintro e wb ⟨rfl, kB⟩; have KB : Hid (Kept Nil w3 wb) := KA.out.trans kB; have SB : Hid (ES w B p3 p7 c1 c2 c3 d1 d2 d3 ck cm hd a1 a2 a3 x1 x2 x3 ro mo ho v n l hs os wb) := SSw3.out.kept KB.out; have sB : wb.cell? ⟨p7, 0, none⟩ = some (.slice x1 v.length d1) ∧ wb.cell? ⟨p7, 1, none⟩ = some (.slice x2 n.length d2) ∧ wb.cell? ⟨p7, 2, none⟩ = some (.slice x3 l.length d3) ∧ wb.cell? ⟨p3, 0, none⟩ = some (.slice a1 v.length c1) ∧ wb.cell? ⟨p3, 1, none⟩ = some (.slice a2 n.length c2) ∧ wb.cell? ⟨p3, 2, none⟩ = some (.slice a3 l.length c3) := ⟨blk_at SB.out.b7 0 rfl, blk_at SB.out.b7 1 rfl, blk_at SB.out.b7 2 rfl, blk_at SB.out.b3 0 rfl, blk_at SB.out.b3 1 rfl, blk_at SB.out.b3 2 rfl⟩; clear kB))
      all_goals
        go_wp2
        go_meet
        case rel => exact ⟨rfl, KB.out⟩
    | true =>
      have SSD : Hid (ES w B p3 p7 c1 c2 c3 d1 d2 d3 ck cm hd a1 a2 a3 x1 x2 x3 ro mo ho v n l hs os w3.drew) := SSw3.out.kept (Kept.refl _ _).drew
      have sD : w3.drew.cell? ⟨p7, 0, none⟩ = some (.slice x1 v.length d1) ∧ w3.drew.cell? ⟨p7, 1, none⟩ = some (.slice x2 n.length d2) ∧ w3.drew.cell? ⟨p7, 2, none⟩ = some (.slice x3 l.length d3) ∧ w3.drew.cell? ⟨p3, 0, none⟩ = some (.slice a1 v.length c1) ∧ w3.drew.cell? ⟨p3, 1, none⟩ = some (.slice a2 n.length c2) ∧ w3.drew.cell? ⟨p3, 2, none⟩ = some (.slice a3 l.length c3) := ⟨blk_at SSD.out.b7 0 rfl, blk_at SSD.out.b7 1 rfl, blk_at SSD.out.b7 2 rfl, blk_at SSD.out.b3 0 rfl, blk_at SSD.out.b3 1 rfl, blk_at SSD.out.b3 2 rfl⟩
      go_region_held3 (fun w' => w'.cell? ⟨p7, 0, none⟩ = some (.slice x1 v.length d1) ∧ w'.cell? ⟨p7, 1, none⟩ = some (.slice x2 n.length d2) ∧ w'.cell? ⟨p7, 2, none⟩ = some (.slice x3 l.length d3) ∧ w'.cell? ⟨p3, 0, none⟩ = some (.slice a1 v.length c1) ∧ w'.cell? ⟨p3, 1, none⟩ = some (.slice a2 n.length c2) ∧ w'.cell? ⟨p3, 2, none⟩ = some (.slice a3 l.length c3)) (first | assumption | go_keep) (first | (go_at_call 20; go_fit (VA w3.drew SSD.out); rintro e wa ⟨rfl, kA⟩; have KA : Hid (Kept Nil w3 wa) := (Kept.refl _ _).drew.trans kA; have SA : Hid (ES w B p3 p7 c1 c2 c3 d1 d2 d3 ck cm hd a1 a2 a3 x1 x2 x3 ro mo ho v n l hs os wa) := SSw3.out.kept KA.out; have sA : wa.cell? ⟨p7, 0, none⟩ = some (.slice x1 v.length d1) ∧ wa.cell? ⟨p7, 1, none⟩ = some (.slice x2 n.length d2) ∧ wa.cell? ⟨p7, 2, none⟩ = some (.slice x3 l.length d3) ∧ wa.cell? ⟨p3, 0, none⟩ = some (.slice a1 v.length c1) ∧ wa.cell? ⟨p3, 1, none⟩ = some (.slice a2 n.length c2) ∧ wa.cell? ⟨p3, 2, none⟩ = some (.slice a3 l.length c3) := ⟨blk_at SA.out.b7 0 rfl, blk_at SA.out.b7 1 rfl, blk_at SA.out.b7 2 rfl, blk_at SA.out.b3 0 rfl, blk_at SA.out.b3 1 rfl, blk_at SA.out.b3 2 rfl⟩; clear kA) | (go_at_call 21; go_fit (IC wa SA.out); rintro e wb ⟨rfl, kB⟩; have KB : Hid (Kept Nil w3 wb) := KA.out.trans kB; have SB : Hid (ES w B p3 p7 c1 c2 c3 d1 d2 d3 ck cm hd a1 a2 a3 x1 x2 x3 ro mo ho v n l hs os wb) := SSw3.out.kept KB.out; have sB : wb.cell? ⟨p7, 0, none⟩ = some (.slice x1 v.length d1) ∧ wb.cell? ⟨p7, 1, none⟩ = some (.slice x2 n.length d2) ∧ wb.cell? ⟨p7, 2, none⟩ = some (.slice x3 l.length d3) ∧ wb.cell? ⟨p3, 0, none⟩ = some (.slice a1 v.length c1) ∧ wb.cell? ⟨p3, 1, none⟩ = some (.slice a2 n.length c2) ∧ wb.cell? ⟨p3, 2, none⟩ = some (.slice a3 l.length c3) := ⟨blk_at SB.out.b7 0 rfl, blk_at SB.out.b7 1 rfl, blk_at SB.out.b7 2 rfl, blk_at SB.out.b3 0 rfl, blk_at SB.out.b3 1 rfl, blk_at SB.out.b3 2 rfl⟩; clear kB))
      all_goals
        go_wp2
        go_meet
        case rel => exact ⟨rfl, KB.out⟩
  case rest =>
    obtain ⟨rfl, KC4⟩ := hcut
    rename World => w4
    have K4 : Hid (Kept Nil X w4) := K3.out.trans KC4.out
    have OM4 : Hid (OwnInts X.heap.size w4 no nc M) := OM3.out.kept KC4.out
    have SSw4 : Hid (ES w B p3 p7 c1 c2 c3 d1 d2 d3 ck cm hd a1 a2 a3 x1 x2 x3 ro mo ho v n l hs os w4) := SSX.out.kept K4.out
    clear q0 q1 q2 j0 j1 j2 KC4 OM3 K3 SSw3 VA IC
    have q0 : w4.cell? ⟨p3, 0, none⟩ = some (.slice a1 v.length c1) := blk_at (SSw4.out.b3) 0 rfl
    have q1 : w4.cell? ⟨p3, 1, none⟩ = some (.slice a2 n.length c2) := blk_at (SSw4.out.b3) 1 rfl
    have q2 : w4.cell? ⟨p3, 2, none⟩ = some (.slice a3 l.length c3) := blk_at (SSw4.out.b3) 2 rfl
    have j0 : w4.cell? ⟨p7, 0, none⟩ = some (.slice x1 v.length d1) := blk_at (SSw4.out.b7) 0 rfl
    have j1 : w4.cell? ⟨p7, 1, none⟩ = some (.slice x2 n.length d2) := blk_at (SSw4.out.b7) 1 rfl
    have j2 : w4.cell? ⟨p7, 2, none⟩ = some (.slice x3 l.length d3) := blk_at (SSw4.out.b7) 2 rfl
    go_upto_region 17 with fail
    go_cut [26] (fun b wx => b = .bool true ∧ Hid (Kept Nil w4 wx))
    case first =>
      cases bq with
      | false =>
        have SSD : Hid (ES w B p3 p7 c1 c2 c3 d1 d2 d3 ck cm hd a1 a2 a3 x1 x2 x3 ro mo ho v n l hs os w4.drew) := SSw4.out.kept (Kept.refl _ _).drew
        have sD : w4.drew.cell? ⟨p7, 0, none⟩ = some (.slice x1 v.length d1) ∧ w4.drew.cell? ⟨p7, 1, none⟩ = some (.slice x2 n.length d2) ∧ w4.drew.cell? ⟨p7, 2, none⟩ = some (.slice x3 l.length d3) ∧ w4.drew.cell? ⟨p3, 0, none⟩ = some (.slice a1 v.length c1) ∧ w4.drew.cell? ⟨p3, 1, none⟩ = some (.slice a2 n.length c2) ∧ w4.drew.cell? ⟨p3, 2, none⟩ = some (.slice a3 l.length c3) := ⟨blk_at SSD.out.b7 0 rfl, blk_at SSD.out.b7 1 rfl, blk_at SSD.out.b7 2 rfl, blk_at SSD.out.b3 0 rfl, blk_at SSD.out.b3 1 rfl, blk_at SSD.out.b3 2 rfl⟩
        go_region_held3 (fun w' => w'.cell? ⟨p7, 0, none⟩ = some (.slice x1 v.length d1) ∧ w'.cell? ⟨p7, 1, none⟩ = some (.slice x2 n.length d2) ∧ w'.cell? ⟨p7, 2, none⟩ = some (.slice x3 l.length d3) ∧ w'.cell? ⟨p3, 0, none⟩ = some (.slice a1 v.length c1) ∧ w'.cell? ⟨p3, 1, none⟩ = some (.slice a2 n.length c2) ∧ w'.cell? ⟨p3, 2, none⟩ = some (.slice a3 l.length c3)) (first | assumption | go_keep) (first | (go_at_call 22; go_fit (QX w4.drew SSD.out); rintro e wa ⟨rfl, kA⟩; have KA : Hid (Kept Nil w4 wa) := (Kept.refl _ _).drew.trans kA; have SA : Hid (ES w B p3 p7 c1 c2 c3 d1 d2 d3 ck cm hd a1 a2 a3 x1 x2 x3 ro mo ho v n l hs os wa) := SSw4.out.kept KA.out; have sA : wa.cell? ⟨p7, 0, none⟩ = some (.slice x1 v.length d1) ∧ wa.cell? ⟨p7, 1, none⟩ = some (.slice x2 n.length d2) ∧ wa.cell? ⟨p7, 2, none⟩ = some (.slice x3 l.length d3) ∧ wa.cell? ⟨p3, 0, none⟩ = some (.slice a1 v.length c1) ∧ wa.cell? ⟨p3, 1, none⟩ = some (.slice a2 n.length c2) ∧ wa.cell? ⟨p3, 2, none⟩ = some (.slice a3 l.length c3) := ⟨blk_at SA.out.b7 0 rfl, blk_at SA.out.b7 1 rfl, blk_at SA.out.b7 2 rfl, blk_at SA.out.b3 0 rfl, blk_at SA.out.b3 1 rfl, blk_at SA.out.b3 2 rfl⟩; clear kA) | (go_at_call 23; go_fit (RQ wa SA.out); rintro e wb ⟨rfl, kB⟩; have KB : Hid (Kept Nil w4 wb) := KA.out.trans kB; have SB : Hid (ES w B p3 p7 c1 c2 c3 d1 d2 d3 ck cm hd a1 a2 a3 x1 x2 x3 ro mo ho v n l hs os wb) := SSw4.out.kept KB.out; have sB : wb.cell? ⟨p7, 0, none⟩ = some (.slice x1 v.length d1) ∧ wb.cell? ⟨p7, 1, none⟩ = some (.slice x2 n.length d2) ∧ wb.cell? ⟨p7, 2, none⟩ = some (.slice x3 l.length d3) ∧ wb.cell? ⟨p3, 0, none⟩ = some (.slice a1 v.length c1) ∧ wb.cell? ⟨p3, 1, none⟩ = some (.slice a2 n.length c2) ∧ wb.cell? ⟨p3, 2, none⟩ = some (.slice a3 l.length c3) := ⟨blk_at SB.out.b7 0 rfl, blk_at SB.out.b7 1 rfl, blk_at SB.out.b7 2 rfl, blk_at SB.out.b3 0 rfl, blk_at SB.out.b3 1 rfl, blk_at SB.out.b3 2 rfl⟩; clear kB))
        all_goals
          go_wp2
          go_meet
          case rel => exact ⟨rfl, KB.out⟩
      | true =>
        have SSD : Hid (ES w B p3 p7 c1 c2 c3 d1 d2 d3 ck cm hd a1 a2 a3 x1 x2 x3 ro mo ho v n l hs os w4.drew) := SSw4.out.kept (Kept.refl _ _).drew
        have sD : w4.drew.cell? ⟨p7, 0, none⟩ = some (.slice x1 v.length d1) ∧ w4.drew.cell? ⟨p7, 1, none⟩ = some (.slice x2 n.length d2) ∧ w4.drew.cell? ⟨p7, 2, none⟩ = some (.slice x3 l.length d3) ∧ w4.drew.cell? ⟨p3, 0, none⟩ = some (.slice a1 v.length c1) ∧ w4.drew.cell? ⟨p3, 1, none⟩ = some (.slice a2 n.length c2) ∧ w4.drew.cell? ⟨p3, 2, none⟩ = some (.slice a3 l.length c3) := ⟨blk_at SSD.out.b7 0 rfl, blk_at SSD.out.b7 1 rfl, blk_at SSD.out.b7 2 rfl, blk_at SSD.out.b3 0 rfl, blk_at SSD.out.b3 1 rfl, blk_at SSD.out.b3 2 rfl⟩
        go_region_held3 (fun w' => w'.cell? ⟨p7, 0, none⟩ = some (.slice x1 v.length d1) ∧ w'.cell? ⟨p7, 1, none⟩ = some (.slice x2 n.length d2) ∧ w'.cell? ⟨p7, 2, none⟩ = some (.slice x3 l.length d3) ∧ w'.cell? ⟨p3, 0, none⟩ = some (.slice a1 v.length c1) ∧ w'.cell? ⟨p3, 1, none⟩ = some (.slice a2 n.length c2) ∧ w'.cell? ⟨p3, 2, none⟩ = some (.slice a3 l.length c3)) (first | assumption | go_keep) (first | (go_at_call 22; go_fit (QX w4.drew SSD.out); rintro e wa ⟨rfl, kA⟩; have KA : Hid (Kept Nil w4 wa) := (Kept.refl _ _).drew.trans kA; have SA : Hid (ES w B p3 p7 c1 c2 c3 d1 d2 d3 ck cm hd a1 a2 a3 x1 x2 x3 ro mo ho v n l hs os wa) := SSw4.out.kept KA.out; have sA : wa.cell? ⟨p7, 0, none⟩ = some (.slice x1 v.length d1) ∧ wa.cell? ⟨p7, 1, none⟩ = some (.slice x2 n.length d2) ∧ wa.cell? ⟨p7, 2, none⟩ = some (.slice x3 l.length d3) ∧ wa.cell? ⟨p3, 0, none⟩ = some (.slice a1 v.length c1) ∧ wa.cell? ⟨p3, 1, none⟩ = some (.slice a2 n.length c2) ∧ wa.cell? ⟨p3, 2, none⟩ = some (.slice a3 l.length c3) := ⟨blk_at SA.out.b7 0 rfl, blk_at SA.out.b7 1 rfl, blk_at SA.out.b7 2 rfl, blk_at SA.out.b3 0 rfl, blk_at SA.out.b3 1 rfl, blk_at SA.out.b3 2 rfl⟩; clear kA) | (go_at_call 23; go_fit (RQ wa SA.out); rintro e wb ⟨rfl, kB⟩; have KB : Hid (Kept Nil w4 wb) := KA.out.trans kB; have SB : Hid (ES w B p3 p7 c1 c2 c3 d1 d2 d3 ck cm hd a1 a2 a3 x1 x2 x3 ro mo ho v n l hs os wb) := SSw4.out.kept KB.out; have sB : wb.cell? ⟨p7, 0, none⟩ = some (.slice x1 v.length d1) ∧ wb.cell? ⟨p7, 1, none⟩ = some (.slice x2 n.length d2) ∧ wb.cell? ⟨p7, 2, none⟩ = some (.slice x3 l.length d3) ∧ wb.cell? ⟨p3, 0, none⟩ = some (.slice a1 v.length c1) ∧ wb.cell? ⟨p3, 1, none⟩ = some (.slice a2 n.length c2) ∧ wb.cell? ⟨p3, 2, none⟩ = some (.slice a3 l.length c3) := ⟨blk_at SB.out.b7 0 rfl, blk_at SB.out.b7 1 rfl, blk_at SB.out.b7 2 rfl, blk_at SB.out.b3 0 rfl, blk_at SB.out.b3 1 rfl, blk_at SB.out.b3 2 rfl⟩; clear kB))
        all_goals
          go_wp2
          go_meet
          case rel => exact ⟨rfl, KB.out⟩
    case rest =>
      obtain ⟨rfl, KC5⟩ := hcut
      rename World => w5
      have K5 : Hid (Kept Nil X w5) := K4.out.trans KC5.out
      have OM5 : Hid (OwnInts X.heap.size w5 no nc M) := OM4.out.kept KC5.out
      have SSw5 : Hid (ES w B p3 p7 c1 c2 c3 d1 d2 d3 ck cm hd a1 a2 a3 x1 x2 x3 ro mo ho v n l hs os w5) := SSX.out.kept K5.out
      clear q0 q1 q2 j0 j1 j2 KC5 OM4 K4 SSw4 QX RQ
      have q0 : w5.cell? ⟨p3, 0, none⟩ = some (.slice a1 v.length c1) := blk_at (SSw5.out.b3) 0 rfl
      have q1 : w5.cell? ⟨p3, 1, none⟩ = some (.slice a2 n.length c2) := blk_at (SSw5.out.b3) 1 rfl
      have q2 : w5.cell? ⟨p3, 2, none⟩ = some (.slice a3 l.length c3) := blk_at (SSw5.out.b3) 2 rfl
      have j0 : w5.cell? ⟨p7, 0, none⟩ = some (.slice x1 v.length d1) := blk_at (SSw5.out.b7) 0 rfl
      have j1 : w5.cell? ⟨p7, 1, none⟩ = some (.slice x2 n.length d2) := blk_at (SSw5.out.b7) 1 rfl
      have j2 : w5.cell? ⟨p7, 2, none⟩ = some (.slice x3 l.length d3) := blk_at (SSw5.out.b7) 2 rfl
      go_upto_region 18 with fail
      go_cut [27] (fun b wx => ∃ t3 : Bool, b = .bool t3 ∧ Hid (bl = bk → t3 = true) ∧ Hid (Kept Nil w5 wx))
      case first =>
        cases bl with
        | false =>
          cases bk with
          | false =>
            have SSD : Hid (ES w B p3 p7 c1 c2 c3 d1 d2 d3 ck cm hd a1 a2 a3 x1 x2 x3 ro mo ho v n l hs os w5.drew) := SSw5.out.kept (Kept.refl _ _).drew
            have sD : w5.drew.cell? ⟨p7, 0, none⟩ = some (.slice x1 v.length d1) ∧ w5.drew.cell? ⟨p7, 1, none⟩ = some (.slice x2 n.length d2) ∧ w5.drew.cell? ⟨p7, 2, none⟩ = some (.slice x3 l.length d3) ∧ w5.drew.cell? ⟨p3, 0, none⟩ = some (.slice a1 v.length c1) ∧ w5.drew.cell? ⟨p3, 1, none⟩ = some (.slice a2 n.length c2) ∧ w5.drew.cell? ⟨p3, 2, none⟩ = some (.slice a3 l.length c3) := ⟨blk_at SSD.out.b7 0 rfl, blk_at SSD.out.b7 1 rfl, blk_at SSD.out.b7 2 rfl, blk_at SSD.out.b3 0 rfl, blk_at SSD.out.b3 1 rfl, blk_at SSD.out.b3 2 rfl⟩
            go_region_held3 (fun w' => w'.cell? ⟨p7, 0, none⟩ = some (.slice x1 v.length d1) ∧ w'.cell? ⟨p7, 1, none⟩ = some (.slice x2 n.length d2) ∧ w'.cell? ⟨p7, 2, none⟩ = some (.slice x3 l.length d3) ∧ w'.cell? ⟨p3, 0, none⟩ = some (.slice a1 v.length c1) ∧ w'.cell? ⟨p3, 1, none⟩ = some (.slice a2 n.length c2) ∧ w'.cell? ⟨p3, 2, none⟩ = some (.slice a3 l.length c3)) (first | assumption | go_keep) (first | (go_at_call 24; go_fit (LX w5.drew SSD.out); rintro e wa ⟨rfl, kA⟩; have KA : Hid (Kept Nil w5 wa) := (Kept.refl _ _).drew.trans kA; have SA : Hid (ES w B p3 p7 c1 c2 c3 d1 d2 d3 ck cm hd a1 a2 a3 x1 x2 x3 ro mo ho v n l hs os wa) := SSw5.out.kept KA.out; have sA : wa.cell? ⟨p7, 0, none⟩ = some (.slice x1 v.length d1) ∧ wa.cell? ⟨p7, 1, none⟩ = some (.slice x2 n.length d2) ∧ wa.cell? ⟨p7, 2, none⟩ = some (.slice x3 l.length d3) ∧ wa.cell? ⟨p3, 0, none⟩ = some (.slice a1 v.length c1) ∧ wa.cell? ⟨p3, 1, none⟩ = some (.slice a2 n.length c2) ∧ wa.cell? ⟨p3, 2, none⟩ = some (.slice a3 l.length c3) := ⟨blk_at SA.out.b7 0 rfl, blk_at SA.out.b7 1 rfl, blk_at SA.out.b7 2 rfl, blk_at SA.out.b3 0 rfl, blk_at SA.out.b3 1 rfl, blk_at SA.out.b3 2 rfl⟩; clear kA) | (go_at_call 25; go_fit (RX wa SA.out); rintro e wb ⟨rfl, kB⟩; have KB : Hid (Kept Nil w5 wb) := KA.out.trans kB; have SB : Hid (ES w B p3 p7 c1 c2 c3 d1 d2 d3 ck cm hd a1 a2 a3 x1 x2 x3 ro mo ho v n l hs os wb) := SSw5.out.kept KB.out; have sB : wb.cell? ⟨p7, 0, none⟩ = some (.slice x1 v.length d1) ∧ wb.cell? ⟨p7, 1, none⟩ = some (.slice x2 n.length d2) ∧ wb.cell? ⟨p7, 2, none⟩ = some (.slice x3 l.length d3) ∧ wb.cell? ⟨p3, 0, none⟩ = some (.slice a1 v.length c1) ∧ wb.cell? ⟨p3, 1, none⟩ = some (.slice a2 n.length c2) ∧ wb.cell? ⟨p3, 2, none⟩ = some (.slice a3 l.length c3) := ⟨blk_at SB.out.b7 0 rfl, blk_at SB.out.b7 1 rfl, blk_at SB.out.b7 2 rfl, blk_at SB.out.b3 0 rfl, blk_at SB.out.b3 1 rfl, blk_at SB.out.b3 2 rfl⟩; clear kB))
            all_goals
              go_wp2
              go_meet
              case rel => exact ⟨true, rfl, fun _ => rfl, KB.out⟩
          | true =>
            have SSD : Hid (ES w B p3 p7 c1 c2 c3 d1 d2 d3 ck cm hd a1 a2 a3 x1 x2 x3 ro mo ho v n l hs os w5.drew) := SSw5.out.kept (Kept.refl _ _).drew
            have sD : w5.drew.cell? ⟨p7, 0, none⟩ = some (.slice x1 v.length d1) ∧ w5.drew.cell? ⟨p7, 1, none⟩ = some (.slice x2 n.length d2) ∧ w5.drew.cell? ⟨p7, 2, none⟩ = some (.slice x3 l.length d3) ∧ w5.drew.cell? ⟨p3, 0, none⟩ = some (.slice a1 v.length c1) ∧ w5.drew.cell? ⟨p3, 1, none⟩ = some (.slice a2 n.length c2) ∧ w5.drew.cell? ⟨p3, 2, none⟩ = some (.slice a3 l.length c3) := ⟨blk_at SSD.out.b7 0 rfl, blk_at SSD.out.b7 1 rfl, blk_at SSD.out.b7 2 rfl, blk_at SSD.out.b3 0 rfl, blk_at SSD.out.b3 1 rfl, blk_at SSD.out.b3 2 rfl⟩
            go_region_held3 (fun w' => w'.cell? ⟨p7, 0, none⟩ = some (.slice x1 v.length d1) ∧ w'.cell? ⟨p7, 1, none⟩ = some (.slice x2 n.length d2) ∧ w'.cell? ⟨p7, 2, none⟩ = some (.slice x3 l.length d3) ∧ w'.cell? ⟨p3, 0, none⟩ = some (.slice a1 v.length c1) ∧ w'.cell? ⟨p3, 1, none⟩ = some (.slice a2 n.length c2) ∧ w'.cell? ⟨p3, 2, none⟩ = some (.slice a3 l.length c3)) (first | assumption | go_keep) (first | (go_at_call 24; go_fit (LX w5.drew SSD.out); rintro e wa ⟨rfl, kA⟩; have KA : Hid (Kept Nil w5 wa) := (Kept.refl _ _).drew.trans kA; have SA : Hid (ES w B p3 p7 c1 c2 c3 d1 d2 d3 ck cm hd a1 a2 a3 x1 x2 x3 ro mo ho v n l hs os wa) := SSw5.out.kept KA.out; have sA : wa.cell? ⟨p7, 0, none⟩ = some (.slice x1 v.length d1) ∧ wa.cell? ⟨p7, 1, none⟩ = some (.slice x2 n.length d2) ∧ wa.cell? ⟨p7, 2, none⟩ = some (.slice x3 l.length d3) ∧ wa.cell? ⟨p3, 0, none⟩ = some (.slice a1 v.length c1) ∧ wa.cell? ⟨p3, 1, none⟩ = some (.slice a2 n.length c2) ∧ wa.cell? ⟨p3, 2, none⟩ = some (.slice a3 l.length c3) := ⟨blk_at SA.out.b7 0 rfl, blk_at SA.out.b7 1 rfl, blk_at SA.out.b7 2 rfl, blk_at SA.out.b3 0 rfl, blk_at SA.out.b3 1 rfl, blk_at SA.out.b3 2 rfl⟩; clear kA) | (go_at_call 25; go_fit (RX wa SA.out); rintro e wb ⟨rfl, kB⟩; have KB : Hid (Kept Nil w5 wb) := KA.out.trans kB; have SB : Hid (ES w B p3 p7 c1 c2 c3 d1 d2 d3 ck cm hd a1 a2 a3 x1 x2 x3 ro mo ho v n l hs os wb) := SSw5.out.kept KB.out; have sB : wb.cell? ⟨p7, 0, none⟩ = some (.slice x1 v.length d1) ∧ wb.cell? ⟨p7, 1, none⟩ = some (.slice x2 n.length d2) ∧ wb.cell? ⟨p7, 2, none⟩ = some (.slice x3 l.length d3) ∧ wb.cell? ⟨p3, 0, none⟩ = some (.slice a1 v.length c1) ∧ wb.cell? ⟨p3, 1, none⟩ = some (.slice a2 n.length c2) ∧ wb.cell? ⟨p3, 2, none⟩ = some (.slice a3 l.length c3) := ⟨blk_at SB.out.b7 0 rfl, blk_at SB.out.b7 1 rfl, blk_at SB.out.b7 2 rfl, blk_at SB.out.b3 0 rfl, blk_at SB.out.b3 1 rfl, blk_at SB.out.b3 2 rfl⟩; clear kB))
            all_goals
              go_wp2
              go_meet
              case rel => exact ⟨false, rfl, fun (h : false = true) => h, KB.out⟩
        | true =>
          cases bk with
          | false =>
            have SSD : Hid (ES w B p3 p7 c1 c2 c3 d1 d2 d3 ck cm hd a1 a2 a3 x1 x2 x3 ro mo ho v n l hs os w5.drew) := SSw5.out.kept (Kept.refl _ _).drew
            have sD : w5.drew.cell? ⟨p7, 0, none⟩ = some (.slice x1 v.length d1) ∧ w5.drew.cell? ⟨p7, 1, none⟩ = some (.slice x2 n.length d2) ∧ w5.drew.cell? ⟨p7, 2, none⟩ = some (.slice x3 l.length d3) ∧ w5.drew.cell? ⟨p3, 0, none⟩ = some (.slice a1 v.length c1) ∧ w5.drew.cell? ⟨p3, 1, none⟩ = some (.slice a2 n.length c2) ∧ w5.drew.cell? ⟨p3, 2, none⟩ = some (.slice a3 l.length c3) := ⟨blk_at SSD.out.b7 0 rfl, blk_at SSD.out.b7 1 rfl, blk_at SSD.out.b7 2 rfl, blk_at SSD.out.b3 0 rfl, blk_at SSD.out.b3 1 rfl, blk_at SSD.out.b3 2 rfl⟩
            go_region_held3 (fun w' => w'.cell? ⟨p7, 0, none⟩ = some (.slice x1 v.length d1) ∧ w'.cell? ⟨p7, 1, none⟩ = some (.slice x2 n.length d2) ∧ w'.cell? ⟨p7, 2, none⟩ = some (.slice x3 l.length d3) ∧ w'.cell? ⟨p3, 0, none⟩ = some (.slice a1 v.length c1) ∧ w'.cell? ⟨p3, 1, none⟩ = some (.slice a2 n.length c2) ∧ w'.cell? ⟨p3, 2, none⟩ = some (.slice a3 l.length c3)) (first | assumption | go_keep) (first | (go_at_call 24; go_fit (LX w5.drew SSD.out); rintro e wa ⟨rfl, kA⟩; have KA : Hid (Kept Nil w5 wa) := (Kept.refl _ _).drew.trans kA; have SA : Hid (ES w B p3 p7 c1 c2 c3 d1 d2 d3 ck cm hd a1 a2 a3 x1 x2 x3 ro mo ho v n l hs os wa) := SSw5.out.kept KA.out; have sA : wa.cell? ⟨p7, 0, none⟩ = some (.slice x1 v.length d1) ∧ wa.cell? ⟨p7, 1, none⟩ = some (.slice x2 n.length d2) ∧ wa.cell? ⟨p7, 2, none⟩ = some (.slice x3 l.length d3) ∧ wa.cell? ⟨p3, 0, none⟩ = some (.slice a1 v.length c1) ∧ wa.cell? ⟨p3, 1, none⟩ = some (.slice a2 n.length c2) ∧ wa.cell? ⟨p3, 2, none⟩ = some (.slice a3 l.length c3) := ⟨blk_at SA.out.b7 0 rfl, blk_at SA.out.b7 1 rfl, blk_at SA.out.b7 2 rfl, blk_at SA.out.b3 0 rfl, blk_at SA.out.b3 1 rfl, blk_at SA.out.b3 2 rfl⟩; clear kA) | (go_at_call 25; go_fit (RX wa SA.out); rintro e wb ⟨rfl, kB⟩; have KB : Hid (Kept Nil w5 wb) := KA.out.trans kB; have SB : Hid (ES w B p3 p7 c1 c2 c3 d1 d2 d3 ck cm hd a1 a2 a3 x1 x2 x3 ro mo ho v n l hs os wb) := SSw5.out.kept KB.out; have sB : wb.cell? ⟨p7, 0, none⟩ = some (.slice x1 v.length d1) ∧ wb.cell? ⟨p7, 1, none⟩ = some (.slice x2 n.length d2) ∧ wb.cell? ⟨p7, 2, none⟩ = some (.slice x3 l.length d3) ∧ wb.cell? ⟨p3, 0, none⟩ = some (.slice a1 v.length c1) ∧ wb.cell? ⟨p3, 1, none⟩ = some (.slice a2 n.length c2) ∧ wb.cell? ⟨p3, 2, none⟩ = some (.slice a3 l.length c3) := ⟨blk_at SB.out.b7 0 rfl, blk_at SB.out.b7 1 rfl, blk_at SB.out.b7 2 rfl, blk_at SB.out.b3 0 rfl, blk_at SB.out.b3 1 rfl, blk_at SB.out.b3 2 rfl⟩; clear kB))
            all_goals
              go_wp2
              go_meet
              case rel => exact ⟨false, rfl, fun (h : true = false) => h.symm, KB.out⟩
          | true =>
            have SSD : Hid (ES w B p3 p7 c1 c2 c3 d1 d2 d3 ck cm hd a1 a2 a3 x1 x2 x3 ro mo ho v n l hs os w5.drew) := SSw5.out.kept (Kept.refl _ _).drew
            have sD : w5.drew.cell? ⟨p7, 0, none⟩ = some (.slice x1 v.length d1) ∧ w5.drew.cell? ⟨p7, 1, none⟩ = some (.slice x2 n.length d2) ∧ w5.drew.cell? ⟨p7, 2, none⟩ = some (.slice x3 l.length d3) ∧ w5.drew.cell? ⟨p3, 0, none⟩ = some (.slice a1 v.length c1) ∧ w5.drew.cell? ⟨p3, 1, none⟩ = some (.slice a2 n.length c2) ∧ w5.drew.cell? ⟨p3, 2, none⟩ = some (.slice a3 l.length c3) := ⟨blk_at SSD.out.b7 0 rfl, blk_at SSD.out.b7 1 rfl, blk_at SSD.out.b7 2 rfl, blk_at SSD.out.b3 0 rfl, blk_at SSD.out.b3 1 rfl, blk_at SSD.out.b3 2 rfl⟩
            go_region_held3 (fun w' => w'.cell? ⟨p7, 0, none⟩ = some (.slice x1 v.length d1) ∧ w'.cell? ⟨p7, 1, none⟩ = some (.slice x2 n.length d2) ∧ w'.cell? ⟨p7, 2, none⟩ = some (.slice x3 l.length d3) ∧ w'.cell? ⟨p3, 0, none⟩ = some (.slice a1 v.length c1) ∧ w'.cell? ⟨p3, 1, none⟩ = some (.slice a2 n.length c2) ∧ w'.cell? ⟨p3, 2, none⟩ = some (.slice a3 l.length c3)) (first | assumption | go_keep) (first | (go_at_call 24; go_fit (LX w5.drew SSD.out); rintro e wa ⟨rfl, kA⟩; have KA : Hid (Kept Nil w5 wa) := (Kept.refl _ _).drew.trans kA; have SA : Hid (ES w B p3 p7 c1 c2 c3 d1 d2 d3 ck cm hd a1 a2 a3 x1 x2 x3 ro mo ho v n l hs os wa) := SSw5.out.kept KA.out; have sA : wa.cell? ⟨p7, 0, none⟩ = some (.slice x1 v.length d1) ∧ wa.cell? ⟨p7, 1, none⟩ = some (.slice x2 n.length d2) ∧ wa.cell? ⟨p7, 2, none⟩ = some (.slice x3 l.length d3) ∧ wa.cell? ⟨p3, 0, none⟩ = some (.slice a1 v.length c1) ∧ wa.cell? ⟨p3, 1, none⟩ = some (.slice a2 n.length c2) ∧ wa.cell? ⟨p3, 2, none⟩ = some (.slice a3 l.length c3) := ⟨blk_at SA.out.b7 0 rfl, blk_at SA.out.b7 1 rfl, blk_at SA.out.b7 2 rfl, blk_at SA.out.b3 0 rfl, blk_at SA.out.b3 1 rfl, blk_at SA.out.b3 2 rfl⟩; clear kA) | (go_at_call 25; go_fit (RX wa SA.out); rintro e wb ⟨rfl, kB⟩; have KB : Hid (Kept Nil w5 wb) := KA.out.trans kB; have SB : Hid (ES w B p3 p7 c1 c2 c3 d1 d2 d3 ck cm hd a1 a2 a3 x1 x2 x3 ro mo ho v n l hs os wb) := SSw5.out.kept KB.out; have sB : wb.cell? ⟨p7, 0, none⟩ = some (.slice x1 v.length d1) ∧ wb.cell? ⟨p7, 1, none⟩ = some (.slice x2 n.length d2) ∧ wb.cell? ⟨p7, 2, none⟩ = some (.slice x3 l.length d3) ∧ wb.cell? ⟨p3, 0, none⟩ = some (.slice a1 v.length c1) ∧ wb.cell? ⟨p3, 1, none⟩ = some (.slice a2 n.length c2) ∧ wb.cell? ⟨p3, 2, none⟩ = some (.slice a3 l.length c3) := ⟨blk_at SB.out.b7 0 rfl, blk_at SB.out.b7 1 rfl, blk_at SB.out.b7 2 rfl, blk_at SB.out.b3 0 rfl, blk_at SB.out.b3 1 rfl, blk_at SB.out.b3 2 rfl⟩; clear kB))
            all_goals
              go_wp2
              go_meet
              case rel => exact ⟨true, rfl, fun _ => rfl, KB.out⟩
      case rest =>
        obtain ⟨t3, rfl, HT3, KC6⟩ := hcut
        rename World => w6
        have K6 : Hid (Kept Nil X w6) := K5.out.trans KC6.out
        have OM6 : Hid (OwnInts X.heap.size w6 no nc M) := OM5.out.kept KC6.out
        apply_assumption
        exact HPD.out w B p3 p7 c1 c2 c3 d1 d2 d3 ck cm hd a1 a2 a3 x1 x2 x3 ro mo ho v n l hs os Z w6 e1 e2 e3 g1 g2 g3 f1 f2 f3 h1 h2 h3 p12 p18 dv dn dl gv gn gl k1 k2 M no nc X.heap.size t1 true t3 _ _ _ _ _ _ _ _ _ _ _ _ _ _ _ _ _ _ _ _ _ _ _ _ _ _ _ _ _ _ _ _ _ _ _ _ _ _ _ _ _ _ _ _ _ _ _ _ _ _ _ _ _ _ _ _ _ _ _ _ _ _ _ _ _ _ _ _ _ _ _ _ _ _ _ _ _ _ _ _ _ _ _ _ _ _ _ _ _ _ _ _ _ _ _ _ _ _ _ _ _ _ _ _ _ _ _ _ _ _ _ _ _ _ _ _ _ _ _ _ _ _ _ _ _ _ _ _ _ _ _ _ _ _ _ _ _ _ _ _ _ _ _ _ _ _ _ _ _ _ _ _ _ _ _ _ _ _ _ _ _ _ _ _ _ _ _ _ _ _ _ _ SSZ.out (DDX.out.kept K6.out) DDX.out.kz.size K6.out.size OM6.out HML (fun k o hi => by
          rcases hi with hi | hi
          · exact (DDX.out.od.lt hi).2
          · obtain ⟨Q, _, _, og, _⟩ := DDX.out.og
            exact (og.lt hi).2) (fun hc => ⟨by rw [HT1.out, HM.out, HK.out, mem_nine hc]; simp, rfl, HT3.out (by rw [HBL.out, HBK.out, lost_nine hs hc])⟩)

end Go.Proofs.Ytijklginabipgaa
