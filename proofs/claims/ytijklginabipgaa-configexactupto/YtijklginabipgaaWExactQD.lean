/-
  ConfigExact, its fourth part: who votes, and what is overwritten.
-/
import Derived.Test.YtijklginabipgaaWExactP
import Derived.Deep.DeepCutAuto
import Derived.Deep.RegionHeld3
import Derived.Deep.CutBlock
import Derived.Deep.DeepFit
import Derived.Deep.QuietTactic
import Derived.BigQuiet
namespace Go.Proofs.Ytijklginabipgaa
open Go.RowKit

set_option maxRecDepth 1000000 in
set_option maxHeartbeats 40000000 in
theorem xpartD : XPartD := by
  intro w B p3 p7 c1 c2 c3 d1 d2 d3 ck cm hd a1 a2 a3 x1 x2 x3 ro mo ho v n l hs os Z X e1 e2 e3 g1 g2 g3 f1 f2 f3 h1 h2 h3 p12 p18 dv dn dl gv gn gl k1 k2 M no nc R t1 t2 t3 v0 v4 v5 v6 v9 v10 v11 v14 v20 v28 v29 v30 v31 v32 v33 v34 v35 v36 v37 v38 v39 v40 v41 v42 v43 v44 v45 v46 v47 v48 v49 v50 v51 v52 v53 v54 v55 v56 v57 v58 v59 v60 v61 v62 v63 v64 v65 v66 v67 v68 v69 v70 v71 v72 v73 v74 v75 v76 v77 v78 v79 v80 v81 v82 v83 v84 v85 v86 v87 v88 v89 v90 v91 v92 v93 v94 v95 v96 v97 v98 v99 v100 v101 v102 v103 v104 v105 v106 v107 v108 v109 v110 v111 v112 v113 v114 v115 v116 v117 v118 v119 v120 v121 v122 v123 v124 v125 v126 v127 v128 v129 v130 v131 v132 v133 v134 v135 v136 v137 v138 v139 v140 v141 v142 v143 v144 v145 v146 v147 v148 v149 v150 v151 v152 v153 v154 v155 v156 v157 v158 v159 v160 v161 v162 v163 v164 v165 v166 v167 v168 v169 v170 v171 v172 v173 v174 v175 v176 v177 v178 v179 v180 v181 v182 v183 v184 v185 v186 v187 v188 v189 v190 S0 D0 hZR hRX om hM hR ht
  have SSZ : Hid (ES w B p3 p7 c1 c2 c3 d1 d2 d3 ck cm hd a1 a2 a3 x1 x2 x3 ro mo ho v n l hs os Z) := S0
  have SSX : Hid (ES w B p3 p7 c1 c2 c3 d1 d2 d3 ck cm hd a1 a2 a3 x1 x2 x3 ro mo ho v n l hs os X) := S0.kept D0.kz
  have DDX : Hid (DS Z e1 e2 e3 g1 g2 g3 f1 f2 f3 h1 h2 h3 p12 p18 dv dn dl gv gn gl X) := D0
  have OM : Hid (OwnInts R X no nc M) := om
  have HR : Hid (∀ k o, In3 e1 e2 e3 dv.length dn.length dl.length f1 f2 f3 k o ∨ In3 g1 g2 g3 gv.length gn.length gl.length h1 h2 h3 k o → k < R) := hR
  have h1' := S0.lv
  have h2' := S0.ln
  have h3' := S0.ll
  have h4' := S0.lo
  have h5' := S0.lh
  obtain ⟨ok, HOK⟩ : ∃ b : Bool, Hid (b = isCfg v n l) := ⟨_, rfl⟩
  have HT : Hid (ok = true → t1 = true ∧ t2 = true ∧ t3 = true) := fun h => ht (by rw [← HOK.out]; exact h)
  clear S0 D0 om hR ht
  have IC := fun (Y : World) (hY : ES w B p3 p7 c1 c2 c3 d1 d2 d3 ck cm hd a1 a2 a3 x1 x2 x3 ro mo ho v n l hs os Y) => refIsConfig_any B c1 c2 c3 a1 a2 a3 v n l Y hY.cr (by omega) (by omega) (by omega)
  rw [← HOK.out] at IC
  conv => arg 2; whnf
  dsimp only
  go_wp2
  go_loopw [28] (fun i wr => ∃ k : Nat, k ≤ 11 ∧ i = .int .i64 k ∧ Hid (Kept Nil X wr)) (fun i _ => 11 - (intOf i).toNat)
  case atStart => exact ⟨0, by omega, rfl, Kept.refl _ _⟩
  case round =>
    obtain ⟨k, hk, rfl, HKo⟩ := hrel
    have SSwr : Hid (ES w B p3 p7 c1 c2 c3 d1 d2 d3 ck cm hd a1 a2 a3 x1 x2 x3 ro mo ho v n l hs os wr) := SSX.out.kept HKo.out
    have q0 : wr.cell? ⟨p3, 0, none⟩ = some (.slice a1 v.length c1) := blk_at (SSwr.out.b3) 0 rfl
    have q1 : wr.cell? ⟨p3, 1, none⟩ = some (.slice a2 n.length c2) := blk_at (SSwr.out.b3) 1 rfl
    have q2 : wr.cell? ⟨p3, 2, none⟩ = some (.slice a3 l.length c3) := blk_at (SSwr.out.b3) 2 rfl
    have j0 : wr.cell? ⟨p7, 0, none⟩ = some (.slice x1 v.length d1) := blk_at (SSwr.out.b7) 0 rfl
    have j1 : wr.cell? ⟨p7, 1, none⟩ = some (.slice x2 n.length d2) := blk_at (SSwr.out.b7) 1 rfl
    have j2 : wr.cell? ⟨p7, 2, none⟩ = some (.slice x3 l.length d3) := blk_at (SSwr.out.b7) 2 rfl
    by_cases hlt : k < 11
    · have hki : (k : Int) ≤ 10 := by omega
      go_wp2_with fail
      go_fit (IC wr SSwr.out)
      rintro e w1 ⟨rfl, kw1⟩
      have K1 : Hid (Kept Nil wr w1) := kw1
      have SSw1 : Hid (ES w B p3 p7 c1 c2 c3 d1 d2 d3 ck cm hd a1 a2 a3 x1 x2 x3 ro mo ho v n l hs os w1) := SSwr.out.kept kw1
      clear kw1 q0 q1 q2 j0 j1 j2
      have q0 : w1.cell? ⟨p3, 0, none⟩ = some (.slice a1 v.length c1) := blk_at (SSw1.out.b3) 0 rfl
      have q1 : w1.cell? ⟨p3, 1, none⟩ = some (.slice a2 n.length c2) := blk_at (SSw1.out.b3) 1 rfl
      have q2 : w1.cell? ⟨p3, 2, none⟩ = some (.slice a3 l.length c3) := blk_at (SSw1.out.b3) 2 rfl
      have j0 : w1.cell? ⟨p7, 0, none⟩ = some (.slice x1 v.length d1) := blk_at (SSw1.out.b7) 0 rfl
      have j1 : w1.cell? ⟨p7, 1, none⟩ = some (.slice x2 n.length d2) := blk_at (SSw1.out.b7) 1 rfl
      have j2 : w1.cell? ⟨p7, 2, none⟩ = some (.slice x3 l.length d3) := blk_at (SSw1.out.b7) 2 rfl
      obtain ⟨bv, HBV⟩ : ∃ b : Bool, Hid (b = vot v n k) := ⟨_, rfl⟩
      have VX := fun (Y : World) (hY : ES w B p3 p7 c1 c2 c3 d1 d2 d3 ck cm hd a1 a2 a3 x1 x2 x3 ro mo ho v n l hs os Y) => votes_any Y.heap.size d1 d2 d3 x1 x2 x3 v n l k Y hY.xr (by omega) (by omega)
      have RV := fun (Y : World) (hY : ES w B p3 p7 c1 c2 c3 d1 d2 d3 ck cm hd a1 a2 a3 x1 x2 x3 ro mo ho v n l hs os Y) => refVotes_any B c1 c2 c3 a1 a2 a3 v n l k Y hY.cr (by omega) (by omega)
      rw [← HBV.out] at VX RV
      go_upto_region 23 with fail
      go_cut [127] from 112 to 127 (fun b wx => b = .bool false ∧ Hid (Kept Nil w1 wx))
      case first =>
        cases ok with
        | false =>
          go_quiet (fail)
          go_wp2
          go_meet
          case rel => exact ⟨rfl, (Kept.refl _ _).drewN _⟩
        | true =>
          cases bv with
          | false =>
            have SSD : Hid (ES w B p3 p7 c1 c2 c3 d1 d2 d3 ck cm hd a1 a2 a3 x1 x2 x3 ro mo ho v n l hs os w1.drew) := SSw1.out.kept (Kept.refl _ _).drew
            have sD : w1.drew.cell? ⟨p7, 0, none⟩ = some (.slice x1 v.length d1) ∧ w1.drew.cell? ⟨p7, 1, none⟩ = some (.slice x2 n.length d2) ∧ w1.drew.cell? ⟨p7, 2, none⟩ = some (.slice x3 l.length d3) ∧ w1.drew.cell? ⟨p3, 0, none⟩ = some (.slice a1 v.length c1) ∧ w1.drew.cell? ⟨p3, 1, none⟩ = some (.slice a2 n.length c2) ∧ w1.drew.cell? ⟨p3, 2, none⟩ = some (.slice a3 l.length c3) := ⟨blk_at SSD.out.b7 0 rfl, blk_at SSD.out.b7 1 rfl, blk_at SSD.out.b7 2 rfl, blk_at SSD.out.b3 0 rfl, blk_at SSD.out.b3 1 rfl, blk_at SSD.out.b3 2 rfl⟩
            go_region_held3 (fun w' => w'.cell? ⟨p7, 0, none⟩ = some (.slice x1 v.length d1) ∧ w'.cell? ⟨p7, 1, none⟩ = some (.slice x2 n.length d2) ∧ w'.cell? ⟨p7, 2, none⟩ = some (.slice x3 l.length d3) ∧ w'.cell? ⟨p3, 0, none⟩ = some (.slice a1 v.length c1) ∧ w'.cell? ⟨p3, 1, none⟩ = some (.slice a2 n.length c2) ∧ w'.cell? ⟨p3, 2, none⟩ = some (.slice a3 l.length c3)) (first | assumption | go_keep) (first | (go_at_call 26; go_fit (VX w1.drew SSD.out); rintro e wa ⟨rfl, kA⟩; have KA : Hid (Kept Nil w1 wa) := (Kept.refl _ _).drew.trans kA; have SA : Hid (ES w B p3 p7 c1 c2 c3 d1 d2 d3 ck cm hd a1 a2 a3 x1 x2 x3 ro mo ho v n l hs os wa) := SSw1.out.kept KA.out; have sA : wa.cell? ⟨p7, 0, none⟩ = some (.slice x1 v.length d1) ∧ wa.cell? ⟨p7, 1, none⟩ = some (.slice x2 n.length d2) ∧ wa.cell? ⟨p7, 2, none⟩ = some (.slice x3 l.length d3) ∧ wa.cell? ⟨p3, 0, none⟩ = some (.slice a1 v.length c1) ∧ wa.cell? ⟨p3, 1, none⟩ = some (.slice a2 n.length c2) ∧ wa.cell? ⟨p3, 2, none⟩ = some (.slice a3 l.length c3) := ⟨blk_at SA.out.b7 0 rfl, blk_at SA.out.b7 1 rfl, blk_at SA.out.b7 2 rfl, blk_at SA.out.b3 0 rfl, blk_at SA.out.b3 1 rfl, blk_at SA.out.b3 2 rfl⟩; clear kA) | (go_at_call 27; go_fit (RV wa SA.out); rintro e wb ⟨rfl, kB⟩; have KB : Hid (Kept Nil w1 wb) := KA.out.trans kB; have SB : Hid (ES w B p3 p7 c1 c2 c3 d1 d2 d3 ck cm hd a1 a2 a3 x1 x2 x3 ro mo ho v n l hs os wb) := SSw1.out.kept KB.out; have sB : wb.cell? ⟨p7, 0, none⟩ = some (.slice x1 v.length d1) ∧ wb.cell? ⟨p7, 1, none⟩ = some (.slice x2 n.length d2) ∧ wb.cell? ⟨p7, 2, none⟩ = some (.slice x3 l.length d3) ∧ wb.cell? ⟨p3, 0, none⟩ = some (.slice a1 v.length c1) ∧ wb.cell? ⟨p3, 1, none⟩ = some (.slice a2 n.length c2) ∧ wb.cell? ⟨p3, 2, none⟩ = some (.slice a3 l.length c3) := ⟨blk_at SB.out.b7 0 rfl, blk_at SB.out.b7 1 rfl, blk_at SB.out.b7 2 rfl, blk_at SB.out.b3 0 rfl, blk_at SB.out.b3 1 rfl, blk_at SB.out.b3 2 rfl⟩; clear kB))
            all_goals
              go_wp2
              go_meet
              case rel => exact ⟨rfl, KB.out⟩
          | true =>
            have SSD : Hid (ES w B p3 p7 c1 c2 c3 d1 d2 d3 ck cm hd a1 a2 a3 x1 x2 x3 ro mo ho v n l hs os w1.drew) := SSw1.out.kept (Kept.refl _ _).drew
            have sD : w1.drew.cell? ⟨p7, 0, none⟩ = some (.slice x1 v.length d1) ∧ w1.drew.cell? ⟨p7, 1, none⟩ = some (.slice x2 n.length d2) ∧ w1.drew.cell? ⟨p7, 2, none⟩ = some (.slice x3 l.length d3) ∧ w1.drew.cell? ⟨p3, 0, none⟩ = some (.slice a1 v.length c1) ∧ w1.drew.cell? ⟨p3, 1, none⟩ = some (.slice a2 n.length c2) ∧ w1.drew.cell? ⟨p3, 2, none⟩ = some (.slice a3 l.length c3) := ⟨blk_at SSD.out.b7 0 rfl, blk_at SSD.out.b7 1 rfl, blk_at SSD.out.b7 2 rfl, blk_at SSD.out.b3 0 rfl, blk_at SSD.out.b3 1 rfl, blk_at SSD.out.b3 2 rfl⟩
            go_region_held3 (fun w' => w'.cell? ⟨p7, 0, none⟩ = some (.slice x1 v.length d1) ∧ w'.cell? ⟨p7, 1, none⟩ = some (.slice x2 n.length d2) ∧ w'.cell? ⟨p7, 2, none⟩ = some (.slice x3 l.length d3) ∧ w'.cell? ⟨p3, 0, none⟩ = some (.slice a1 v.length c1) ∧ w'.cell? ⟨p3, 1, none⟩ = some (.slice a2 n.length c2) ∧ w'.cell? ⟨p3, 2, none⟩ = some (.slice a3 l.length c3)) (first | assumption | go_keep) (first | (go_at_call 26; go_fit (VX w1.drew SSD.out); rintro e wa ⟨rfl, kA⟩; have KA : Hid (Kept Nil w1 wa) := (Kept.refl _ _).drew.trans kA; have SA : Hid (ES w B p3 p7 c1 c2 c3 d1 d2 d3 ck cm hd a1 a2 a3 x1 x2 x3 ro mo ho v n l hs os wa) := SSw1.out.kept KA.out; have sA : wa.cell? ⟨p7, 0, none⟩ = some (.slice x1 v.length d1) ∧ wa.cell? ⟨p7, 1, none⟩ = some (.slice x2 n.length d2) ∧ wa.cell? ⟨p7, 2, none⟩ = some (.slice x3 l.length d3) ∧ wa.cell? ⟨p3, 0, none⟩ = some (.slice a1 v.length c1) ∧ wa.cell? ⟨p3, 1, none⟩ = some (.slice a2 n.length c2) ∧ wa.cell? ⟨p3, 2, none⟩ = some (.slice a3 l.length c3) := ⟨blk_at SA.out.b7 0 rfl, blk_at SA.out.b7 1 rfl, blk_at SA.out.b7 2 rfl, blk_at SA.out.b3 0 rfl, blk_at SA.out.b3 1 rfl, blk_at SA.out.b3 2 rfl⟩; clear kA) | (go_at_call 27; go_fit (RV wa SA.out); rintro e wb ⟨rfl, kB⟩; have KB : Hid (Kept Nil w1 wb) := KA.out.trans kB; have SB : Hid (ES w B p3 p7 c1 c2 c3 d1 d2 d3 ck cm hd a1 a2 a3 x1 x2 x3 ro mo ho v n l hs os wb) := SSw1.out.kept KB.out; have sB : wb.cell? ⟨p7, 0, none⟩ = some (.slice x1 v.length d1) ∧ wb.cell? ⟨p7, 1, none⟩ = some (.slice x2 n.length d2) ∧ wb.cell? ⟨p7, 2, none⟩ = some (.slice x3 l.length d3) ∧ wb.cell? ⟨p3, 0, none⟩ = some (.slice a1 v.length c1) ∧ wb.cell? ⟨p3, 1, none⟩ = some (.slice a2 n.length c2) ∧ wb.cell? ⟨p3, 2, none⟩ = some (.slice a3 l.length c3) := ⟨blk_at SB.out.b7 0 rfl, blk_at SB.out.b7 1 rfl, blk_at SB.out.b7 2 rfl, blk_at SB.out.b3 0 rfl, blk_at SB.out.b3 1 rfl, blk_at SB.out.b3 2 rfl⟩; clear kB))
            all_goals
              go_wp2
              go_meet
              case rel => exact ⟨rfl, KB.out⟩
      case rest =>
        obtain ⟨rfl, KC⟩ := hcut
        rename World => w2
        go_wp2
        go_roundw
        case rel => exact ⟨k + 1, by omega, by go_num, (HKo.out.trans K1.out).trans KC.out⟩
        case measure => simp [intOf]; omega
    · obtain rfl : k = 11 := by omega
      have H1 := fun (Y : World) (hY : ES w B p3 p7 c1 c2 c3 d1 d2 d3 ck cm hd a1 a2 a3 x1 x2 x3 ro mo ho v n l hs os Y) => heldConfig_yes 0 B d1 d2 d3 c1 c2 c3 x1 x2 x3 a1 a2 a3 v n l Y hY.x1 hY.x2 hY.x3 hY.cr h1' h2' h3'
      have H2 := fun (Y : World) (hY : ES w B p3 p7 c1 c2 c3 d1 d2 d3 ck cm hd a1 a2 a3 x1 x2 x3 ro mo ho v n l hs os Y) => heldInts_yes 0 B hd cm ho mo hs Y hY.hx hY.hr h5'
      go_wp2_with fail
      go_fit (H1 wr SSwr.out)
      rintro e w1 ⟨rfl, kw1⟩
      have K1 : Hid (Kept Nil X w1) := HKo.out.trans kw1
      have SSw1 : Hid (ES w B p3 p7 c1 c2 c3 d1 d2 d3 ck cm hd a1 a2 a3 x1 x2 x3 ro mo ho v n l hs os w1) := SSX.out.kept K1.out
      clear kw1 q0 q1 q2 j0 j1 j2
      go_wp2_with fail
      go_fit (H2 w1 SSw1.out)
      rintro e w2 ⟨rfl, kw2⟩
      have K2 : Hid (Kept Nil X w2) := K1.out.trans kw2
      clear kw2 SSw1 K1 H2
      have D2 : Hid (DS Z e1 e2 e3 g1 g2 g3 f1 f2 f3 h1 h2 h3 p12 p18 dv dn dl gv gn gl w2) := DDX.out.kept K2.out
      obtain ⟨Q, hq1, hq2, OG2, HDQ⟩ := D2.out.og
      have HDQ : Hid (∀ k o, In3 e1 e2 e3 dv.length dn.length dl.length f1 f2 f3 k o → k < Q) := HDQ
      have OG2 : Hid (Own3 Q g1 g2 g3 h1 h2 h3 gv gn gl w2) := OG2
      have m1 := D2.out.dl9.1
      have m2 := D2.out.dl9.2.1
      have m3 := D2.out.dl9.2.2
      have m4 := D2.out.gl9.1
      have m5 := D2.out.gl9.2.1
      have m6 := D2.out.gl9.2.2
      have s0 : w2.cell? ⟨p12, 0, none⟩ = some (.slice e1 dv.length f1) := blk_at D2.out.b12 0 rfl
      have s1 : w2.cell? ⟨p12, 1, none⟩ = some (.slice e2 dn.length f2) := blk_at D2.out.b12 1 rfl
      have s2 : w2.cell? ⟨p12, 2, none⟩ = some (.slice e3 dl.length f3) := blk_at D2.out.b12 2 rfl
      have OC1 := overConfigK_any Z.heap.size f1 f2 f3 e1 e2 e3 dv dn dl w2 D2.out.od D2.out.kz.size (by omega) (by omega) (by omega)
      go_wp2_with fail
      go_fit OC1
      rintro e w3 ⟨rfl, kw3⟩
      have KX3 : Hid (Kept (In3 e1 e2 e3 dv.length dn.length dl.length f1 f2 f3) w2 w3) := kw3
      have KZ3 : Hid (Kept Nil Z w3) := Kept.ofNew D2.out.kz kw3 (fun k o hi => (D2.out.od.lt hi).1)
      have B18 : Hid (w3.heap[p18]? = some (.cells #[.slice g1 gv.length h1, .slice g2 gn.length h2, .slice g3 gl.length h3] 24 (0, 0))) := kw3.block _ _ D2.out.b18 (D2.out.dp _).2
      have OG3 : Hid (Own3 Q g1 g2 g3 h1 h2 h3 gv gn gl w3) := OG2.out.keptX kw3 (fun k o hb hi => by have := HDQ.out k o hi; omega)
      have OM3 : Hid (OwnInts R w3 no nc M) := own_kept (OM.out.kept K2.out) kw3 (fun k o hb hi => by have := HR.out k _ (.inl hi); omega)
      clear kw3 OC1 s0 s1 s2
      have s0 : w3.cell? ⟨p18, 0, none⟩ = some (.slice g1 gv.length h1) := blk_at B18.out 0 rfl
      have s1 : w3.cell? ⟨p18, 1, none⟩ = some (.slice g2 gn.length h2) := blk_at B18.out 1 rfl
      have s2 : w3.cell? ⟨p18, 2, none⟩ = some (.slice g3 gl.length h3) := blk_at B18.out 2 rfl
      have OC2 := overConfigK_any Q h1 h2 h3 g1 g2 g3 gv gn gl w3 OG3.out (Nat.le_trans hq2 KX3.out.size) (by omega) (by omega) (by omega)
      go_wp2_with fail
      go_fit OC2
      rintro e w4 ⟨rfl, kw4⟩
      have KX4 : Hid (Kept (In3 g1 g2 g3 gv.length gn.length gl.length h1 h2 h3) w3 w4) := kw4
      have KZ4 : Hid (Kept Nil Z w4) := Kept.ofNew KZ3.out kw4 (fun k o hi => Nat.le_trans hq1 (OG3.out.lt hi).1)
      have OM4 : Hid (OwnInts R w4 no nc M) := own_kept OM3.out kw4 (fun k o hb hi => by have := HR.out k _ (.inr hi); omega)
      have HRS : Hid (R ≤ w4.heap.size) := Nat.le_trans hRX (Nat.le_trans K2.out.size (Nat.le_trans KX3.out.size kw4.size))
      clear kw4 OC2 s0 s1 s2
      have OI := overInts_any R nc no M w4 OM4.out HRS.out hM
      go_wp2_with fail
      go_fit OI
      rintro e w5 ⟨rfl, g5⟩
      have KZ5 : Hid (Kept Nil Z w5) := KZ4.out.grown g5 (fun k hk' => Nat.le_trans hZR (own_row OM4.out k hk'))
      have SS5 : Hid (ES w B p3 p7 c1 c2 c3 d1 d2 d3 ck cm hd a1 a2 a3 x1 x2 x3 ro mo ho v n l hs os w5) := SSZ.out.kept KZ5.out
      clear g5 OI
      have q0 : w5.cell? ⟨p3, 0, none⟩ = some (.slice a1 v.length c1) := blk_at (SS5.out.b3) 0 rfl
      have q1 : w5.cell? ⟨p3, 1, none⟩ = some (.slice a2 n.length c2) := blk_at (SS5.out.b3) 1 rfl
      have q2 : w5.cell? ⟨p3, 2, none⟩ = some (.slice a3 l.length c3) := blk_at (SS5.out.b3) 2 rfl
      have j0 : w5.cell? ⟨p7, 0, none⟩ = some (.slice x1 v.length d1) := blk_at (SS5.out.b7) 0 rfl
      have j1 : w5.cell? ⟨p7, 1, none⟩ = some (.slice x2 n.length d2) := blk_at (SS5.out.b7) 1 rfl
      have j2 : w5.cell? ⟨p7, 2, none⟩ = some (.slice x3 l.length d3) := blk_at (SS5.out.b7) 2 rfl
      go_wp2_with fail
      go_fit (H1 w5 SS5.out)
      rintro e w6 ⟨rfl, kw6⟩
      have SS6 : Hid (ES w B p3 p7 c1 c2 c3 d1 d2 d3 ck cm hd a1 a2 a3 x1 x2 x3 ro mo ho v n l hs os w6) := SS5.out.kept kw6
      clear kw6 q0 q1 q2 j0 j1 j2
      have q0 : w6.cell? ⟨p3, 0, none⟩ = some (.slice a1 v.length c1) := blk_at (SS6.out.b3) 0 rfl
      have q1 : w6.cell? ⟨p3, 1, none⟩ = some (.slice a2 n.length c2) := blk_at (SS6.out.b3) 1 rfl
      have q2 : w6.cell? ⟨p3, 2, none⟩ = some (.slice a3 l.length c3) := blk_at (SS6.out.b3) 2 rfl
      have j0 : w6.cell? ⟨p7, 0, none⟩ = some (.slice x1 v.length d1) := blk_at (SS6.out.b7) 0 rfl
      have j1 : w6.cell? ⟨p7, 1, none⟩ = some (.slice x2 n.length d2) := blk_at (SS6.out.b7) 1 rfl
      have j2 : w6.cell? ⟨p7, 2, none⟩ = some (.slice x3 l.length d3) := blk_at (SS6.out.b7) 2 rfl
      go_wp2_with fail
      go_fit (IC w6 SS6.out)
      rintro e w7 ⟨rfl, kw7⟩
      have KF : Hid (Kept Nil w w7) := SS6.out.kw.trans kw7
      clear kw7 q0 q1 q2 j0 j1 j2
      cases ok with
      | true =>
        obtain ⟨rfl, rfl, rfl⟩ := HT.out rfl
        go_wp2
        go_ret
        exact ⟨rfl, KF.out⟩
      | false =>
        clear HT
        cases t1 <;> cases t2 <;> cases t3
        all_goals
          go_wp2
          go_ret
          exact ⟨rfl, KF.out⟩

end Go.Proofs.Ytijklginabipgaa
