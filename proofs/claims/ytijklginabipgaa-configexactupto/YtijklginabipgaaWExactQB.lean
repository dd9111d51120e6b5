/-
  ConfigExact, its second part: a change that begins, and one that is ended.
-/
import Derived.Test.YtijklginabipgaaWExactP
import Derived.Deep.DeepCutAuto
import Derived.Deep.RegionHeld3
import Derived.Deep.CutBlock
import Derived.Deep.DeepFit
namespace Go.Proofs.Ytijklginabipgaa
open Go.RowKit

set_option maxRecDepth 1000000 in
set_option maxHeartbeats 40000000 in
theorem xpartB (hC : XPartC) : XPartB := by
  intro w B p3 p7 c1 c2 c3 d1 d2 d3 ck cm hd a1 a2 a3 x1 x2 x3 ro mo ho v n l hs os X p9 y1 y2 y3 z1 z2 z3 v0 v4 v5 v6 v11 v12 v13 v14 v15 v16 v17 v18 v19 v20 v21 v22 v23 v24 v25 v26 v27 v28 v29 v30 v31 v32 v33 v34 v35 v36 v37 v38 v39 v40 v41 v42 v43 v44 v45 v46 v47 v48 v49 v50 v51 v52 v53 v54 v55 v56 v57 v58 v59 v60 v61 v62 v63 v64 v65 v66 v67 v68 v69 v70 v71 v72 v73 v74 v75 v76 v77 v78 v79 v80 v81 v82 v83 v84 v85 v86 v87 v88 v89 v90 v91 v92 v93 v94 v95 v96 v97 v98 v99 v100 v101 v102 v103 v104 v105 v106 v107 v108 v109 v110 v111 v112 v113 v114 v115 v116 v117 v118 v119 v120 v121 v122 v123 v124 v125 v126 v127 v128 v129 v130 v131 v132 v133 v134 v135 v136 v137 v138 v139 v140 v141 v142 v143 v144 v145 v146 v147 v148 v149 v150 v151 v152 v153 v154 v155 v156 v157 v158 v159 v160 v161 v162 v163 v164 v165 v166 v167 v168 v169 v170 v171 v172 v173 v174 v175 v176 v177 v178 v179 v180 v181 v182 v183 v184 v185 v186 v187 v188 v189 v190 S0 B9
  have HPC : Hid XPartC := hC
  have SSX : Hid (ES w B p3 p7 c1 c2 c3 d1 d2 d3 ck cm hd a1 a2 a3 x1 x2 x3 ro mo ho v n l hs os X) := S0
  have h1 := S0.lv
  have h2 := S0.ln
  have h3 := S0.ll
  have h4 := S0.lo
  have h5 := S0.lh
  have i1 : X.cell? ⟨p9, 1, none⟩ = some (.slice y2 2 z2) := blk_at B9 1 rfl
  clear S0 hC
  conv => arg 2; whnf
  dsimp only
  have OP := opsOf_any B ck ro os X SSX.out.orow (by omega)
  go_wp2_with fail
  go_fit OP
  rintro e Z ⟨oo, oc, rfl, oX, kZ⟩
  have SSZ : Hid (ES w B p3 p7 c1 c2 c3 d1 d2 d3 ck cm hd a1 a2 a3 x1 x2 x3 ro mo ho v n l hs os Z) := SSX.out.kept kZ
  have OX : Hid (OwnXO X.heap.size Z oo oc os) := oX
  clear oX kZ OP i1 B9 SSX
  have q0 : Z.cell? ⟨p3, 0, none⟩ = some (.slice a1 v.length c1) := blk_at (SSZ.out.b3) 0 rfl
  have q1 : Z.cell? ⟨p3, 1, none⟩ = some (.slice a2 n.length c2) := blk_at (SSZ.out.b3) 1 rfl
  have q2 : Z.cell? ⟨p3, 2, none⟩ = some (.slice a3 l.length c3) := blk_at (SSZ.out.b3) 2 rfl
  have j0 : Z.cell? ⟨p7, 0, none⟩ = some (.slice x1 v.length d1) := blk_at (SSZ.out.b7) 0 rfl
  have j1 : Z.cell? ⟨p7, 1, none⟩ = some (.slice x2 n.length d2) := blk_at (SSZ.out.b7) 1 rfl
  have j2 : Z.cell? ⟨p7, 2, none⟩ = some (.slice x3 l.length d3) := blk_at (SSZ.out.b7) 2 rfl
  have BG := begin_any 0 Z.heap.size d1 d2 d3 oc x1 x2 x3 oo v n l os Z SSZ.out.x1.own SSZ.out.x2.own SSZ.out.x3.own OX.out.row (by omega)
  have HL1 : Hid ((rV (begZ v n l os)).length ≤ 9 ∧ (rN (begZ v n l os)).length ≤ 9 ∧ (rL (begZ v n l os)).length ≤ 9) := begZ_len v n l os
  have HL2 : Hid ((rV (finZ v n l)).length ≤ 9 ∧ (rN (finZ v n l)).length ≤ 9 ∧ (rL (finZ v n l)).length ≤ 9) := finZ_len v n l
  have RB0 := fun (Y : World) (hY : Kept Nil Z Y) => refBegin_any B B c1 c2 c3 ck a1 a2 a3 ro v n l os Y (SSZ.out.kept hY).cr (Nat.le_trans SSZ.out.hB (SSZ.out.kept hY).kw.size) (SSZ.out.kept hY).orow h1 h2 h3 h4
  obtain ⟨r1, HR1⟩ : ∃ r, Hid (r = begZ v n l os) := ⟨_, rfl⟩
  obtain ⟨r2, HR2⟩ : ∃ r, Hid (r = finZ v n l) := ⟨_, rfl⟩
  rw [← HR1.out] at BG RB0 HL1
  rw [← HR2.out] at HL2
  go_wp2_with fail
  go_fit BG
  intro e w1 hp
  obtain ⟨e1, e2, e3, f1, f2, f3, rfl, od, k1⟩ := BegPost.flat hp
  clear hp BG
  have HLL := HL1.out
  obtain ⟨dv, HDV⟩ : ∃ x, Hid (x = rV r1) := ⟨_, rfl⟩
  obtain ⟨dn, HDN⟩ : ∃ x, Hid (x = rN r1) := ⟨_, rfl⟩
  obtain ⟨dl, HDL⟩ : ∃ x, Hid (x = rL r1) := ⟨_, rfl⟩
  obtain ⟨k1', HK1⟩ : ∃ x, Hid (x = rC r1) := ⟨_, rfl⟩
  have RB := fun (Y : World) (hY : Kept Nil Z Y) => (RB0 Y hY).mono (fun e w' h => RBegPost.flat h)
  rw [← HDV.out, ← HDN.out, ← HDL.out] at od HLL
  rw [← HDV.out, ← HDN.out, ← HDL.out, ← HK1.out] at RB
  rw [← HDV.out, ← HDN.out, ← HDL.out, ← HK1.out]
  obtain ⟨l1, l2, l3⟩ := HLL
  have OD : Hid (Own3 Z.heap.size e1 e2 e3 f1 f2 f3 dv dn dl w1) := od
  have K1 : Hid (Kept Nil Z w1) := k1
  clear od k1 RB0 q0 q1 q2 j0 j1 j2
  obtain ⟨W1, hW1⟩ : ∃ W, W = w1.alloc (.cells #[.slice e1 dv.length f1, .slice e2 dn.length f2, .slice e3 dl.length f3] 24) := ⟨_, rfl⟩
  have KW1 : Hid (Kept Nil Z W1) := by rw [hW1]; exact K1.out.alloc _
  have BD : Hid (W1.heap[w1.heap.size]? = some (.cells #[.slice e1 dv.length f1, .slice e2 dn.length f2, .slice e3 dl.length f3] 24 (0, 0))) := by rw [hW1]; exact blk_new _ _
  have ODW : Hid (Own3 Z.heap.size e1 e2 e3 f1 f2 f3 dv dn dl W1) := by rw [hW1]; exact OD.out.grown ((Kept.refl _ _).alloc _)
  have DPP : Hid (∀ o, ¬ In3 e1 e2 e3 dv.length dn.length dl.length f1 f2 f3 w1.heap.size o) := fun o hi => by have := (OD.out.lt hi).2; omega
  have SSW1 : Hid (ES w B p3 p7 c1 c2 c3 d1 d2 d3 ck cm hd a1 a2 a3 x1 x2 x3 ro mo ho v n l hs os W1) := SSZ.out.kept KW1.out
  have q0 : W1.cell? ⟨p3, 0, none⟩ = some (.slice a1 v.length c1) := blk_at (SSW1.out.b3) 0 rfl
  have q1 : W1.cell? ⟨p3, 1, none⟩ = some (.slice a2 n.length c2) := blk_at (SSW1.out.b3) 1 rfl
  have q2 : W1.cell? ⟨p3, 2, none⟩ = some (.slice a3 l.length c3) := blk_at (SSW1.out.b3) 2 rfl
  have j0 : W1.cell? ⟨p7, 0, none⟩ = some (.slice x1 v.length d1) := blk_at (SSW1.out.b7) 0 rfl
  have j1 : W1.cell? ⟨p7, 1, none⟩ = some (.slice x2 n.length d2) := blk_at (SSW1.out.b7) 1 rfl
  have j2 : W1.cell? ⟨p7, 2, none⟩ = some (.slice x3 l.length d3) := blk_at (SSW1.out.b7) 2 rfl
  go_upto_region 8 with fail
  rw [← hW1]
  clear hW1 OD K1
  generalize w1.heap.size = p12 at *
  go_wp2_with fail
  go_fit (RB W1 KW1.out)
  rintro e w2 ⟨b1, b2, b3, m1, m2, m3, rfl, rr, k2⟩
  have K2 : Hid (Kept Nil W1 w2) := k2
  have RR : Hid (CfRows w2.heap.size w2 b1 b2 b3 dv dn dl) := rr
  clear rr k2 RB q0 q1 q2 j0 j1 j2
  obtain ⟨W2, hW2⟩ : ∃ W, W = w2.alloc (.cells #[.slice b1 dv.length m1, .slice b2 dn.length m2, .slice b3 dl.length m3] 24) := ⟨_, rfl⟩
  have KW2 : Hid (Kept Nil W1 W2) := by rw [hW2]; exact K2.out.alloc _
  have BR : Hid (W2.heap[w2.heap.size]? = some (.cells #[.slice b1 dv.length m1, .slice b2 dn.length m2, .slice b3 dl.length m3] 24 (0, 0))) := by rw [hW2]; exact blk_new _ _
  have RRW : Hid (CfRows w2.heap.size W2 b1 b2 b3 dv dn dl) := by rw [hW2]; exact RR.out.alloc _
  have SSW2 : Hid (ES w B p3 p7 c1 c2 c3 d1 d2 d3 ck cm hd a1 a2 a3 x1 x2 x3 ro mo ho v n l hs os W2) := SSW1.out.kept KW2.out
  have HO := heldOps_yes X.heap.size B oc ck oo ro os W2 (OX.out.kept (KW1.out.trans KW2.out)) SSW2.out.orow h4
  go_wp2_with fail
  rw [← hW2]
  clear hW2 K2 RR
  generalize w2.heap.size = p14 at *
  go_fit HO
  rintro e w3 ⟨rfl, k3⟩
  have KK3 : Hid (Kept Nil W1 w3) := KW2.out.trans k3
  have BR3 : Hid (w3.heap[p14]? = some (.cells #[.slice b1 dv.length m1, .slice b2 dn.length m2, .slice b3 dl.length m3] 24 (0, 0))) := k3.block _ _ BR.out (fun x => x.elim)
  have RR3 : Hid (CfRows p14 w3 b1 b2 b3 dv dn dl) := RRW.out.nil k3
  have BD3 : Hid (w3.heap[p12]? = some (.cells #[.slice e1 dv.length f1, .slice e2 dn.length f2, .slice e3 dl.length f3] 24 (0, 0))) := KK3.out.block _ _ BD.out (fun x => x.elim)
  have OD3 : Hid (Own3 Z.heap.size e1 e2 e3 f1 f2 f3 dv dn dl w3) := ODW.out.grown KK3.out
  clear k3 HO BR RRW KW2
  have s0 : w3.cell? ⟨p12, 0, none⟩ = some (.slice e1 dv.length f1) := blk_at BD3.out 0 rfl
  have s1 : w3.cell? ⟨p12, 1, none⟩ = some (.slice e2 dn.length f2) := blk_at BD3.out 1 rfl
  have s2 : w3.cell? ⟨p12, 2, none⟩ = some (.slice e3 dl.length f3) := blk_at BD3.out 2 rfl
  have u0 : w3.cell? ⟨p14, 0, none⟩ = some (.slice b1 dv.length m1) := blk_at BR3.out 0 rfl
  have u1 : w3.cell? ⟨p14, 1, none⟩ = some (.slice b2 dn.length m2) := blk_at BR3.out 1 rfl
  have u2 : w3.cell? ⟨p14, 2, none⟩ = some (.slice b3 dl.length m3) := blk_at BR3.out 2 rfl
  have SC := refSameConfig_yes w3.heap.size p14 f1 f2 f3 m1 m2 m3 e1 e2 e3 b1 b2 b3 dv dn dl w3 OD3.out.rows RR3.out (by omega) (by omega) (by omega)
  go_wp2_with fail
  go_fit SC
  rintro e w4 ⟨rfl, k4⟩
  have KK4 : Hid (Kept Nil W1 w4) := KK3.out.trans k4
  have SSw4 : Hid (ES w B p3 p7 c1 c2 c3 d1 d2 d3 ck cm hd a1 a2 a3 x1 x2 x3 ro mo ho v n l hs os w4) := SSW1.out.kept KK4.out
  have OD4 : Hid (Own3 Z.heap.size e1 e2 e3 f1 f2 f3 dv dn dl w4) := OD3.out.grown k4
  clear k4 SC s0 s1 s2 u0 u1 u2 BR3 RR3 KK3 OD3 BD3 SSW2
  have q0 : w4.cell? ⟨p3, 0, none⟩ = some (.slice a1 v.length c1) := blk_at (SSw4.out.b3) 0 rfl
  have q1 : w4.cell? ⟨p3, 1, none⟩ = some (.slice a2 n.length c2) := blk_at (SSw4.out.b3) 1 rfl
  have q2 : w4.cell? ⟨p3, 2, none⟩ = some (.slice a3 l.length c3) := blk_at (SSw4.out.b3) 2 rfl
  have j0 : w4.cell? ⟨p7, 0, none⟩ = some (.slice x1 v.length d1) := blk_at (SSw4.out.b7) 0 rfl
  have j1 : w4.cell? ⟨p7, 1, none⟩ = some (.slice x2 n.length d2) := blk_at (SSw4.out.b7) 1 rfl
  have j2 : w4.cell? ⟨p7, 2, none⟩ = some (.slice x3 l.length d3) := blk_at (SSw4.out.b7) 2 rfl
  have FI := finish_any 0 d1 d2 d3 x1 x2 x3 v n l w4 SSw4.out.x1.own SSw4.out.x2.own SSw4.out.x3.own
  have RF0 := fun (Y : World) (hY : Kept Nil w4 Y) => refFinish_any B c1 c2 c3 a1 a2 a3 v n l Y (SSw4.out.kept hY).cr (Nat.le_trans SSw4.out.hB (SSw4.out.kept hY).kw.size) h1 h2 h3
  rw [← HR2.out] at FI RF0
  go_wp2_with fail
  go_fit FI
  intro e w5 hp
  obtain ⟨g1, g2, g3, t1, t2, t3, rfl, og, k5⟩ := BegPost.flat hp
  clear hp FI
  have HLL := HL2.out
  obtain ⟨gv, HGV⟩ : ∃ x, Hid (x = rV r2) := ⟨_, rfl⟩
  obtain ⟨gn, HGN⟩ : ∃ x, Hid (x = rN r2) := ⟨_, rfl⟩
  obtain ⟨gl, HGL⟩ : ∃ x, Hid (x = rL r2) := ⟨_, rfl⟩
  obtain ⟨k2', HK2⟩ : ∃ x, Hid (x = rC r2) := ⟨_, rfl⟩
  have RF := fun (Y : World) (hY : Kept Nil w4 Y) => (RF0 Y hY).mono (fun e w' h => RBegPost.flat h)
  rw [← HGV.out, ← HGN.out, ← HGL.out] at og HLL
  rw [← HGV.out, ← HGN.out, ← HGL.out, ← HK2.out] at RF
  rw [← HGV.out, ← HGN.out, ← HGL.out, ← HK2.out]
  obtain ⟨n1, n2, n3⟩ := HLL
  have OG : Hid (Own3 w4.heap.size g1 g2 g3 t1 t2 t3 gv gn gl w5) := og
  have K5 : Hid (Kept Nil w4 w5) := k5
  clear og k5 RF0 q0 q1 q2 j0 j1 j2
  obtain ⟨W5, hW5⟩ : ∃ W, W = w5.alloc (.cells #[.slice g1 gv.length t1, .slice g2 gn.length t2, .slice g3 gl.length t3] 24) := ⟨_, rfl⟩
  have KW5 : Hid (Kept Nil w4 W5) := by rw [hW5]; exact K5.out.alloc _
  have BGG : Hid (W5.heap[w5.heap.size]? = some (.cells #[.slice g1 gv.length t1, .slice g2 gn.length t2, .slice g3 gl.length t3] 24 (0, 0))) := by rw [hW5]; exact blk_new _ _
  have OGW : Hid (Own3 w4.heap.size g1 g2 g3 t1 t2 t3 gv gn gl W5) := by rw [hW5]; exact OG.out.grown ((Kept.refl _ _).alloc _)
  have DPG : Hid (∀ o, ¬ In3 e1 e2 e3 dv.length dn.length dl.length f1 f2 f3 w5.heap.size o) := fun o hi => by have h' := (OD4.out.lt hi).2; have h'' := K5.out.size; omega
  have SSW5 : Hid (ES w B p3 p7 c1 c2 c3 d1 d2 d3 ck cm hd a1 a2 a3 x1 x2 x3 ro mo ho v n l hs os W5) := SSw4.out.kept KW5.out
  have q0 : W5.cell? ⟨p3, 0, none⟩ = some (.slice a1 v.length c1) := blk_at (SSW5.out.b3) 0 rfl
  have q1 : W5.cell? ⟨p3, 1, none⟩ = some (.slice a2 n.length c2) := blk_at (SSW5.out.b3) 1 rfl
  have q2 : W5.cell? ⟨p3, 2, none⟩ = some (.slice a3 l.length c3) := blk_at (SSW5.out.b3) 2 rfl
  have j0 : W5.cell? ⟨p7, 0, none⟩ = some (.slice x1 v.length d1) := blk_at (SSW5.out.b7) 0 rfl
  have j1 : W5.cell? ⟨p7, 1, none⟩ = some (.slice x2 n.length d2) := blk_at (SSW5.out.b7) 1 rfl
  have j2 : W5.cell? ⟨p7, 2, none⟩ = some (.slice x3 l.length d3) := blk_at (SSW5.out.b7) 2 rfl
  go_upto_region 12 with fail
  rw [← hW5]
  clear hW5 OG K5
  generalize w5.heap.size = p18 at *
  go_wp2_with fail
  go_fit (RF W5 KW5.out)
  rintro e w6 ⟨b1, b2, b3, m1, m2, m3, rfl, rr, k6⟩
  have K6 : Hid (Kept Nil W5 w6) := k6
  have RR : Hid (CfRows w6.heap.size w6 b1 b2 b3 gv gn gl) := rr
  clear rr k6 RF q0 q1 q2 j0 j1 j2
  obtain ⟨W6, hW6⟩ : ∃ W, W = w6.alloc (.cells #[.slice b1 gv.length m1, .slice b2 gn.length m2, .slice b3 gl.length m3] 24) := ⟨_, rfl⟩
  have KW6 : Hid (Kept Nil W5 W6) := by rw [hW6]; exact K6.out.alloc _
  have BR : Hid (W6.heap[w6.heap.size]? = some (.cells #[.slice b1 gv.length m1, .slice b2 gn.length m2, .slice b3 gl.length m3] 24 (0, 0))) := by rw [hW6]; exact blk_new _ _
  have RRW : Hid (CfRows w6.heap.size W6 b1 b2 b3 gv gn gl) := by rw [hW6]; exact RR.out.alloc _
  have BG6 : Hid (W6.heap[p18]? = some (.cells #[.slice g1 gv.length t1, .slice g2 gn.length t2, .slice g3 gl.length t3] 24 (0, 0))) := KW6.out.block _ _ BGG.out (fun x => x.elim)
  have OG6 : Hid (Own3 w4.heap.size g1 g2 g3 t1 t2 t3 gv gn gl W6) := OGW.out.grown KW6.out
  have s0 : W6.cell? ⟨p18, 0, none⟩ = some (.slice g1 gv.length t1) := blk_at BG6.out 0 rfl
  have s1 : W6.cell? ⟨p18, 1, none⟩ = some (.slice g2 gn.length t2) := blk_at BG6.out 1 rfl
  have s2 : W6.cell? ⟨p18, 2, none⟩ = some (.slice g3 gl.length t3) := blk_at BG6.out 2 rfl
  have u0 : W6.cell? ⟨w6.heap.size, 0, none⟩ = some (.slice b1 gv.length m1) := blk_at BR.out 0 rfl
  have u1 : W6.cell? ⟨w6.heap.size, 1, none⟩ = some (.slice b2 gn.length m2) := blk_at BR.out 1 rfl
  have u2 : W6.cell? ⟨w6.heap.size, 2, none⟩ = some (.slice b3 gl.length m3) := blk_at BR.out 2 rfl
  have SC := refSameConfig_yes W6.heap.size w6.heap.size t1 t2 t3 m1 m2 m3 g1 g2 g3 b1 b2 b3 gv gn gl W6 OG6.out.rows RRW.out (by omega) (by omega) (by omega)
  go_upto_region 13 with fail
  rw [← hW6]
  clear hW6
  generalize w6.heap.size = p20 at *
  go_cut [22] (fun b wx => b = .bool true ∧ Hid (Kept Nil W6 wx))
  case first =>
    go_wp2_with fail
    go_fit SC
    rintro e w7 ⟨rfl, k7⟩
    have KK7 : Hid (Kept Nil W6 w7) := k7
    clear k7
    go_wp2
    go_meet
    case rel => exact ⟨rfl, KK7.out⟩
  case rest =>
    obtain ⟨rfl, KC⟩ := hcut
    rename World => w8
    have KD : Hid (Kept Nil W1 w8) := ((KK4.out.trans KW5.out).trans KW6.out).trans KC.out
    have DS8 : Hid (DS Z e1 e2 e3 g1 g2 g3 f1 f2 f3 t1 t2 t3 p12 p18 dv dn dl gv gn gl w8) := ⟨KW1.out.trans KD.out, KD.out.block _ _ BD.out (fun x => x.elim), KC.out.block _ _ BG6.out (fun x => x.elim), ODW.out.grown KD.out, ⟨w4.heap.size, Nat.le_trans KW1.out.size KK4.out.size, Nat.le_trans KW5.out.size (Nat.le_trans KW6.out.size KC.out.size), OG6.out.grown KC.out, fun k o hi => (OD4.out.lt hi).2⟩, ⟨l1, l2, l3⟩, ⟨n1, n2, n3⟩, fun o => ⟨DPP.out o, DPG.out o⟩⟩
    apply_assumption
    exact HPC.out w B p3 p7 c1 c2 c3 d1 d2 d3 ck cm hd a1 a2 a3 x1 x2 x3 ro mo ho v n l hs os Z w8 e1 e2 e3 g1 g2 g3 f1 f2 f3 t1 t2 t3 p12 p18 dv dn dl gv gn gl k1' k2' _ _ _ _ _ _ _ _ _ _ _ _ _ _ _ _ _ _ _ _ _ _ _ _ _ _ _ _ _ _ _ _ _ _ _ _ _ _ _ _ _ _ _ _ _ _ _ _ _ _ _ _ _ _ _ _ _ _ _ _ _ _ _ _ _ _ _ _ _ _ _ _ _ _ _ _ _ _ _ _ _ _ _ _ _ _ _ _ _ _ _ _ _ _ _ _ _ _ _ _ _ _ _ _ _ _ _ _ _ _ _ _ _ _ _ _ _ _ _ _ _ _ _ _ _ _ _ _ _ _ _ _ _ _ _ _ _ _ _ _ _ _ _ _ _ _ _ _ _ _ _ _ _ _ _ _ _ _ _ _ _ _ _ _ _ _ _ _ _ _ _ _ _ _ _ _ _ SSZ.out DS8.out

end Go.Proofs.Ytijklginabipgaa
