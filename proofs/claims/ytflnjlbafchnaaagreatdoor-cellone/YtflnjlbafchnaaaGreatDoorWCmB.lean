/-
  Joined: WCm2, WCm3, WCm4, WCm.
-/
import Derived.Test.YtflnjlbafchnaaaGreatDoorWCm1
import Derived.BigQuiet
import Derived.BigRegion
import Derived.Deep.DeepCutAuto
import Derived.Deep.DeepFit
import Derived.Deep.RegionHeld3
/-
  CellOne: the pieces of its code; from the last look on.
-/
namespace Go.Proofs.YtflnjlbafchnaaaGreatDoor
open Go.RowKit

def headIsC (n : Nat) : Code → Bool
  | .region k _ _ => k == n
  | .seq a _ => headIsC n a
  | .block _ c => headIsC n c
  | .loop c => headIsC n c
  | _ => false
/-- From the statement on that begins with a region. -/
def findTailC (n : Nat) : Code → Option Code
  | .seq a b => if headIsC n a then some (.seq a b) else match findTailC n a with
    | some c => some c
    | none => findTailC n b
  | .block _ c => findTailC n c
  | .loop c => findTailC n c
  | .cond _ a b => match findTailC n a with
    | some c => some c
    | none => findTailC n b
  | _ => none
noncomputable def cT10 : Code := (Tryz.f8.body.bind (findTailC 10)).getD .skip
noncomputable def cT14 : Code := (Tryz.f8.body.bind (findTailC 14)).getD .skip
noncomputable def cT30 : Code := (Tryz.f8.body.bind (findTailC 30)).getD .skip
set_option maxRecDepth 1000000 in
set_option maxHeartbeats 40000000 in
theorem cTail30 (w X : World) (sb mb : Nat) (L : Lo) (ns : List Ml) (J : Nat → Jb) (V : List UInt8 → List UInt8) (M : List UInt8 → Nat) (t : Nat) (pa : Option Addr) (pc : Nat) (one : List Pr) (fv0 fv1 fv2 fv3 fv4 fv5 fv6 fv9 fv10 fv11 fv12 fv13 fv14 fv15 fv16 fv17 fv18 fv19 fv20 fv21 fv22 fv23 fv24 fv25 fv26 fv27 fv28 fv29 fv30 fv31 fv32 fv33 fv34 fv35 fv36 fv37 fv38 fv39 fv40 fv41 fv42 fv43 fv44 fv45 fv46 fv47 fv48 fv49 fv50 fv51 fv52 fv53 fv54 fv55 fv56 fv57 fv58 fv59 fv60 fv61 fv62 fv63 fv64 fv65 fv66 fv67 fv68 fv69 fv70 fv71 fv72 fv73 fv74 fv75 fv76 fv77 fv78 fv79 fv80 fv81 fv82 fv83 fv84 fv85 fv86 fv87 fv88 fv89 fv90 fv91 fv92 fv93 fv94 fv95 fv96 fv97 fv98 fv99 fv100 fv101 fv102 fv103 fv104 fv105 fv106 fv107 fv108 fv109 fv110 fv111 fv112 fv113 fv114 fv115 fv116 fv117 fv118 fv119 fv120 fv121 fv122 fv123 fv124 fv125 fv126 fv127 fv128 fv129 fv130 fv131 fv132 fv133 fv134 fv135 fv136 fv137 fv138 fv139 fv140 fv141 fv142 fv143 fv144 fv145 fv146 fv147 fv148 fv149 fv150 fv151 fv152 fv153 fv154 fv155 fv156 fv157 fv158 fv159 fv160 : Value) (K1 : Act → World → Prop) (Q9 : Exit → Act → World → Prop)
    (hK : ∀ (u6 u17 u147 u148 u149 u150 u151 : Value)  (wc : World), Hid (RS w wc sb mb L ns J V M t pa pc one) → K1 ⟨#[fv0, fv1, fv2, fv3, fv4, fv5, u6, .pointer (some ⟨sb, 0, none⟩), .slice pa one.length pc, fv9, fv10, fv11, fv12, fv13, fv14, fv15, fv16, u17, fv18, fv19, fv20, fv21, fv22, fv23, fv24, fv25, fv26, fv27, fv28, fv29, fv30, fv31, fv32, fv33, fv34, fv35, fv36, fv37, fv38, fv39, fv40, fv41, fv42, fv43, fv44, fv45, fv46, fv47, fv48, fv49, fv50, fv51, fv52, fv53, fv54, fv55, fv56, fv57, fv58, fv59, fv60, fv61, fv62, fv63, fv64, fv65, fv66, fv67, fv68, fv69, fv70, fv71, fv72, fv73, fv74, fv75, fv76, fv77, fv78, fv79, fv80, fv81, fv82, fv83, fv84, fv85, fv86, fv87, fv88, fv89, fv90, fv91, fv92, fv93, fv94, fv95, fv96, fv97, fv98, fv99, fv100, fv101, fv102, fv103, fv104, fv105, fv106, fv107, fv108, fv109, fv110, fv111, fv112, fv113, fv114, fv115, fv116, fv117, fv118, fv119, fv120, fv121, fv122, fv123, fv124, fv125, fv126, fv127, fv128, fv129, fv130, fv131, fv132, fv133, fv134, fv135, fv136, fv137, fv138, fv139, fv140, fv141, fv142, fv143, fv144, fv145, fv146, u147, u148, u149, u150, u151, fv152, fv153, fv154, fv155, fv156, fv157, fv158, fv159, fv160], []⟩ wc)
    (HS : Hid (RS w X sb mb L ns J V M t pa pc one)) (HL : Hid (LW w ∧ 14 ≤ w.heap.size)) :
    Code.wp Tryz.prog cT30 (Exit.inBlock 1 (Exit.then K1 Q9)) ⟨#[fv0, fv1, fv2, fv3, fv4, fv5, fv6, .pointer (some ⟨sb, 0, none⟩), .slice pa one.length pc, fv9, fv10, fv11, fv12, fv13, fv14, fv15, fv16, fv17, fv18, fv19, fv20, fv21, fv22, fv23, fv24, fv25, fv26, fv27, fv28, fv29, fv30, fv31, fv32, fv33, fv34, fv35, fv36, fv37, fv38, fv39, fv40, fv41, fv42, fv43, fv44, fv45, fv46, fv47, fv48, fv49, fv50, fv51, fv52, fv53, fv54, fv55, fv56, fv57, fv58, fv59, fv60, fv61, fv62, fv63, fv64, fv65, fv66, fv67, fv68, fv69, fv70, fv71, fv72, fv73, fv74, fv75, fv76, fv77, fv78, fv79, fv80, fv81, fv82, fv83, fv84, fv85, fv86, fv87, fv88, fv89, fv90, fv91, fv92, fv93, fv94, fv95, fv96, fv97, fv98, fv99, fv100, fv101, fv102, fv103, fv104, fv105, fv106, fv107, fv108, fv109, fv110, fv111, fv112, fv113, fv114, fv115, fv116, fv117, fv118, fv119, fv120, fv121, fv122, fv123, fv124, fv125, fv126, fv127, fv128, fv129, fv130, fv131, fv132, fv133, fv134, fv135, fv136, fv137, fv138, fv139, fv140, fv141, fv142, fv143, fv144, fv145, fv146, fv147, fv148, fv149, fv150, fv151, fv152, fv153, fv154, fv155, fv156, fv157, fv158, fv159, fv160], []⟩ X := by
  have HKK : Hid (∀ (u6 u17 u147 u148 u149 u150 u151 : Value)  (wc : World), Hid (RS w wc sb mb L ns J V M t pa pc one) → K1 ⟨#[fv0, fv1, fv2, fv3, fv4, fv5, u6, .pointer (some ⟨sb, 0, none⟩), .slice pa one.length pc, fv9, fv10, fv11, fv12, fv13, fv14, fv15, fv16, u17, fv18, fv19, fv20, fv21, fv22, fv23, fv24, fv25, fv26, fv27, fv28, fv29, fv30, fv31, fv32, fv33, fv34, fv35, fv36, fv37, fv38, fv39, fv40, fv41, fv42, fv43, fv44, fv45, fv46, fv47, fv48, fv49, fv50, fv51, fv52, fv53, fv54, fv55, fv56, fv57, fv58, fv59, fv60, fv61, fv62, fv63, fv64, fv65, fv66, fv67, fv68, fv69, fv70, fv71, fv72, fv73, fv74, fv75, fv76, fv77, fv78, fv79, fv80, fv81, fv82, fv83, fv84, fv85, fv86, fv87, fv88, fv89, fv90, fv91, fv92, fv93, fv94, fv95, fv96, fv97, fv98, fv99, fv100, fv101, fv102, fv103, fv104, fv105, fv106, fv107, fv108, fv109, fv110, fv111, fv112, fv113, fv114, fv115, fv116, fv117, fv118, fv119, fv120, fv121, fv122, fv123, fv124, fv125, fv126, fv127, fv128, fv129, fv130, fv131, fv132, fv133, fv134, fv135, fv136, fv137, fv138, fv139, fv140, fv141, fv142, fv143, fv144, fv145, fv146, u147, u148, u149, u150, u151, fv152, fv153, fv154, fv155, fv156, fv157, fv158, fv159, fv160], []⟩ wc) := hK
  clear hK
  conv => arg 2; whnf
  dsimp only
  have AG := cagrees_any w X sb mb L ns J V M t pa pc one HS.out.cm HS.out.cr HS.out.op HS.out.oi HL.out.1 HL.out.2
  go_wp2_with fail
  go_fit AG
  rintro ee w2 ⟨rfl, k2⟩
  have HS2 : Hid (RS w w2 sb mb L ns J V M t pa pc one) := HS.out.next k2
  clear AG k2
  go_wp2
  exact HKK.out _ _ _ _ _ _ _ w2 HS2.out
end Go.Proofs.YtflnjlbafchnaaaGreatDoor

/-
  CellOne: a command of one of them.
-/
namespace Go.Proofs.YtflnjlbafchnaaaGreatDoor
open Go.RowKit

set_option maxRecDepth 1000000 in
set_option maxHeartbeats 40000000 in
theorem cTail14 (w X : World) (sb mb : Nat) (L : Lo) (ns : List Ml) (J : Nat → Jb) (V : List UInt8 → List UInt8) (M : List UInt8 → Nat) (t : Nat) (pa : Option Addr) (pc : Nat) (one : List Pr) (k : Nat) (fv0 fv1 fv2 fv3 fv4 fv5 fv6 fv9 fv11 fv12 fv13 fv14 fv15 fv16 fv17 fv18 fv19 fv20 fv21 fv22 fv23 fv24 fv25 fv26 fv27 fv28 fv29 fv30 fv31 fv32 fv33 fv34 fv35 fv36 fv37 fv38 fv39 fv40 fv41 fv42 fv43 fv44 fv45 fv46 fv47 fv48 fv49 fv50 fv51 fv52 fv53 fv54 fv55 fv56 fv57 fv58 fv59 fv60 fv61 fv62 fv63 fv64 fv65 fv66 fv67 fv68 fv69 fv70 fv71 fv72 fv73 fv74 fv75 fv76 fv77 fv78 fv79 fv80 fv81 fv82 fv83 fv84 fv85 fv86 fv87 fv88 fv89 fv90 fv91 fv92 fv93 fv94 fv95 fv96 fv97 fv98 fv99 fv100 fv101 fv102 fv103 fv104 fv105 fv106 fv107 fv108 fv109 fv110 fv111 fv112 fv113 fv114 fv115 fv116 fv117 fv118 fv119 fv120 fv121 fv122 fv123 fv124 fv125 fv126 fv127 fv128 fv129 fv130 fv131 fv132 fv133 fv134 fv135 fv136 fv137 fv138 fv139 fv140 fv141 fv142 fv143 fv144 fv145 fv146 fv147 fv148 fv149 fv150 fv151 fv152 fv153 fv154 fv155 fv156 fv157 fv158 fv159 fv160 : Value) (K1 : Act → World → Prop) (Q9 : Exit → Act → World → Prop)
    (hK : ∀ (u6 u8 u11 u12 u13 u14 u15 u16 u17 u75 u76 u77 u78 u79 u80 u81 u82 u83 u84 u85 u86 u87 u88 u89 u90 u91 u92 u93 u94 u95 u96 u97 u98 u99 u100 u101 u102 u103 u104 u105 u106 u107 u108 u109 u110 u111 u112 u113 u114 u115 u116 u117 u118 u119 u120 u121 u122 u123 u124 u125 u126 u127 u128 u129 u130 u131 u132 u133 u134 u135 u136 u137 u138 u139 u140 u141 u142 u143 u144 u145 u146 u147 u148 u149 u150 u151 : Value) (ns2 : List Ml) (J2 : Nat → Jb) (V2 : List UInt8 → List UInt8) (M2 : List UInt8 → Nat) (pa2 : Option Addr) (pc2 : Nat) (one2 : List Pr) (wc : World), Hid (u8 = .slice pa2 one2.length pc2 ∧ RS w wc sb mb L ns2 J2 V2 M2 (t + 1) pa2 pc2 one2) → K1 ⟨#[fv0, fv1, fv2, fv3, fv4, fv5, u6, .pointer (some ⟨sb, 0, none⟩), u8, fv9, .int .i64 k, u11, u12, u13, u14, u15, u16, u17, fv18, fv19, fv20, fv21, fv22, fv23, fv24, fv25, fv26, fv27, fv28, fv29, fv30, fv31, fv32, fv33, fv34, fv35, fv36, fv37, fv38, fv39, fv40, fv41, fv42, fv43, fv44, fv45, fv46, fv47, fv48, fv49, fv50, fv51, fv52, fv53, fv54, fv55, fv56, fv57, fv58, fv59, fv60, fv61, fv62, fv63, fv64, fv65, fv66, fv67, fv68, fv69, fv70, fv71, fv72, fv73, fv74, u75, u76, u77, u78, u79, u80, u81, u82, u83, u84, u85, u86, u87, u88, u89, u90, u91, u92, u93, u94, u95, u96, u97, u98, u99, u100, u101, u102, u103, u104, u105, u106, u107, u108, u109, u110, u111, u112, u113, u114, u115, u116, u117, u118, u119, u120, u121, u122, u123, u124, u125, u126, u127, u128, u129, u130, u131, u132, u133, u134, u135, u136, u137, u138, u139, u140, u141, u142, u143, u144, u145, u146, u147, u148, u149, u150, u151, fv152, fv153, fv154, fv155, fv156, fv157, fv158, fv159, fv160], []⟩ wc)
    (HS : Hid (RS w X sb mb L ns J V M t pa pc one)) (HL : Hid (LW w ∧ 14 ≤ w.heap.size)) (hk : k < L.ds.length) (hk0 : k = 0 ∨ (J 0).ph = 7) (ht : t < 999999) (hn7 : L.ds.length ≤ 7) :
    Code.wp Tryz.prog cT14 (Exit.inBlock 1 (Exit.then K1 Q9)) ⟨#[fv0, fv1, fv2, fv3, fv4, fv5, fv6, .pointer (some ⟨sb, 0, none⟩), .slice pa one.length pc, fv9, .int .i64 k, fv11, fv12, fv13, fv14, fv15, fv16, fv17, fv18, fv19, fv20, fv21, fv22, fv23, fv24, fv25, fv26, fv27, fv28, fv29, fv30, fv31, fv32, fv33, fv34, fv35, fv36, fv37, fv38, fv39, fv40, fv41, fv42, fv43, fv44, fv45, fv46, fv47, fv48, fv49, fv50, fv51, fv52, fv53, fv54, fv55, fv56, fv57, fv58, fv59, fv60, fv61, fv62, fv63, fv64, fv65, fv66, fv67, fv68, fv69, fv70, fv71, fv72, fv73, fv74, fv75, fv76, fv77, fv78, fv79, fv80, fv81, fv82, fv83, fv84, fv85, fv86, fv87, fv88, fv89, fv90, fv91, fv92, fv93, fv94, fv95, fv96, fv97, fv98, fv99, fv100, fv101, fv102, fv103, fv104, fv105, fv106, fv107, fv108, fv109, fv110, fv111, fv112, fv113, fv114, fv115, fv116, fv117, fv118, fv119, fv120, fv121, fv122, fv123, fv124, fv125, fv126, fv127, fv128, fv129, fv130, fv131, fv132, fv133, fv134, fv135, fv136, fv137, fv138, fv139, fv140, fv141, fv142, fv143, fv144, fv145, fv146, fv147, fv148, fv149, fv150, fv151, fv152, fv153, fv154, fv155, fv156, fv157, fv158, fv159, fv160], []⟩ X := by
  have HKK : Hid (∀ (u6 u8 u11 u12 u13 u14 u15 u16 u17 u75 u76 u77 u78 u79 u80 u81 u82 u83 u84 u85 u86 u87 u88 u89 u90 u91 u92 u93 u94 u95 u96 u97 u98 u99 u100 u101 u102 u103 u104 u105 u106 u107 u108 u109 u110 u111 u112 u113 u114 u115 u116 u117 u118 u119 u120 u121 u122 u123 u124 u125 u126 u127 u128 u129 u130 u131 u132 u133 u134 u135 u136 u137 u138 u139 u140 u141 u142 u143 u144 u145 u146 u147 u148 u149 u150 u151 : Value) (ns2 : List Ml) (J2 : Nat → Jb) (V2 : List UInt8 → List UInt8) (M2 : List UInt8 → Nat) (pa2 : Option Addr) (pc2 : Nat) (one2 : List Pr) (wc : World), Hid (u8 = .slice pa2 one2.length pc2 ∧ RS w wc sb mb L ns2 J2 V2 M2 (t + 1) pa2 pc2 one2) → K1 ⟨#[fv0, fv1, fv2, fv3, fv4, fv5, u6, .pointer (some ⟨sb, 0, none⟩), u8, fv9, .int .i64 k, u11, u12, u13, u14, u15, u16, u17, fv18, fv19, fv20, fv21, fv22, fv23, fv24, fv25, fv26, fv27, fv28, fv29, fv30, fv31, fv32, fv33, fv34, fv35, fv36, fv37, fv38, fv39, fv40, fv41, fv42, fv43, fv44, fv45, fv46, fv47, fv48, fv49, fv50, fv51, fv52, fv53, fv54, fv55, fv56, fv57, fv58, fv59, fv60, fv61, fv62, fv63, fv64, fv65, fv66, fv67, fv68, fv69, fv70, fv71, fv72, fv73, fv74, u75, u76, u77, u78, u79, u80, u81, u82, u83, u84, u85, u86, u87, u88, u89, u90, u91, u92, u93, u94, u95, u96, u97, u98, u99, u100, u101, u102, u103, u104, u105, u106, u107, u108, u109, u110, u111, u112, u113, u114, u115, u116, u117, u118, u119, u120, u121, u122, u123, u124, u125, u126, u127, u128, u129, u130, u131, u132, u133, u134, u135, u136, u137, u138, u139, u140, u141, u142, u143, u144, u145, u146, u147, u148, u149, u150, u151, fv152, fv153, fv154, fv155, fv156, fv157, fv158, fv159, fv160], []⟩ wc) := hK
  clear hK
  conv => arg 2; whnf
  dsimp only
  obtain ⟨ja, hja⟩ : ∃ a, L.jo = some a := by
    obtain ⟨g, e, _⟩ := own_some HS.out.cm.jr (by omega)
    exact ⟨_, e⟩
  have hkx : k < L.xs.length := by obtain ⟨h, _⟩ := HS.out.wi k hk; exact h
  obtain ⟨wa, hwa⟩ : ∃ a, L.wo = some a := by
    obtain ⟨g, e, _⟩ := own_some HS.out.cm.wr (by omega)
    exact ⟨_, e⟩
  obtain ⟨b, Hb⟩ : ∃ b, Hid (b = L.ds[k]) := ⟨L.ds[k], (rfl : L.ds[k] = L.ds[k])⟩
  obtain ⟨n, Hn⟩ : ∃ n, Hid (n = L.ds.length) := ⟨_, rfl⟩
  obtain ⟨jc, Hjc⟩ : ∃ n, Hid (n = L.jc) := ⟨_, rfl⟩
  obtain ⟨xn, Hxn⟩ : ∃ n, Hid (n = L.xs.length) := ⟨_, rfl⟩
  obtain ⟨xc, Hxc⟩ : ∃ n, Hid (n = L.wc) := ⟨_, rfl⟩
  obtain ⟨j, Hj⟩ : ∃ j, Hid (j = J k) := ⟨_, rfl⟩
  have HSB : Hid (∀ Y ns' J', CM w Y sb mb L ns' J' → Y.cell? ⟨sb, 1, none⟩ = some (.slice (some ja) n jc) ∧ Y.cell? (ja.add k) = some (.pointer (some ⟨b, 0, none⟩)) ∧ Y.cell? ⟨sb, 2, none⟩ = some (.slice (some wa) xn xc)) := fun Y ns' J' hY => by
    refine ⟨?_, by rw [Hb.out]; exact hY.job hk hja, ?_⟩
    · have := blk_at hY.sp 1 rfl
      rw [hja, ← Hn.out, ← Hjc.out] at this
      exact this
    · have := blk_at hY.sp 2 rfl
      rw [hwa, ← Hxn.out, ← Hxc.out] at this
      exact this
  have HWH : Hid (∀ Y ns' J', CM w Y sb mb L ns' J' → Y.cell? (wa.add (k * 6)) = some (.int .i64 j.kd) ∧ Y.cell? ⟨(wa.add (k * 6)).block, (wa.add (k * 6)).off + 1, none⟩ = some (.string (bs j.k)) ∧ Y.cell? ⟨(wa.add (k * 6)).block, (wa.add (k * 6)).off + 2, none⟩ = some (.string (bs j.v)) ∧ Y.cell? ⟨(wa.add (k * 6)).block, (wa.add (k * 6)).off + 3, none⟩ = some (.int .i64 j.m) ∧ Y.cell? ⟨(wa.add (k * 6)).block, (wa.add (k * 6)).off + 4, none⟩ = some (.int .i64 j.tg)) := fun Y ns' J' hY => by
    obtain ⟨_, e1, e2, e3, e4, e5⟩ := HS.out.wi k hk
    rw [Hj.out, e1, e2, e3, e4, e5]
    exact hY.what hwa hkx
  have hki : (k : Int) < n := by rw [Hn.out]; omega
  have hkxi : (k : Int) < xn := by rw [Hxn.out]; omega
  have hk0i : (0 : Int) ≤ k := by omega
  obtain ⟨K0, hK0⟩ := HS.out.cm.jb k hk
  have hJ0 : JbAt X b j K0 := by rw [Hb.out, Hj.out]; exact hK0
  have LK := clook_any X b j K0 hJ0
  unfold stV at LK
  obtain ⟨s1, s2, s3⟩ := HSB.out X ns J HS.out.cm
  have HST : Hid (j.st = if j.ph = 7 then 2 else 1) := by rw [Hj.out]; exact HS.out.cr.state hk
  clear hK0 hJ0 hja hwa
  go_wp2_with fail
  go_fit LK
  rintro ee w1 ⟨rfl, k1⟩
  obtain ⟨W1, hW1⟩ : ∃ W, W = w1.alloc (.cells #[.int .i64 j.st, .int .i64 j.at', .int .i64 j.rs.kd, .string (bs j.rs.v), .int .i64 j.rs.n, .slice K0.ro j.rs.ks.length K0.rc] 76) := ⟨_, rfl⟩
  obtain ⟨A, HA⟩ : ∃ A, Hid (A = w1.heap.size) := ⟨_, rfl⟩
  have HAB : Hid (W1.heap[A]? = some (.cells #[.int .i64 j.st, .int .i64 j.at', .int .i64 j.rs.kd, .string (bs j.rs.v), .int .i64 j.rs.n, .slice K0.ro j.rs.ks.length K0.rc] 76 (0, 0))) := by rw [hW1, HA.out]; exact blk_new _ _
  have KW1 : Hid (Kept Nil X W1) := by rw [hW1]; exact Kept.alloc k1 _
  go_upto_region 15 with fail
  rw [← hW1, ← HA.out]
  clear hW1 HA LK s1 s2 s3 k1
  have CS := cstep_any w W1 sb mb L ns J V M t k (HS.out.cm.next KW1.out) HS.out.cr hk HL.out.1 HL.out.2
  go_wp2_with fail
  go_fit CS
  intro ee w2 hsp
  rcases hsp with ⟨hp7, rfl, k2⟩ | ⟨hp6, rfl, ns', ps, hps, hns, hcm, hkx2, -⟩
  · have HST2 : Hid (j.st = 2) := by rw [← Hj.out] at hp7; have := HST.out; rwa [if_pos hp7] at this
    have h7 : (J 0).ph = 7 := by
      rcases hk0 with e | e
      · rw [← e]; exact hp7
      · exact e
    have HS2 : Hid (RS w w2 sb mb L ns J V M (t + 1) pa pc one) := (HS.out.next KW1.out).still k2 h7
    have HAB2 : Hid (w2.heap[A]? = some (.cells #[.int .i64 j.st, .int .i64 j.at', .int .i64 j.rs.kd, .string (bs j.rs.v), .int .i64 j.rs.n, .slice K0.ro j.rs.ks.length K0.rc] 76 (0, 0))) := k2.block _ _ HAB.out (fun x => x)
    obtain ⟨K2, hK2⟩ := HS2.out.cm.jb k hk
    have LK2 := clook_any w2 b j K2 (by rw [Hb.out, Hj.out]; exact hK2)
    unfold stV at LK2
    obtain ⟨z1, z2, z3⟩ := HSB.out w2 ns J HS2.out.cm
    clear hp7 h7 k2 hK2
    clear CS HAB
    go_wp2_with fail
    go_fit LK2
    rintro ee w3 ⟨rfl, k3⟩
    obtain ⟨W3, hW3⟩ : ∃ W, W = w3.alloc (.cells #[.int .i64 j.st, .int .i64 j.at', .int .i64 j.rs.kd, .string (bs j.rs.v), .int .i64 j.rs.n, .slice K2.ro j.rs.ks.length K2.rc] 76) := ⟨_, rfl⟩
    obtain ⟨C, HC⟩ : ∃ A, Hid (A = w3.heap.size) := ⟨_, rfl⟩
    have HCB : Hid (W3.heap[C]? = some (.cells #[.int .i64 j.st, .int .i64 j.at', .int .i64 j.rs.kd, .string (bs j.rs.v), .int .i64 j.rs.n, .slice K2.ro j.rs.ks.length K2.rc] 76 (0, 0))) := by rw [hW3, HC.out]; exact blk_new _ _
    have KW3 : Hid (Kept Nil w2 W3) := by rw [hW3]; exact Kept.alloc k3 _
    go_upto_region 17 with fail
    rw [← hW3, ← HC.out]
    clear hW3 HC LK2 k3 z1 z2 z3
    have c0 : W3.cell? ⟨A, 0, none⟩ = some (.int .i64 2) := by have := blk_at (KW3.out.block _ _ HAB2.out (fun x => x)) 0 rfl; rw [HST2.out] at this; exact this
    have HF : Hid (∃ ns2 J2 V2 M2 pa2 pc2 one2, (.slice pa one.length pc : Value) = .slice pa2 one2.length pc2 ∧ RS w W3 sb mb L ns2 J2 V2 M2 (t + 1) pa2 pc2 one2) := ⟨_, _, _, _, _, _, _, rfl, HS2.out.next KW3.out⟩
    go_upto_if 108 with fail
    go_cut [6, 8, 14, 15, 16] from 109 to 146 (fun _ u _ _ _ wc => Hid (∃ ns2 J2 V2 M2 pa2 pc2 one2, u = .slice pa2 one2.length pc2 ∧ RS w wc sb mb L ns2 J2 V2 M2 (t + 1) pa2 pc2 one2))
    case first =>
      go_wp2
      go_meet
      exact HF.out
    case rest =>
      obtain ⟨ns2, J2, V2, M2, pa2, pc2, one2, e8, hS9⟩ := hcut.out
      subst e8
      rename World => w9
      have HS9 : Hid (RS w w9 sb mb L ns2 J2 V2 M2 (t + 1) pa2 pc2 one2) := hS9
      clear hcut hS9
      apply_assumption
      refine cTail30 w w9 sb mb L ns2 J2 V2 M2 (t + 1) pa2 pc2 one2 _ _ _ _ _ _ _ _ _ _ _ _ _ _ _ _ _ _ _ _ _ _ _ _ _ _ _ _ _ _ _ _ _ _ _ _ _ _ _ _ _ _ _ _ _ _ _ _ _ _ _ _ _ _ _ _ _ _ _ _ _ _ _ _ _ _ _ _ _ _ _ _ _ _ _ _ _ _ _ _ _ _ _ _ _ _ _ _ _ _ _ _ _ _ _ _ _ _ _ _ _ _ _ _ _ _ _ _ _ _ _ _ _ _ _ _ _ _ _ _ _ _ _ _ _ _ _ _ _ _ _ _ _ _ _ _ _ _ _ _ _ _ _ _ _ _ _ _ _ _ _ _ _ _ _ _ _ _ _ _ _ ?_ HS9 HL
      intro u6 u17 u147 u148 u149 u150 u151 wz h1
      exact HKK.out _ _ _ _ _ _ _ _ _ _ _ _ _ _ _ _ _ _ _ _ _ _ _ _ _ _ _ _ _ _ _ _ _ _ _ _ _ _ _ _ _ _ _ _ _ _ _ _ _ _ _ _ _ _ _ _ _ _ _ _ _ _ _ _ _ _ _ _ _ _ _ _ _ _ _ _ _ _ _ _ _ _ _ _ _ _ ns2 J2 V2 M2 pa2 pc2 one2 wz ⟨rfl, h1.out⟩
  · obtain ⟨j2, Hj2⟩ : ∃ j2, Hid (j2 = (J k).answer (jR (J k) ps)) := ⟨_, rfl⟩
    rw [← Hj2.out] at hcm
    obtain ⟨V2, M2, hst⟩ := (HS.out.next KW1.out).stepped hn7 ht hk hp6 hk0 hps hns Hj2.out hcm hkx2
    have HT : Hid (Stp w w2 sb mb L ns' J k j2 V V2 M M2 t pa pc one) := hst
    have HST1 : Hid (j.st = 1) := by have := HST.out; rwa [if_neg (by rw [Hj.out]; omega)] at this
    have HAB2 : Hid (w2.heap[A]? = some (.cells #[.int .i64 j.st, .int .i64 j.at', .int .i64 j.rs.kd, .string (bs j.rs.v), .int .i64 j.rs.n, .slice K0.ro j.rs.ks.length K0.rc] 76 (0, 0))) := hkx2.block _ _ HAB.out (XC.off (by decide) (by decide))
    obtain ⟨K2, hK2⟩ := HT.out.cm.jb k hk
    rw [updj_at] at hK2
    have LK2 := clook_any w2 b j2 K2 (by rw [Hb.out]; exact hK2)
    unfold stV at LK2
    obtain ⟨hj2s, hj2k⟩ := HT.out.st hk
    have HJS : Hid (j2.st = (if j2.ph = 7 then 2 else 1) ∧ j2.rs.ks = []) := ⟨hj2s, hj2k⟩
    obtain ⟨r, Hr⟩ : ∃ r, Hid (r = j2.rs) := ⟨_, rfl⟩
    obtain ⟨ro, Hro⟩ : ∃ x, Hid (x = K2.ro) := ⟨_, rfl⟩
    obtain ⟨rc, Hrc⟩ : ∃ x, Hid (x = K2.rc) := ⟨_, rfl⟩
    rw [← Hr.out, ← Hro.out, ← Hrc.out] at LK2
    obtain ⟨z1, z2, z3⟩ := HSB.out w2 ns' _ HT.out.cm
    have HP6 : Hid ((J k).ph ≤ 6) := hp6
    clear hps hns hcm hkx2 hst hK2 hj2s hj2k hp6
    clear CS HAB
    go_wp2_with fail
    go_fit LK2
    rintro ee w3 ⟨rfl, k3⟩
    obtain ⟨W3, hW3⟩ : ∃ W, W = w3.alloc (.cells #[.int .i64 j2.st, .int .i64 j2.at', .int .i64 r.kd, .string (bs r.v), .int .i64 r.n, .slice ro r.ks.length rc] 76) := ⟨_, rfl⟩
    obtain ⟨C, HC⟩ : ∃ A, Hid (A = w3.heap.size) := ⟨_, rfl⟩
    have HCB : Hid (W3.heap[C]? = some (.cells #[.int .i64 j2.st, .int .i64 j2.at', .int .i64 r.kd, .string (bs r.v), .int .i64 r.n, .slice ro r.ks.length rc] 76 (0, 0))) := by rw [hW3, HC.out]; exact blk_new _ _
    have KW3 : Hid (Kept Nil w2 W3) := by rw [hW3]; exact Kept.alloc k3 _
    go_upto_region 17 with fail
    rw [← hW3, ← HC.out]
    clear hW3 HC LK2 k3 z1 z2 z3
    have HT3 : Hid (Stp w W3 sb mb L ns' J k j2 V V2 M M2 t pa pc one) := HT.out.next KW3.out
    have a0 : W3.cell? ⟨A, 0, none⟩ = some (.int .i64 1) := by have := blk_at (KW3.out.block _ _ HAB2.out (fun x => x)) 0 rfl; rw [HST1.out] at this; exact this
    by_cases h7 : j2.ph = 7
    · have HST3 : Hid (j2.st = 2) := by have := HJS.out.1; rwa [if_pos h7] at this
      have c0 : W3.cell? ⟨C, 0, none⟩ = some (.int .i64 2) := by have := blk_at HCB.out 0 rfl; rw [HST3.out] at this; exact this
      obtain ⟨g1, g2, g3⟩ := HSB.out W3 ns' _ HT3.out.cm
      obtain ⟨q0, q1, q2, q3, q4⟩ := HWH.out W3 ns' _ HT3.out.cm
      go_upto_if 108 with fail
      go_cut [6, 8, 14, 15, 16] from 109 to 146 (fun _ u _ _ _ wc => Hid (∃ ns2 J2 V2 M2 pa2 pc2 one2, u = .slice pa2 one2.length pc2 ∧ RS w wc sb mb L ns2 J2 V2 M2 (t + 1) pa2 pc2 one2))
      case first =>
        by_cases h0 : j.tg = 0
        · have h0J : (J k).tg = 0 := by rw [← Hj.out]; exact h0
          obtain ⟨hone, hrs⟩ := HS.out.oi.step HS.out.cr hn7 ht hk HP6.out HT.out.md h7 h0J
          rw [← Hj.out] at hone hrs
          rw [← Hr.out] at hrs
          have AP := apply_any _ pc pa one j.k j.v j.kd j.m W3 (HT3.out.op.row (pairs_fit HS.out.oi.ok)) HT3.out.op.nilc (by have := (pairs_ok HS.out.oi.ok).1; omega) (by have := (HS.out.cr.ri.job k hk).ok.k2; rw [← Hj.out] at this; unfold maxLen; omega) (by have := (HS.out.cr.ri.job k hk).ok.v; rw [← Hj.out] at this; unfold maxLen; omega)
          obtain ⟨one2, Ho2⟩ : ∃ l, Hid (l = apP j.kd j.k j.v j.m one) := ⟨_, rfl⟩
          rw [← Ho2.out] at hone AP
          rw [hrs] at AP
          have HON : Hid (OneI one2 V2 M2) := hone
          have q4' : W3.cell? ⟨(wa.add (k * 6)).block, (wa.add (k * 6)).off + 4, none⟩ = some (.int .i64 0) := by rw [h0] at q4; exact q4
          have hrk : r.ks = [] := by rw [Hr.out]; exact HJS.out.2
          have HRK : Hid (r.ks = []) := hrk
          clear q4 hone hrs h0 h0J h7 a0 hrk
          go_wp2_with fail
          go_fit AP
          rintro ee w5 ⟨a5, c5, ko, kc, rfl, o5, _, k5⟩
          unfold rrV
          obtain ⟨W6, hW6⟩ : ∃ W, W = w5.alloc (.cells #[.int .i64 r.kd, .string (bs r.v), .int .i64 r.n, .slice ko r.ks.length kc] 50) := ⟨_, rfl⟩
          obtain ⟨R, HR⟩ : ∃ A, Hid (A = w5.heap.size) := ⟨_, rfl⟩
          have HRB : Hid (W6.heap[R]? = some (.cells #[.int .i64 r.kd, .string (bs r.v), .int .i64 r.n, .slice ko r.ks.length kc] 50 (0, 0))) := by rw [hW6, HR.out]; exact blk_new _ _
          have KW6 : Hid (Kept Nil W3 W6) := by rw [hW6]; exact Kept.alloc k5 _
          have HO6 : Hid (OwnP w.heap.size W6 a5 c5 one2) := by rw [hW6]; exact own_kept (X := Nil) (own_mono o5 (HT3.out.cm.kw.size)) ((Kept.refl _ _).alloc _) (fun _ _ _ x => x)
          go_upto_region 24 with fail
          rw [← hW6, ← HR.out]
          clear hW6 HR k5 o5 AP q0 q1 q2 q3 q4' g1 g2 g3 c0
          have HCB6 : Hid (W6.heap[C]? = _) := KW6.out.block _ _ HCB.out (fun x => x)
          have c2 : W6.cell? ⟨C, 2, none⟩ = some (.int .i64 r.kd) := blk_at HCB6.out 2 rfl
          have c3 : W6.cell? ⟨C, 3, none⟩ = some (.string (bs r.v)) := blk_at HCB6.out 3 rfl
          have c4 : W6.cell? ⟨C, 4, none⟩ = some (.int .i64 r.n) := blk_at HCB6.out 4 rfl
          have c5' : W6.cell? ⟨C, 5, none⟩ = some (.slice ro r.ks.length rc) := blk_at HCB6.out 5 rfl
          have r0 : W6.cell? ⟨R, 0, none⟩ = some (.int .i64 r.kd) := blk_at HRB.out 0 rfl
          have r1 : W6.cell? ⟨R, 1, none⟩ = some (.string (bs r.v)) := blk_at HRB.out 1 rfl
          have r2 : W6.cell? ⟨R, 2, none⟩ = some (.int .i64 r.n) := blk_at HRB.out 2 rfl
          have r3 : W6.cell? ⟨R, 3, none⟩ = some (.slice ko r.ks.length kc) := blk_at HRB.out 3 rfl
          have SR := csame_any r HRK.out ko ro kc rc W6
          unfold rrV at SR
          go_wp2_with fail
          go_fit SR
          rintro ee w7 ⟨rfl, k7⟩
          have HF : Hid (∃ ns2 J2 V2 M2 pa2 pc2 one3, (.slice a5 one2.length c5 : Value) = .slice pa2 one3.length pc2 ∧ RS w w7 sb mb L ns2 J2 V2 M2 (t + 1) pa2 pc2 one3) := ⟨_, _, _, _, _, _, _, rfl, (HT3.out.next (KW6.out.trans k7)).done HON.out (HO6.out.kept k7)⟩
          clear SR k7 c2 c3 c4 c5' r0 r1 r2 r3
          go_wp2
          go_meet
          exact HF.out
        · have h0J : 0 < (J k).tg := by rw [← Hj.out]; omega
          have hkd : j2.rs.kd = 1 := by rw [((HT.out.md.ef.1 h7).2 h0J).2.2]
          have c2 : W3.cell? ⟨C, 2, none⟩ = some (.int .i64 1) := by have := blk_at HCB.out 2 rfl; rw [Hr.out, hkd] at this; exact this
          have HF : Hid (∃ ns2 J2 V2 M2 pa2 pc2 one2, (.slice pa one.length pc : Value) = .slice pa2 one2.length pc2 ∧ RS w W3 sb mb L ns2 J2 V2 M2 (t + 1) pa2 pc2 one2) := ⟨_, _, _, _, _, _, _, rfl, HT3.out.same HS.out.oi (.inr h0J)⟩
          have htg : ((j.tg : Int) == 0) = false := by simp; exact h0
          clear h0J hkd h7
          go_wp2
          go_meet
          exact HF.out
      case rest =>
        obtain ⟨ns2, J2, V2, M2, pa2, pc2, one2, e8, hS9⟩ := hcut.out
        subst e8
        rename World => w9
        have HS9 : Hid (RS w w9 sb mb L ns2 J2 V2 M2 (t + 1) pa2 pc2 one2) := hS9
        clear hcut hS9
        apply_assumption
        refine cTail30 w w9 sb mb L ns2 J2 V2 M2 (t + 1) pa2 pc2 one2 _ _ _ _ _ _ _ _ _ _ _ _ _ _ _ _ _ _ _ _ _ _ _ _ _ _ _ _ _ _ _ _ _ _ _ _ _ _ _ _ _ _ _ _ _ _ _ _ _ _ _ _ _ _ _ _ _ _ _ _ _ _ _ _ _ _ _ _ _ _ _ _ _ _ _ _ _ _ _ _ _ _ _ _ _ _ _ _ _ _ _ _ _ _ _ _ _ _ _ _ _ _ _ _ _ _ _ _ _ _ _ _ _ _ _ _ _ _ _ _ _ _ _ _ _ _ _ _ _ _ _ _ _ _ _ _ _ _ _ _ _ _ _ _ _ _ _ _ _ _ _ _ _ _ _ _ _ _ _ _ _ ?_ HS9 HL
        intro u6 u17 u147 u148 u149 u150 u151 wz h1
        exact HKK.out _ _ _ _ _ _ _ _ _ _ _ _ _ _ _ _ _ _ _ _ _ _ _ _ _ _ _ _ _ _ _ _ _ _ _ _ _ _ _ _ _ _ _ _ _ _ _ _ _ _ _ _ _ _ _ _ _ _ _ _ _ _ _ _ _ _ _ _ _ _ _ _ _ _ _ _ _ _ _ _ _ _ _ _ _ _ ns2 J2 V2 M2 pa2 pc2 one2 wz ⟨rfl, h1.out⟩
    · have HST3 : Hid (j2.st = 1) := by have := HJS.out.1; rwa [if_neg h7] at this
      have c0 : W3.cell? ⟨C, 0, none⟩ = some (.int .i64 1) := by have := blk_at HCB.out 0 rfl; rw [HST3.out] at this; exact this
      have HF : Hid (∃ ns2 J2 V2 M2 pa2 pc2 one2, (.slice pa one.length pc : Value) = .slice pa2 one2.length pc2 ∧ RS w W3 sb mb L ns2 J2 V2 M2 (t + 1) pa2 pc2 one2) := ⟨_, _, _, _, _, _, _, rfl, HT3.out.same HS.out.oi (.inl h7)⟩
      clear h7
      go_upto_if 108 with fail
      go_cut [6, 8, 14, 15, 16] from 109 to 146 (fun _ u _ _ _ wc => Hid (∃ ns2 J2 V2 M2 pa2 pc2 one2, u = .slice pa2 one2.length pc2 ∧ RS w wc sb mb L ns2 J2 V2 M2 (t + 1) pa2 pc2 one2))
      case first =>
        go_wp2
        go_meet
        exact HF.out
      case rest =>
        obtain ⟨ns2, J2, V2, M2, pa2, pc2, one2, e8, hS9⟩ := hcut.out
        subst e8
        rename World => w9
        have HS9 : Hid (RS w w9 sb mb L ns2 J2 V2 M2 (t + 1) pa2 pc2 one2) := hS9
        clear hcut hS9
        apply_assumption
        refine cTail30 w w9 sb mb L ns2 J2 V2 M2 (t + 1) pa2 pc2 one2 _ _ _ _ _ _ _ _ _ _ _ _ _ _ _ _ _ _ _ _ _ _ _ _ _ _ _ _ _ _ _ _ _ _ _ _ _ _ _ _ _ _ _ _ _ _ _ _ _ _ _ _ _ _ _ _ _ _ _ _ _ _ _ _ _ _ _ _ _ _ _ _ _ _ _ _ _ _ _ _ _ _ _ _ _ _ _ _ _ _ _ _ _ _ _ _ _ _ _ _ _ _ _ _ _ _ _ _ _ _ _ _ _ _ _ _ _ _ _ _ _ _ _ _ _ _ _ _ _ _ _ _ _ _ _ _ _ _ _ _ _ _ _ _ _ _ _ _ _ _ _ _ _ _ _ _ _ _ _ _ _ ?_ HS9 HL
        intro u6 u17 u147 u148 u149 u150 u151 wz h1
        exact HKK.out _ _ _ _ _ _ _ _ _ _ _ _ _ _ _ _ _ _ _ _ _ _ _ _ _ _ _ _ _ _ _ _ _ _ _ _ _ _ _ _ _ _ _ _ _ _ _ _ _ _ _ _ _ _ _ _ _ _ _ _ _ _ _ _ _ _ _ _ _ _ _ _ _ _ _ _ _ _ _ _ _ _ _ _ _ _ ns2 J2 V2 M2 pa2 pc2 one2 wz ⟨rfl, h1.out⟩
end Go.Proofs.YtflnjlbafchnaaaGreatDoor

/-
  CellOne: a round.
-/
namespace Go.Proofs.YtflnjlbafchnaaaGreatDoor
open Go.RowKit

set_option maxRecDepth 1000000 in
set_option maxHeartbeats 40000000 in
theorem cTail10 (w X : World) (sb mb : Nat) (L : Lo) (ns : List Ml) (J : Nat → Jb) (V : List UInt8 → List UInt8) (M : List UInt8 → Nat) (t : Nat) (pa : Option Addr) (pc : Nat) (one : List Pr) (b0 : Nat) (i : Int) (ta so : Option Addr) (tc sc : Nat) (ts ss : List Int) (fv0 fv3 fv4 fv5 fv6 fv10 fv11 fv12 fv13 fv14 fv15 fv16 fv17 fv18 fv19 fv20 fv21 fv22 fv23 fv24 fv25 fv26 fv27 fv28 fv29 fv30 fv31 fv32 fv33 fv34 fv35 fv36 fv37 fv38 fv39 fv40 fv41 fv42 fv43 fv44 fv45 fv46 fv47 fv48 fv49 fv50 fv51 fv52 fv53 fv54 fv55 fv56 fv57 fv58 fv59 fv60 fv61 fv62 fv63 fv64 fv65 fv66 fv67 fv68 fv69 fv70 fv71 fv72 fv73 fv74 fv75 fv76 fv77 fv78 fv79 fv80 fv81 fv82 fv83 fv84 fv85 fv86 fv87 fv88 fv89 fv90 fv91 fv92 fv93 fv94 fv95 fv96 fv97 fv98 fv99 fv100 fv101 fv102 fv103 fv104 fv105 fv106 fv107 fv108 fv109 fv110 fv111 fv112 fv113 fv114 fv115 fv116 fv117 fv118 fv119 fv120 fv121 fv122 fv123 fv124 fv125 fv126 fv127 fv128 fv129 fv130 fv131 fv132 fv133 fv134 fv135 fv136 fv137 fv138 fv139 fv140 fv141 fv142 fv143 fv144 fv145 fv146 fv147 fv148 fv149 fv150 fv151 fv152 fv153 fv154 fv155 fv156 fv157 fv158 fv159 fv160 : Value) (K1 : Act → World → Prop) (Q9 : Exit → Act → World → Prop)
    (hK : ∀ (u6 u8 u9 u10 u11 u12 u13 u14 u15 u16 u17 u48 u49 u50 u51 u52 u53 u54 u55 u56 u57 u58 u59 u60 u61 u62 u63 u64 u65 u66 u67 u68 u69 u70 u71 u72 u73 u74 u75 u76 u77 u78 u79 u80 u81 u82 u83 u84 u85 u86 u87 u88 u89 u90 u91 u92 u93 u94 u95 u96 u97 u98 u99 u100 u101 u102 u103 u104 u105 u106 u107 u108 u109 u110 u111 u112 u113 u114 u115 u116 u117 u118 u119 u120 u121 u122 u123 u124 u125 u126 u127 u128 u129 u130 u131 u132 u133 u134 u135 u136 u137 u138 u139 u140 u141 u142 u143 u144 u145 u146 u147 u148 u149 u150 u151 : Value) (ns2 : List Ml) (J2 : Nat → Jb) (V2 : List UInt8 → List UInt8) (M2 : List UInt8 → Nat) (pa2 : Option Addr) (pc2 : Nat) (one2 : List Pr) (wc : World), Hid (u8 = .slice pa2 one2.length pc2 ∧ u9 = .int .i64 (i + 1) ∧ RS w wc sb mb L ns2 J2 V2 M2 (t + 1) pa2 pc2 one2) → K1 ⟨#[fv0, .slice ta ts.length tc, .slice so ss.length sc, fv3, fv4, fv5, u6, .pointer (some ⟨sb, 0, none⟩), u8, u9, u10, u11, u12, u13, u14, u15, u16, u17, fv18, fv19, fv20, fv21, fv22, fv23, fv24, fv25, fv26, fv27, fv28, fv29, fv30, fv31, fv32, fv33, fv34, fv35, fv36, fv37, fv38, fv39, fv40, fv41, fv42, fv43, fv44, fv45, fv46, fv47, u48, u49, u50, u51, u52, u53, u54, u55, u56, u57, u58, u59, u60, u61, u62, u63, u64, u65, u66, u67, u68, u69, u70, u71, u72, u73, u74, u75, u76, u77, u78, u79, u80, u81, u82, u83, u84, u85, u86, u87, u88, u89, u90, u91, u92, u93, u94, u95, u96, u97, u98, u99, u100, u101, u102, u103, u104, u105, u106, u107, u108, u109, u110, u111, u112, u113, u114, u115, u116, u117, u118, u119, u120, u121, u122, u123, u124, u125, u126, u127, u128, u129, u130, u131, u132, u133, u134, u135, u136, u137, u138, u139, u140, u141, u142, u143, u144, u145, u146, u147, u148, u149, u150, u151, fv152, fv153, fv154, fv155, fv156, fv157, fv158, fv159, fv160], []⟩ wc)
    (HS : Hid (RS w X sb mb L ns J V M t pa pc one)) (HL : Hid (LW w ∧ 14 ≤ w.heap.size)) (HI : Hid (i = (t : Int) - 12)) (HT : Hid (IntRow b0 w ta ts)) (HSS : Hid (IntRow b0 w so ss)) (hi : i < ts.length) (hts : (ts.length : Int) ≤ 16384) (h0n : 0 < L.ds.length) (hn7 : L.ds.length ≤ 7) :
    Code.wp Tryz.prog cT10 (Exit.then K1 Q9) ⟨#[fv0, .slice ta ts.length tc, .slice so ss.length sc, fv3, fv4, fv5, fv6, .pointer (some ⟨sb, 0, none⟩), .slice pa one.length pc, .int .i64 i, fv10, fv11, fv12, fv13, fv14, fv15, fv16, fv17, fv18, fv19, fv20, fv21, fv22, fv23, fv24, fv25, fv26, fv27, fv28, fv29, fv30, fv31, fv32, fv33, fv34, fv35, fv36, fv37, fv38, fv39, fv40, fv41, fv42, fv43, fv44, fv45, fv46, fv47, fv48, fv49, fv50, fv51, fv52, fv53, fv54, fv55, fv56, fv57, fv58, fv59, fv60, fv61, fv62, fv63, fv64, fv65, fv66, fv67, fv68, fv69, fv70, fv71, fv72, fv73, fv74, fv75, fv76, fv77, fv78, fv79, fv80, fv81, fv82, fv83, fv84, fv85, fv86, fv87, fv88, fv89, fv90, fv91, fv92, fv93, fv94, fv95, fv96, fv97, fv98, fv99, fv100, fv101, fv102, fv103, fv104, fv105, fv106, fv107, fv108, fv109, fv110, fv111, fv112, fv113, fv114, fv115, fv116, fv117, fv118, fv119, fv120, fv121, fv122, fv123, fv124, fv125, fv126, fv127, fv128, fv129, fv130, fv131, fv132, fv133, fv134, fv135, fv136, fv137, fv138, fv139, fv140, fv141, fv142, fv143, fv144, fv145, fv146, fv147, fv148, fv149, fv150, fv151, fv152, fv153, fv154, fv155, fv156, fv157, fv158, fv159, fv160], []⟩ X := by
  have HKK : Hid (∀ (u6 u8 u9 u10 u11 u12 u13 u14 u15 u16 u17 u48 u49 u50 u51 u52 u53 u54 u55 u56 u57 u58 u59 u60 u61 u62 u63 u64 u65 u66 u67 u68 u69 u70 u71 u72 u73 u74 u75 u76 u77 u78 u79 u80 u81 u82 u83 u84 u85 u86 u87 u88 u89 u90 u91 u92 u93 u94 u95 u96 u97 u98 u99 u100 u101 u102 u103 u104 u105 u106 u107 u108 u109 u110 u111 u112 u113 u114 u115 u116 u117 u118 u119 u120 u121 u122 u123 u124 u125 u126 u127 u128 u129 u130 u131 u132 u133 u134 u135 u136 u137 u138 u139 u140 u141 u142 u143 u144 u145 u146 u147 u148 u149 u150 u151 : Value) (ns2 : List Ml) (J2 : Nat → Jb) (V2 : List UInt8 → List UInt8) (M2 : List UInt8 → Nat) (pa2 : Option Addr) (pc2 : Nat) (one2 : List Pr) (wc : World), Hid (u8 = .slice pa2 one2.length pc2 ∧ u9 = .int .i64 (i + 1) ∧ RS w wc sb mb L ns2 J2 V2 M2 (t + 1) pa2 pc2 one2) → K1 ⟨#[fv0, .slice ta ts.length tc, .slice so ss.length sc, fv3, fv4, fv5, u6, .pointer (some ⟨sb, 0, none⟩), u8, u9, u10, u11, u12, u13, u14, u15, u16, u17, fv18, fv19, fv20, fv21, fv22, fv23, fv24, fv25, fv26, fv27, fv28, fv29, fv30, fv31, fv32, fv33, fv34, fv35, fv36, fv37, fv38, fv39, fv40, fv41, fv42, fv43, fv44, fv45, fv46, fv47, u48, u49, u50, u51, u52, u53, u54, u55, u56, u57, u58, u59, u60, u61, u62, u63, u64, u65, u66, u67, u68, u69, u70, u71, u72, u73, u74, u75, u76, u77, u78, u79, u80, u81, u82, u83, u84, u85, u86, u87, u88, u89, u90, u91, u92, u93, u94, u95, u96, u97, u98, u99, u100, u101, u102, u103, u104, u105, u106, u107, u108, u109, u110, u111, u112, u113, u114, u115, u116, u117, u118, u119, u120, u121, u122, u123, u124, u125, u126, u127, u128, u129, u130, u131, u132, u133, u134, u135, u136, u137, u138, u139, u140, u141, u142, u143, u144, u145, u146, u147, u148, u149, u150, u151, fv152, fv153, fv154, fv155, fv156, fv157, fv158, fv159, fv160], []⟩ wc) := hK
  clear hK
  conv => arg 2; whnf
  dsimp only
  have ht : t < 999999 := by have := HI.out; omega
  obtain ⟨ja, hja⟩ : ∃ a, L.jo = some a := by
    obtain ⟨g, e, _⟩ := own_some HS.out.cm.jr (by omega)
    exact ⟨_, e⟩
  obtain ⟨n, Hn⟩ : ∃ n, Hid (n = L.ds.length) := ⟨_, rfl⟩
  obtain ⟨jc, Hjc⟩ : ∃ n, Hid (n = L.jc) := ⟨_, rfl⟩
  have s1 : X.cell? ⟨sb, 1, none⟩ = some (.slice (some ja) n jc) := by
    have := blk_at HS.out.cm.sp 1 rfl
    rw [hja, ← Hn.out, ← Hjc.out] at this
    exact this
  have HN0 : Hid (0 < L.ds.length ∧ L.ds.length ≤ 7) := ⟨h0n, hn7⟩
  have hn0 : (0 : Int) < n := by rw [Hn.out]; omega
  have hn7i : (n : Int) ≤ 7 := by rw [Hn.out]; omega
  clear hja h0n hn7
  go_upto_if 51 with fail
  go_cut [6, 10] from 50 to 74 (fun _ u wc => Hid (∃ k : Nat, k < L.ds.length ∧ u = .int .i64 k ∧ Kept Nil X wc ∧ (k = 0 ∨ (J 0).ph = 7)))
  case first =>
    by_cases h12 : t < 12
    · have hi0 : ¬ (0 : Int) ≤ i := by have := HI.out; omega
      have hib : decide ((0 : Int) ≤ i) = false := decide_eq_false hi0
      have HF : Hid (∃ k : Nat, k < L.ds.length ∧ (.int .i64 0 : Value) = .int .i64 k ∧ Kept Nil X X ∧ (k = 0 ∨ (J 0).ph = 7)) := ⟨0, HN0.out.1, rfl, Kept.refl _ _, .inl rfl⟩
      go_wp2
      go_meet
      exact HF.out
    · obtain ⟨m, hm⟩ : ∃ m : Nat, i = m := ⟨t - 12, by have := HI.out; omega⟩
      subst hm
      have H7 : Hid ((J 0).ph = 7) := HS.out.f0.ended (by omega)
      have hmi : (m : Int) < ts.length := hi
      have hm0 : (0 : Int) ≤ m := by omega
      have hmb : decide ((0 : Int) ≤ (m : Int)) = true := decide_eq_true hm0
      have hlt : m < ts.length := by omega
      obtain ⟨a, e1, _, c0⟩ := (HT.out.nil HS.out.cm.kw) m hlt
      subst e1
      obtain ⟨z, HZ⟩ : ∃ z : Int, Hid (z = ts[m]) := ⟨ts[m], (rfl : ts[m] = ts[m])⟩
      rw [← HZ.out] at c0
      obtain ⟨k, Hk⟩ : ∃ k : Nat, Hid (k = (z % (n : Int)).toNat) := ⟨_, rfl⟩
      have hk0 := Int.emod_nonneg z (show (n : Int) ≠ 0 by omega)
      have hk1 := Int.emod_lt_of_pos z hn0
      have HKZ : Hid (z % (n : Int) = (k : Int)) := by show _ = _; rw [Hk.out]; omega
      have PK : ∀ Y, Calls Tryz.prog 20 #[.int .i64 z, .int .i64 n] Y fun e w' => e = .returned (.int .i64 k) ∧ w' = Y := fun Y => by
        have := pickT_any z n Y hn0 (by omega)
        rw [HKZ.out] at this
        exact this
      have HKN : Hid (k < L.ds.length) := by have := HKZ.out; have h2 := Hn.out; show k < _; omega
      clear hk0 hk1
      go_upto_region 12 with fail
      have cD : X.drew.cell? (a.add m) = some (.int .i64 z) := c0
      have sD : X.drew.cell? ⟨sb, 1, none⟩ = some (.slice (some ja) n jc) := s1
      go_region_held3 (fun w' => w'.cell? (a.add m) = some (.int .i64 z) ∧ w'.cell? ⟨sb, 1, none⟩ = some (.slice (some ja) n jc)) (first | assumption | go_keep) (first | (go_at_call 20; go_must (go_fit (PK _)); rintro _ _ ⟨rfl, hw9⟩; rw [hw9]; clear hw9))
      all_goals
        have KD : Hid (Kept Nil X X.drew) := (Kept.refl _ _).drew
        have HOK : Hid (∃ k' : Nat, k' < L.ds.length ∧ (.int .i64 (k : Int) : Value) = .int .i64 k' ∧ Kept Nil X X.drew ∧ (k' = 0 ∨ (J 0).ph = 7)) := ⟨k, HKN.out, rfl, KD.out, .inr H7.out⟩
        by_cases hks : k < ss.length
        · have hksi : (k : Int) < ss.length := by omega
          have hksb : decide ((k : Int) < (ss.length : Int)) = true := decide_eq_true hksi
          obtain ⟨b2, e2, _, d0⟩ := (HSS.out.nil (HS.out.cm.kw.trans KD.out)) k hks
          subst e2
          obtain ⟨y, HY⟩ : ∃ y : Int, Hid (y = ss[k]) := ⟨ss[k], (rfl : ss[k] = ss[k])⟩
          rw [← HY.out] at d0
          have P2 := pickT_any y 200 X.drew (by decide) (by decide)
          obtain ⟨v, HV⟩ : ∃ v, Hid (v = y % 200) := ⟨_, rfl⟩
          rw [← HV.out] at P2
          go_wp2_with fail
          go_fit P2
          rintro ee w3 ⟨rfl, hw3⟩
          rw [hw3]
          clear P2 hw3
          by_cases hv : v < (m : Int)
          · have hvb : decide (v < (m : Int)) = true := decide_eq_true hv
            have HSK : Hid (RS w X.drew sb mb L ns J V M (t + 1) pa pc one) := HS.out.still KD.out H7.out
            go_wp2
            exact HKK.out _ _ _ _ _ _ _ _ _ _ _ _ _ _ _ _ _ _ _ _ _ _ _ _ _ _ _ _ _ _ _ _ _ _ _ _ _ _ _ _ _ _ _ _ _ _ _ _ _ _ _ _ _ _ _ _ _ _ _ _ _ _ _ _ _ _ _ _ _ _ _ _ _ _ _ _ _ _ _ _ _ _ _ _ _ _ _ _ _ _ _ _ _ _ _ _ _ _ _ _ _ _ _ _ _ _ _ _ _ _ _ _ _ _ _ ns J V M pa pc one _ ⟨rfl, rfl, HSK.out⟩
          · have hvb : decide (v < (m : Int)) = false := decide_eq_false hv
            go_wp2
            go_meet
            exact HOK.out
        · have hksb : decide ((k : Int) < (ss.length : Int)) = false := decide_eq_false (by omega)
          go_wp2
          go_meet
          exact HOK.out
  case rest =>
    obtain ⟨k, hk, e10, kX, hkj⟩ := hcut.out
    subst e10
    rename World => w6
    have HS6 : Hid (RS w w6 sb mb L ns J V M t pa pc one) := HS.out.next kX
    have hlo : -12 ≤ i := by have := HI.out; omega
    have hwi : IntKind.i64.wrap (i + 1) = i + 1 := by rw [IntKind.wrap_i64]; omega
    have hw64 : wrap64 (i + 1) = i + 1 := by unfold wrap64; omega
    clear hcut kX
    apply_assumption
    refine cTail14 w w6 sb mb L ns J V M t pa pc one k _ _ _ _ _ _ _ _ _ _ _ _ _ _ _ _ _ _ _ _ _ _ _ _ _ _ _ _ _ _ _ _ _ _ _ _ _ _ _ _ _ _ _ _ _ _ _ _ _ _ _ _ _ _ _ _ _ _ _ _ _ _ _ _ _ _ _ _ _ _ _ _ _ _ _ _ _ _ _ _ _ _ _ _ _ _ _ _ _ _ _ _ _ _ _ _ _ _ _ _ _ _ _ _ _ _ _ _ _ _ _ _ _ _ _ _ _ _ _ _ _ _ _ _ _ _ _ _ _ _ _ _ _ _ _ _ _ _ _ _ _ _ _ _ _ _ _ _ _ _ _ _ _ _ _ _ _ _ _ _ ?_ HS6 HL hk hkj ht HN0.out.2
    intro u6 u8 u11 u12 u13 u14 u15 u16 u17 u75 u76 u77 u78 u79 u80 u81 u82 u83 u84 u85 u86 u87 u88 u89 u90 u91 u92 u93 u94 u95 u96 u97 u98 u99 u100 u101 u102 u103 u104 u105 u106 u107 u108 u109 u110 u111 u112 u113 u114 u115 u116 u117 u118 u119 u120 u121 u122 u123 u124 u125 u126 u127 u128 u129 u130 u131 u132 u133 u134 u135 u136 u137 u138 u139 u140 u141 u142 u143 u144 u145 u146 u147 u148 u149 u150 u151 ns2 J2 V2 M2 pa2 pc2 one2 wz h1
    obtain ⟨h1a, h1b⟩ := h1.out
    subst h1a
    have HF : Hid (RS w wz sb mb L ns2 J2 V2 M2 (t + 1) pa2 pc2 one2) := h1b
    clear h1 h1b
    apply_assumption
    go_wp2
    exact HKK.out _ _ _ _ _ _ _ _ _ _ _ _ _ _ _ _ _ _ _ _ _ _ _ _ _ _ _ _ _ _ _ _ _ _ _ _ _ _ _ _ _ _ _ _ _ _ _ _ _ _ _ _ _ _ _ _ _ _ _ _ _ _ _ _ _ _ _ _ _ _ _ _ _ _ _ _ _ _ _ _ _ _ _ _ _ _ _ _ _ _ _ _ _ _ _ _ _ _ _ _ _ _ _ _ _ _ _ _ _ _ _ _ _ _ _ ns2 J2 V2 M2 pa2 pc2 one2 wz ⟨rfl, rfl, HF.out⟩
end Go.Proofs.YtflnjlbafchnaaaGreatDoor

/-
  CellOne: all rounds, and the end.
-/
namespace Go.Proofs.YtflnjlbafchnaaaGreatDoor
open Go.RowKit

theorem BgI.solo {rs : List Br} {L : Lo} {J : Nat → Jb} (h : BgI rs L J) (h1 : 0 < L.ds.length) (h0 : ∀ hr : 0 < rs.length, rs[0].at' = 0) : Solo1 (SM [[], [], []]) (J 0) 9 := by
  have hx : 0 < L.xs.length := by rw [h.len]; exact h1
  obtain ⟨_, e, hr, ha⟩ := h.new 0 hx
  rw [h0 hr] at ha
  have e1 : (L.xs[0]'hx).at' = 1 := by omega
  rw [e, e1]
  exact Solo1.first (fun g k => SM_zero g k) _ _ _ _ _
set_option maxRecDepth 100000 in
set_option maxHeartbeats 8000000 in
theorem cellOne_any (w : World) (ro ta so : Option Addr) (rc tc sc : Nat) (rs : List Br) (ts ss : List Int) (hL : LW w) (hw : 14 ≤ w.heap.size) (hR : BrRow w.heap.size w ro rs) (hT : IntRow w.heap.size w ta ts) (hS : IntRow w.heap.size w so ss) :
    Calls Tryz.prog 8 #[.slice ro rs.length rc, .slice ta ts.length tc, .slice so ss.length sc] w fun e w' => e = .returned (.bool true) ∧ Kept Nil w w' := by
  have HL : Hid (LW w ∧ 14 ≤ w.heap.size) := ⟨hL, hw⟩
  have HR : Hid (BrRow w.heap.size w ro rs) := hR
  have HRT : Hid (IntRow w.heap.size w ta ts) := hT
  have HRS : Hid (IntRow w.heap.size w so ss) := hS
  clear hL hR hT hS hw
  by_cases b1 : (16384 : Int) < (rs.length : Int)
  · have b1d : decide ((16384 : Int) < (rs.length : Int)) = true := decide_eq_true b1
    go_enter Tryz.func8, Tryz.ntmps8
    go_wp2
    go_ret
    exact ⟨rfl, Kept.refl _ _⟩
  by_cases b2 : (16384 : Int) < (ts.length : Int)
  · have b1d : decide ((16384 : Int) < (rs.length : Int)) = false := decide_eq_false b1
    have b2d : decide ((16384 : Int) < (ts.length : Int)) = true := decide_eq_true b2
    go_enter Tryz.func8, Tryz.ntmps8
    go_wp2
    go_ret
    exact ⟨rfl, Kept.refl _ _⟩
  by_cases b3 : (16384 : Int) < (ss.length : Int)
  · have b1d : decide ((16384 : Int) < (rs.length : Int)) = false := decide_eq_false b1
    have b2d : decide ((16384 : Int) < (ts.length : Int)) = false := decide_eq_false b2
    have b3d : decide ((16384 : Int) < (ss.length : Int)) = true := decide_eq_true b3
    go_enter Tryz.func8, Tryz.ntmps8
    go_wp2
    go_ret
    exact ⟨rfl, Kept.refl _ _⟩
  have b1d : decide ((16384 : Int) < (rs.length : Int)) = false := decide_eq_false b1
  have b2d : decide ((16384 : Int) < (ts.length : Int)) = false := decide_eq_false b2
  have b3d : decide ((16384 : Int) < (ss.length : Int)) = false := decide_eq_false b3
  obtain ⟨i3, hi3, hy0, hy1, hy2⟩ := info_parts Tryz.infoBg
  obtain ⟨r0, Hr0⟩ : ∃ r : Br, Hid (r = ⟨1, [], [120], 0, 0, 0⟩) := ⟨_, rfl⟩
  obtain ⟨W, hW⟩ : ∃ W, W = w.alloc (.cells #[.int .i64 1, .string ⟨#[]⟩, .string ⟨#[120]⟩, .int .i64 0, .int .i64 0, .int .i64 0] 91) := ⟨_, rfl⟩
  have KW : Hid (Kept Nil w W) := by rw [hW]; exact (Kept.refl _ _).alloc _
  have HOW : Hid (W.ownsRow w.heap.size 91 6 (.slice (some ⟨w.heap.size, 0, none⟩) 1 1) 1 (brC r0)) := by
    rw [hW, Hr0.out]
    exact ⟨rfl, .inr ⟨w.heap.size, 1, _, rfl, Nat.le_refl _, blk_new _ _, Nat.le_refl _, by unfold maxLen; omega, rfl, rfl⟩⟩
  have SR : Hid (Src Tryz.prog 6 87 (.slice ro rs.length rc) rs.length (rs.flatMap brC) W) := (HR.out.kept KW.out).src
  have HLL : Hid (1 + rs.length ≤ maxLen ∧ (1 + rs.length) * 64 ≤ 140737488355328) := by constructor <;> (try unfold maxLen) <;> omega
  have hsW : w.heap.size ≤ W.heap.size := KW.out.size
  have hts : (ts.length : Int) ≤ 16384 := by omega
  go_enter Tryz.func8, Tryz.ntmps8
  go_wp2_with (at_builtin; rw [← hW]; go_must (refine wpList_append_src _ rfl _ _ 87 87 rfl w.heap.size 91 i3 (.agg #[.int .i64 0, .string ⟨#[]⟩, .string ⟨#[]⟩, .int .i64 0, .int .i64 0, .int .i64 0]) 6 64 Tryz.underlying87 hi3 hy0 hy1 hy2 rfl (.slice (some ⟨w.heap.size, 0, none⟩) 1 1) 1 (brC r0) rfl HOW.out (.slice ro rs.length rc) rs.length (rs.flatMap brC) rfl SR.out HLL.out.1 HLL.out.2 hsW ?_); intro a1 c1 w1 ho1 hg1; have HO1 : Hid (w1.ownsRow w.heap.size 91 6 (.slice a1 (1 + rs.length) c1) (1 + rs.length) (brC r0 ++ rs.flatMap brC)) := ho1; have KW1 : Hid (Kept Nil w w1) := KW.out.grownB HOW.out hg1 (Nat.le_refl _); clear ho1 hg1)
  obtain ⟨qs, Hqs⟩ : ∃ l, Hid (l = r0 :: rs) := ⟨_, rfl⟩
  have hql : 1 + rs.length = qs.length := by rw [Hqs.out]; simp; omega
  have HRQ : Hid (BrRow w1.heap.size w1 a1 qs) := by
    have h1 := HO1.out
    rw [hql] at h1
    refine BrRow.own (B := w.heap.size) (c := c1) ?_ (fun r hr => ?_)
    · have e : qs.flatMap brC = brC r0 ++ rs.flatMap brC := by rw [Hqs.out]; rfl
      rw [e]
      exact h1
    · rw [Hqs.out] at hr
      rcases List.mem_cons.1 hr with hr | hr
      · rw [hr, Hr0.out]; simp
      · obtain ⟨i, hi, e⟩ := List.mem_iff_getElem.1 hr
        obtain ⟨_, _, _, _, _, _, _, _, _, l⟩ := HR.out i hi
        rw [e] at l
        exact l
  have SP := spreads_any w1 a1 c1 qs HRQ.out
  rw [← hql] at SP
  clear hW hsW
  go_fit SP
  intro ee w2 hsp
  obtain ⟨sb, mb, L, J, rfl, hcm, hbg, hl6, hlq, hlq2⟩ := hsp
  have HL1 : Hid (LW w1 ∧ 14 ≤ w1.heap.size) := ⟨HL.out.1.kept KW1.out, Nat.le_trans HL.out.2 KW1.out.size⟩
  have h0n : 0 < L.ds.length := by omega
  have hn7 : L.ds.length ≤ 7 := by omega
  have HS0 : Hid (RS w1 w2 sb mb L nil3 J (fun _ => []) (fun _ => 0) 0 none 0 []) := by
    refine ⟨hcm, hbg.run, .inr ⟨9, ?_, Nat.le_refl _⟩, World.ownsRow_nil _ _ _ _, OneI.first, hbg.wi⟩
    refine hbg.solo h0n (fun hr => ?_)
    have e : qs[0] = r0 := by simp only [Hqs.out]; rfl
    rw [e, Hr0.out]
  have HT1 : Hid (IntRow w.heap.size w1 ta ts) := HRT.out.nil KW1.out
  have HS1 : Hid (IntRow w.heap.size w1 so ss) := HRS.out.nil KW1.out
  have HN : Hid (0 < L.ds.length ∧ L.ds.length ≤ 7) := ⟨h0n, hn7⟩
  clear SP hcm hbg hl6 hlq hlq2 h0n hn7 hql
  go_wp2_with fail
  go_loopw [6, 8, 9] (fun _ u v wr => ∃ (ns : List Ml) (J : Nat → Jb) (V : List UInt8 → List UInt8) (M : List UInt8 → Nat) (t : Nat) (pa : Option Addr) (pc : Nat) (one : List Pr) (i : Int), u = .slice pa one.length pc ∧ v = .int .i64 i ∧ Hid (i = (t : Int) - 12) ∧ t ≤ ts.length + 12 ∧ Hid (RS w1 wr sb mb L ns J V M t pa pc one)) (fun _ _ v _ => ts.length - (intOf v).toNat + (0 - intOf v).toNat)
  case atStart => exact ⟨nil3, J, fun _ => [], fun _ => 0, 0, none, 0, [], -12, rfl, rfl, rfl, by omega, HS0.out⟩
  case round =>
    obtain ⟨ns, J, V, M, t, pa, pc, one, i, rfl, rfl, HI, htl, HS⟩ := hrel
    clear HS0
    rename World => wr
    by_cases hlt : i < ts.length
    · have hd1 : decide (i < (ts.length : Int)) = true := decide_eq_true hlt
      have hd2 : i < 1048576 := by omega
      have hd3 : decide (i < 1048576) = true := decide_eq_true hd2
      obtain ⟨wo, hwo⟩ : ∃ x : World, x = wr := ⟨_, rfl⟩
      rw [← hwo] at HS ⊢
      clear hwo
      go_upto_if 47 with fail
      go_cut [6] from 48 to 48 (fun _ wc => wc = wo)
      case first =>
        go_wp2
        go_meet
        rfl
      case rest =>
        have hcw := hcut
        rw [hcw]
        apply_assumption
        refine cTail10 w1 wo sb mb L ns J V M t pa pc one w.heap.size i ta so tc sc ts ss _ _ _ _ _ _ _ _ _ _ _ _ _ _ _ _ _ _ _ _ _ _ _ _ _ _ _ _ _ _ _ _ _ _ _ _ _ _ _ _ _ _ _ _ _ _ _ _ _ _ _ _ _ _ _ _ _ _ _ _ _ _ _ _ _ _ _ _ _ _ _ _ _ _ _ _ _ _ _ _ _ _ _ _ _ _ _ _ _ _ _ _ _ _ _ _ _ _ _ _ _ _ _ _ _ _ _ _ _ _ _ _ _ _ _ _ _ _ _ _ _ _ _ _ _ _ _ _ _ _ _ _ _ _ _ _ _ _ _ _ _ _ _ _ _ _ _ _ _ _ _ _ _ _ _ _ _ _ ?_ HS HL1 HI HT1 HS1 hlt hts HN.out.1 HN.out.2
        intro u6 u8 u9 u10 u11 u12 u13 u14 u15 u16 u17 u48 u49 u50 u51 u52 u53 u54 u55 u56 u57 u58 u59 u60 u61 u62 u63 u64 u65 u66 u67 u68 u69 u70 u71 u72 u73 u74 u75 u76 u77 u78 u79 u80 u81 u82 u83 u84 u85 u86 u87 u88 u89 u90 u91 u92 u93 u94 u95 u96 u97 u98 u99 u100 u101 u102 u103 u104 u105 u106 u107 u108 u109 u110 u111 u112 u113 u114 u115 u116 u117 u118 u119 u120 u121 u122 u123 u124 u125 u126 u127 u128 u129 u130 u131 u132 u133 u134 u135 u136 u137 u138 u139 u140 u141 u142 u143 u144 u145 u146 u147 u148 u149 u150 u151 ns2 J2 V2 M2 pa2 pc2 one2 wz h1
        obtain ⟨h1a, h1b, h1c⟩ := h1.out
        subst h1a h1b
        have HI2 : Hid (i + 1 = ((t + 1 : Nat) : Int) - 12) := by have := HI.out; show _ = _; omega
        have htl2 : t + 1 ≤ ts.length + 12 := by have := HI.out; omega
        have HS9 : Hid (RS w1 wz sb mb L ns2 J2 V2 M2 (t + 1) pa2 pc2 one2) := h1c
        clear h1 h1c
        go_roundw
        case rel =>
          first
            | exact ⟨ns2, J2, V2, M2, t + 1, pa2, pc2, one2, i + 1, rfl, rfl, HI2.out, htl2, HS9.out⟩
            | ((repeat (apply Exists.intro)); refine ⟨?rr, rfl⟩; exact ⟨ns2, J2, V2, M2, t + 1, pa2, pc2, one2, i + 1, rfl, rfl, HI2.out, htl2, HS9.out⟩)
        case measure => simp [intOf]; omega
    · have hd1 : decide (i < (ts.length : Int)) = false := decide_eq_false hlt
      have H7 : (J 0).ph = 7 := HS.out.f0.ended (by have := HI.out; omega)
      obtain ⟨ja, hja⟩ : ∃ a, L.jo = some a := by
        obtain ⟨g, e, _⟩ := own_some HS.out.cm.jr (by have := HN.out.1; omega)
        exact ⟨_, e⟩
      obtain ⟨n, Hn⟩ : ∃ n, Hid (n = L.ds.length) := ⟨_, rfl⟩
      obtain ⟨jc, Hjc⟩ : ∃ n, Hid (n = L.jc) := ⟨_, rfl⟩
      have s1 : wr.cell? ⟨sb, 1, none⟩ = some (.slice (some ja) n jc) := by
        have := blk_at HS.out.cm.sp 1 rfl
        rw [hja, ← Hn.out, ← Hjc.out] at this
        exact this
      have hn0 : (0 : Int) < n := by rw [Hn.out]; have := HN.out.1; omega
      obtain ⟨b, Hb⟩ : ∃ b, Hid (b = L.ds[0]'HN.out.1) := ⟨L.ds[0]'HN.out.1, (rfl : L.ds[0]'HN.out.1 = L.ds[0]'HN.out.1)⟩
      have s2 : wr.cell? ja = some (.pointer (some ⟨b, 0, none⟩)) := by
        have := HS.out.cm.job HN.out.1 hja
        rw [← Hb.out] at this
        obtain ⟨g, e, _⟩ := own_some HS.out.cm.jr (by have := HN.out.1; omega)
        rw [hja] at e
        cases e
        exact this
      have s2' : wr.cell? ⟨ja.block, ja.off + 0, none⟩ = some (.pointer (some ⟨b, 0, none⟩)) := by
        have := HS.out.cm.job HN.out.1 hja
        rw [← Hb.out] at this
        obtain ⟨g, e, _⟩ := own_some HS.out.cm.jr (by have := HN.out.1; omega)
        rw [hja] at e
        cases e
        exact this
      obtain ⟨K0, hK0⟩ := HS.out.cm.jb 0 HN.out.1
      have hst : (J 0).st = 2 := by have := HS.out.cr.state HN.out.1; rwa [if_pos H7] at this
      have LK := clook_any wr b (J 0) K0 (by rw [Hb.out]; exact hK0)
      unfold stV at LK
      rw [hst] at LK
      obtain ⟨j, Hj⟩ : ∃ j, Hid (j = J 0) := ⟨_, rfl⟩
      rw [← Hj.out] at LK
      have hfd : ∀ Y, (Instr.field 76 (.agg #[.int .i64 2, .int .i64 j.at', .int .i64 j.rs.kd, .string (bs j.rs.v), .int .i64 j.rs.n, .slice K0.ro j.rs.ks.length K0.rc]) 0).run Tryz.prog Y = .ok (.int .i64 2) Y := fun _ => by kernel_rfl
      have KF : Hid (Kept Nil w wr) := KW1.out.trans HS.out.cm.kw
      clear hK0 hst H7 hja
      go_wp2_with fail
      go_fit LK
      rintro ee w9 ⟨rfl, k9⟩
      have K9 : Hid (Kept Nil w w9) := KF.out.trans k9
      clear LK k9 s1 s2 s2'
      go_wp2
      go_ret
      exact ⟨rfl, K9.out⟩
end Go.Proofs.YtflnjlbafchnaaaGreatDoor
