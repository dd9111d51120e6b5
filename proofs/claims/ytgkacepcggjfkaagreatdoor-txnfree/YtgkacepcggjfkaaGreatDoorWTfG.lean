/-
  TxnFree: the one that is to go on alone is begun.
-/
import Derived.Test.YtgkacepcggjfkaaGreatDoorWTfF
import Derived.Test.YtgkacepcggjfkaaGreatDoorWTxE
namespace Go.Proofs.YtgkacepcggjfkaaGreatDoor
open Go.RowKit

set_option maxRecDepth 1000000 in
set_option maxHeartbeats 40000000 in
theorem tfTail21 (w w1 X : World) (n0 pc c mc : Nat) (es : List Eb) (T : Nat → Tx) (ps : List Pr) (pa ma : Option Addr) (ms : List Pt) (fv0 fv1 fv3 fv4 fv5 fv6 fv7 fv8 fv9 fv10 fv12 fv13 fv14 fv15 fv16 fv17 fv18 fv19 fv20 fv21 fv22 fv23 fv24 fv25 fv26 fv27 fv28 fv29 fv30 fv31 fv32 fv33 fv34 fv35 fv36 fv37 fv38 fv39 fv40 fv41 fv42 fv43 fv44 fv45 fv46 fv47 fv48 fv49 fv50 fv51 fv52 fv53 fv54 fv55 fv56 fv57 fv58 fv59 fv60 fv61 fv62 fv63 fv64 fv65 fv66 fv67 fv68 fv69 fv70 fv71 fv72 fv73 fv74 fv75 fv76 fv77 fv78 fv79 fv80 fv81 fv82 fv83 fv84 fv85 fv86 fv87 fv88 fv89 fv90 fv91 fv92 fv93 fv94 fv95 fv96 fv97 fv98 fv99 fv100 fv101 fv102 fv103 fv104 fv105 fv106 fv107 fv108 fv109 fv110 fv111 fv112 fv113 fv114 fv115 fv116 fv117 fv118 fv119 fv120 fv121 fv122 fv123 fv124 fv125 fv126 fv127 fv128 fv129 fv130 fv131 fv132 fv133 fv134 fv135 fv136 fv137 fv138 fv139 fv140 fv141 fv142 fv143 fv144 fv145 fv146 fv147 fv148 fv149 fv150 fv151 fv152 fv153 fv154 fv155 fv156 fv157 fv158 fv159 fv160 fv161 fv162 fv163 fv164 fv165 fv166 fv167 fv168 fv169 fv170 fv171 fv172 fv173 fv174 fv175 fv176 fv177 fv178 fv179 fv180 fv181 fv182 fv183 fv184 fv185 fv186 fv187 fv188 fv189 fv190 fv191 fv192 fv193 fv194 fv195 fv196 fv197 fv198 fv199 fv200 fv201 : Value)
    (HM : Hid (FO w w1 n0 es X T ps pa pc c)) (HL : Hid (LD w)) (HMI : Hid (PtRow w.heap.size w ma ms)) (hms : (ms.length : Int) ≤ 140737488355328) (HMK : Hid (∀ p ∈ ms, p.k.length ≤ 140737488355328)) (H6 : Hid (∀ e ∈ es, e.id ≤ 6)) (hl7 : es.length ≤ 7) (hc : c ≤ 900000) (Hn0 : Hid (n0 = w.heap.size)) :
    Code.wp Tryz.prog fT21 (bodyPost Tryz.prog Tryz.f5 fun e w' => e = .returned (.bool true) ∧ Kept Nil w w') ⟨#[fv0, fv1, .slice ma ms.length mc, fv3, fv4, fv5, fv6, fv7, fv8, fv9, fv10, .slice pa ps.length pc, fv12, fv13, fv14, fv15, fv16, fv17, fv18, fv19, fv20, fv21, fv22, fv23, fv24, fv25, fv26, fv27, fv28, fv29, fv30, fv31, fv32, fv33, fv34, fv35, fv36, fv37, fv38, fv39, fv40, fv41, fv42, fv43, fv44, fv45, fv46, fv47, fv48, fv49, fv50, fv51, fv52, fv53, fv54, fv55, fv56, fv57, fv58, fv59, fv60, fv61, fv62, fv63, fv64, fv65, fv66, fv67, fv68, fv69, fv70, fv71, fv72, fv73, fv74, fv75, fv76, fv77, fv78, fv79, fv80, fv81, fv82, fv83, fv84, fv85, fv86, fv87, fv88, fv89, fv90, fv91, fv92, fv93, fv94, fv95, fv96, fv97, fv98, fv99, fv100, fv101, fv102, fv103, fv104, fv105, fv106, fv107, fv108, fv109, fv110, fv111, fv112, fv113, fv114, fv115, fv116, fv117, fv118, fv119, fv120, fv121, fv122, fv123, fv124, fv125, fv126, fv127, fv128, fv129, fv130, fv131, fv132, fv133, fv134, fv135, fv136, fv137, fv138, fv139, fv140, fv141, fv142, fv143, fv144, fv145, fv146, fv147, fv148, fv149, fv150, fv151, fv152, fv153, fv154, fv155, fv156, fv157, fv158, fv159, fv160, fv161, fv162, fv163, fv164, fv165, fv166, fv167, fv168, fv169, fv170, fv171, fv172, fv173, fv174, fv175, fv176, fv177, fv178, fv179, fv180, fv181, fv182, fv183, fv184, fv185, fv186, fv187, fv188, fv189, fv190, fv191, fv192, fv193, fv194, fv195, fv196, fv197, fv198, fv199, fv200, fv201], []⟩ X := by
  conv => arg 2; whnf
  dsimp only
  have TA := tamed_any _ mc ma ms X (HMI.out.keptX HM.out.mf.kw (fun _ _ _ x => x)) hms HMK.out
  go_wp2_with fail
  go_fit TA
  rintro ee w2 ⟨qa2, qc2, qs, rfl, o2, ht, k2⟩
  have HT2 : Hid (Tam qs) := ht
  have K2 : Hid (Kept Nil X w2) := k2
  have hszX : n0 ≤ X.heap.size := HM.out.mf.n0le
  have HO2 : Hid (OwnT n0 w2 qa2 qc2 qs) := own_mono o2 hszX
  have NE := new_any _ qc2 qa2 50 qs w2 HO2.out.row (fun p hp => by obtain ⟨i, hi, e⟩ := HT2.out.1.key p hp; rw [e]; unfold maxLen lowK; simp) (by have := HT2.out.1.len; omega)
  obtain ⟨M, HMq⟩ : ∃ l, Hid (l = qs.length) := ⟨_, rfl⟩
  rw [← HMq.out] at NE ⊢
  clear TA o2 ht k2
  go_wp2_with fail
  go_fit NE
  intro ee w3 hp3
  have hg50 : NewGood 50 qs := by
    have h0 := tam_good (k := 0) HT2.out (by decide)
    exact ⟨by decide, by decide, h0.len, h0.len4, h0.ok, h0.keys⟩
  obtain ⟨hgood, qs', b, ap, cp, hperm, hrise, he3, h31, h32, h33, k3⟩ := hp3.resolve_left (fun x => x.1 hg50)
  subst he3
  have e9 : qs' = qs := rise_perm hrise HT2.out.1.rise hperm
  subst e9
  have hsz2 : n0 ≤ w2.heap.size := Nat.le_trans hszX K2.out.size
  have HM3 : Hid (FO w w1 n0 es w3 T ps pa pc c) := HM.out.next (K2.out.trans k3)
  have HO3 : Hid (OwnT n0 w3 qa2 qc2 qs') := HO2.out.keptX k3 (fun _ _ _ x => x)
  have HF3 : Hid (FS w w1 n0 es b (St.of ps).num qs' w3 (upd T 50 (newTx 50 qs')) ps pa pc c 0) := FS.first HM3.out H6.out h31 (own_mono h32 hsz2) (Nat.le_trans hsz2 h33) (Nat.le_trans (by rw [← Hn0.out]; exact hsz2) h33) HT2.out (newTx_ok hgood hperm)
  have HN : Hid (∀ p ∈ qs', (((St.of ps).num p.k : Nat) : Int) + p.a ≤ 999999999) := HM3.out.bound HT2.out
  clear NE hp3 h31 h32 h33 k3 hgood hperm hrise hg50
  go_upto_if 118 with fail
  go_cut [6] from 118 to 118 (fun _ wc => wc = w3)
  case first =>
    go_wp2
    go_meet
    rfl
  case rest =>
    have hcw := hcut
    rw [hcw]
    apply_assumption
    exact tfTail25 w w1 w3 n0 pc c b M qc2 es qs' (upd T 50 (newTx 50 qs')) ps pa qa2 _ _ _ _ _ _ _ _ _ _ _ _ _ _ _ _ _ _ _ _ _ _ _ _ _ _ _ _ _ _ _ _ _ _ _ _ _ _ _ _ _ _ _ _ _ _ _ _ _ _ _ _ _ _ _ _ _ _ _ _ _ _ _ _ _ _ _ _ _ _ _ _ _ _ _ _ _ _ _ _ _ _ _ _ _ _ _ _ _ _ _ _ _ _ _ _ _ _ _ _ _ _ _ _ _ _ _ _ _ _ _ _ _ _ _ _ _ _ _ _ _ _ _ _ _ _ _ _ _ _ _ _ _ _ _ _ _ _ _ _ _ _ _ _ _ _ _ _ _ _ _ _ _ _ _ _ _ _ _ _ _ _ _ _ _ _ _ _ _ _ _ _ _ _ _ _ _ _ _ _ _ _ _ _ _ _ _ _ _ _ _ _ _ _ _ _ _ _ _ HF3 HL HN HO3 HT2 HMq hl7 hc
end Go.Proofs.YtgkacepcggjfkaaGreatDoor
