/-
  Joined: WSy4.
-/
import Derived.Test.YtpfgnhockfofhaaGreatH19
/-
  Relays: the document's Receive, the walk.
-/
namespace Go.Proofs.YtpfgnhockfofhaaGreat
open Go.RowKit

/-- What the document's Receive leaves. -/
structure RcyPost (G : Nat → Prop) (b : Nat) (id : Int) (os : Nat → Oh) (p : Pk) (w : World) (e : Ending) (w' : World) : Prop where
  res : ∃ a1 c1 a2 c2, e = .returned (.tuple #[.slice a1 (if goodP id p = true then rcvC (os p.fr.toNat) p else []).length c1, .slice a2 (if goodP id p = true then rcvA id (os p.fr.toNat) p else []).length c2]) ∧ OwnPc w.heap.size w' a1 c1 (if goodP id p = true then rcvC (os p.fr.toNat) p else []) ∧ OwnPk w.heap.size w' a2 c2 (if goodP id p = true then rcvA id (os p.fr.toNat) p else [])
  st : ∃ ay' cy', Ry (fun g => G g ∨ w.heap.size ≤ g) w' b id (if goodP id p = true then upd os p.fr.toNat (rcvO (os p.fr.toNat) p) else os) ay' cy' ∧ (¬ (if goodP id p = true then rcvA id (os p.fr.toNat) p else []) = [] → Ry G w' b id (if goodP id p = true then upd os p.fr.toNat (rcvO (os p.fr.toNat) p) else os) ay' cy')
  kw : Kept (TY b) w w'
set_option maxRecDepth 100000 in
set_option maxHeartbeats 8000000 in
theorem receiveY_any (G : Nat → Prop) (b : Nat) (id : Int) (os : Nat → Oh) (ay : Nat → Option Addr) (cy : Nat → Nat) (p : Pk) (w : World) (h : Ry G w b id os ay cy) (hf : ∀ k, k < 10 → (os k).wt.length ≤ 16 ∧ (os k).ak ≤ 9000000000000000000 ∧ (os k).cm ≤ 9000000000000000000) :
    Calls Tryz.prog 43 #[.pointer (some ⟨b, 0, none⟩), pkV p] w (RcyPost G b id os p w) := by
  obtain ⟨W, hW⟩ : ∃ W, W = w.alloc (.cells #[.int .i64 p.fr, .int .i64 p.ds, .int .i64 p.nu, .bool p.ak, .string (bs p.bd)] 86) := ⟨_, rfl⟩
  obtain ⟨A, HAe⟩ : ∃ A, Hid (A = w.heap.size) := ⟨_, rfl⟩
  have KW : Hid (Kept Nil w W) := by rw [hW]; exact (Kept.refl _ _).alloc _
  have HAW : Hid (W.heap[A]? = some (.cells #[.int .i64 p.fr, .int .i64 p.ds, .int .i64 p.nu, .bool p.ak, .string (bs p.bd)] 86 (0, 0))) := by rw [hW, HAe.out]; exact blk_new _ _
  have HRW : Hid (Ry G W b id os ay cy) := h.kept KW.out
  obtain ⟨cells, hc⟩ := HRW.out.cl
  have HC : Hid (RyC W b id os ay cy cells) := hc
  have p0 : W.cell? ⟨A, 0, none⟩ = some (.int .i64 p.fr) := blk_at HAW.out 0 rfl
  have p1 : W.cell? ⟨A, 1, none⟩ = some (.int .i64 p.ds) := blk_at HAW.out 1 rfl
  have p2 : W.cell? ⟨A, 2, none⟩ = some (.int .i64 p.nu) := blk_at HAW.out 2 rfl
  have b0 : W.cell? ⟨b, 0, none⟩ = some (.int .i64 id) := by rw [blk_cell hc.blk]; exact hc.c0
  obtain ⟨gd, HGd⟩ : ∃ gd, Hid (gd = goodP id p) := ⟨_, rfl⟩
  unfold pkV
  clear h hc
  go_enter Tryz.func43, Tryz.ntmps43
  go_upto_region 1 with fail
  rw [← hW, ← HAe.out]
  clear hW
  go_cut [40] (fun x wc => x = .bool (!gd) ∧ Hid (Kept Nil W wc))
  case first =>
    by_cases h1 : p.ds = id
    · have h1b : (p.ds == id) = true := by simp [h1]
      have h1c : (p.ds != id) = false := by simp [h1]
      by_cases h2 : p.fr < 1
      · have h2b : decide (p.fr < 1) = true := decide_eq_true h2
        have HF : Hid (gd = false) := by show _ = _; rw [HGd.out]; unfold goodP isOth isNd; rw [decide_eq_false (by omega : ¬ 1 ≤ p.fr)]; simp
        clear h1
        go_quiet (fail)
        go_wp2
        go_meet
        exact ⟨by rw [HF.out]; rfl, (Kept.refl _ _).drewN _⟩
      · have h2b : decide (p.fr < 1) = false := decide_eq_false h2
        by_cases h3 : p.fr > 9
        · have h3b : decide (p.fr > 9) = true := decide_eq_true h3
          have h3c : decide (9 < p.fr) = true := decide_eq_true h3
          have HF : Hid (gd = false) := by show _ = _; rw [HGd.out]; unfold goodP isOth isNd; rw [decide_eq_false (by omega : ¬ p.fr ≤ 9)]; simp
          clear h1
          go_quiet (fail)
          go_wp2
          go_meet
          exact ⟨by rw [HF.out]; rfl, (Kept.refl _ _).drewN _⟩
        · have h3b : decide (p.fr > 9) = false := decide_eq_false h3
          have h3c : decide (9 < p.fr) = false := decide_eq_false h3
          by_cases h4 : p.fr = id
          · have h4b : (p.fr == id) = true := by simp [h4]
            have HF : Hid (gd = false) := by show _ = _; rw [HGd.out]; unfold goodP isOth; rw [decide_eq_true h4]; simp
            clear h1 h4
            go_quiet (fail)
            go_wp2
            go_meet
            exact ⟨by rw [HF.out]; rfl, (Kept.refl _ _).drewN _⟩
          · have h4b : (p.fr == id) = false := beq_eq_false_iff_ne.2 h4
            have HF : Hid (gd = decide (1 ≤ p.nu)) := by show _ = _; rw [HGd.out]; unfold goodP isOth isNd; rw [decide_eq_true h1, decide_eq_true (by omega : 1 ≤ p.fr), decide_eq_true (by omega : p.fr ≤ 9), decide_eq_false h4]; rfl
            clear h1
            by_cases h5 : p.nu < 1
            · have h5b : decide (p.nu < 1) = true := decide_eq_true h5
              have HF2 : Hid (gd = false) := by show _ = _; rw [HF.out]; exact decide_eq_false (by omega)
              go_quiet (fail)
              go_wp2
              go_meet
              exact ⟨by rw [HF2.out]; rfl, (Kept.refl _ _).drewN _⟩
            · have h5b : decide (p.nu < 1) = false := decide_eq_false h5
              have HF2 : Hid (gd = true) := by show _ = _; rw [HF.out]; exact decide_eq_true (by omega)
              go_quiet (fail)
              go_wp2
              go_meet
              exact ⟨by rw [HF2.out]; rfl, (Kept.refl _ _).drewN _⟩
    · have h1b : (p.ds == id) = false := beq_eq_false_iff_ne.2 h1
      have HF : Hid (gd = false) := by show _ = _; rw [HGd.out]; unfold goodP; rw [decide_eq_false h1]; rfl
      go_quiet (fail)
      go_wp2
      go_meet
      exact ⟨by rw [HF.out]; rfl, (Kept.refl _ _).drewN _⟩
  case rest =>
    obtain ⟨rfl, KC⟩ := hcut
    rename World => w1
    have K1 : Hid (Kept Nil w w1) := KW.out.trans KC.out
    have HR1 : Hid (Ry G w1 b id os ay cy) := HRW.out.kept KC.out
    cases gd with
    | false =>
      have HG : Hid (goodP id p = false) := HGd.out.symm
      go_wp2
      go_ret2
      exact ⟨⟨none, 0, none, 0, by rw [HG.out]; rfl, by rw [HG.out]; exact World.ownsRow_nil _ _ _ _, by rw [HG.out]; exact World.ownsRow_nil _ _ _ _⟩, ⟨ay, cy, by rw [HG.out]; exact HR1.out.up (fun _ x => .inl x), fun ha => absurd (by rw [HG.out]; rfl) ha⟩, K1.out.mono (fun _ _ x => x.elim)⟩
    | true =>
      have HG : Hid (goodP id p = true) := HGd.out.symm
      have hg := HG.out
      unfold goodP isOth isNd at hg
      simp only [Bool.and_eq_true, decide_eq_true_eq] at hg
      obtain ⟨k, HKe⟩ : ∃ k : Nat, Hid (p.fr = (k : Int)) := ⟨p.fr.toNat, (by omega : p.fr = _)⟩
      have hk9 : k < 10 := by have := HKe.out; omega
      have hnu1 : 1 ≤ p.nu := hg.2.2
      clear hg
      have HKn : Hid (p.fr.toNat = k) := by have := HKe.out; show _ = _; omega
      have HC1 : Hid (RyC w1 b id os ay cy cells) := ⟨KC.out.block _ _ HC.out.blk (fun x => x), HC.out.sz, HC.out.c0, HC.out.cs, HC.out.cw, HC.out.cc⟩
      have HA1 : Hid (w1.heap[A]? = some (.cells #[.int .i64 p.fr, .int .i64 p.ds, .int .i64 p.nu, .bool p.ak, .string (bs p.bd)] 86 (0, 0))) := KC.out.block _ _ HAW.out (fun x => x)
      have hki : (k : Int) < 10 := by omega
      have q3 : w1.cell? ⟨A, 3, none⟩ = some (.bool p.ak) := blk_at HA1.out 3 rfl
      obtain ⟨o, HOe⟩ : ∃ o, Hid (o = os k) := ⟨_, rfl⟩
      obtain ⟨hf1, hf2, hf3⟩ := hf k hk9
      rw [← HOe.out] at hf1 hf2 hf3
      have QA : ∀ X, Kept Nil w1 X → X.cell? ⟨A, 0, none⟩ = some (.int .i64 k) ∧ X.cell? ⟨A, 2, none⟩ = some (.int .i64 p.nu) ∧ X.cell? ⟨A, 4, none⟩ = some (.string (bs p.bd)) := fun X kX => by
        have hb := kX.block _ _ HA1.out (fun x => x)
        exact ⟨by rw [← HKe.out]; exact blk_at hb 0 rfl, blk_at hb 2 rfl, blk_at hb 4 rfl⟩
      obtain ⟨a0, Ha0⟩ : ∃ a, Hid (a = ay k) := ⟨_, rfl⟩
      obtain ⟨n0, Hn0⟩ : ∃ a, Hid (a = cy k) := ⟨_, rfl⟩
      have QB : ∀ X, Kept Nil w1 X → X.cell? ⟨b, 11 + k, none⟩ = some (.slice a0 o.wt.length n0) ∧ X.cell? ⟨b, 1 + k, none⟩ = some (.int .i64 (o.ak + o.wt.length : Nat)) ∧ X.cell? ⟨b, 21 + k, none⟩ = some (.int .i64 o.cm) ∧ X.cell? ⟨b, 0, none⟩ = some (.int .i64 id) ∧ ∀ i, X.frozen? ⟨b, i, none⟩ = false := fun X kX => by
        have hb := kX.block _ _ HC1.out.blk (fun x => x)
        exact ⟨by rw [blk_cell hb, HC1.out.cw k hk9, Ha0.out, Hn0.out, HOe.out], by rw [blk_cell hb, HC1.out.cs k hk9, HOe.out], by rw [blk_cell hb, HC1.out.cc k hk9, HOe.out], by rw [blk_cell hb]; exact HC1.out.c0, fun i => blk_free hb i⟩
      clear p0 p1 p2 b0
      cases hak : p.ak with
      | true =>
        rw [hak] at q3
        have HO1 : Hid (rcvO (os k) p = ackO (os k) p.nu ∧ rcvC (os k) p = [] ∧ rcvA id (os k) p = []) := ⟨by unfold rcvO; rw [hak, if_pos rfl], by unfold rcvC; rw [hak, if_pos rfl], by unfold rcvA; rw [hak, if_pos rfl]⟩
        clear hak
        obtain ⟨i2, hi2, hy0, hy1, hy2⟩ := info_parts Tryz.infoOwnPk
        obtain ⟨L, HLe⟩ : ∃ L, Hid (L = pksO id k o) := ⟨_, rfl⟩
        have HLn : Hid (L.length = o.wt.length) := by show _ = _; rw [HLe.out]; exact pksO_len _ _ _
        obtain ⟨sn, HSn⟩ : ∃ n : Nat, Hid (n = o.ak + o.wt.length) := ⟨_, rfl⟩
        rw [← HSn.out] at QB
        have HRow : Hid (∀ X, Kept Nil w1 X → OwnPk 0 X a0 n0 L) := fun X kX => by rw [Ha0.out, Hn0.out, HLe.out, HOe.out]; exact (HR1.out.rows k hk9).kept kX
        go_upto_block 0 with fail
        go_cut [6] (fun s wc => ∃ al cl, s = .slice al (leftP p.nu sn L).length cl ∧ Hid (OwnPk w1.heap.size wc al cl (leftP p.nu sn L)) ∧ Hid (Kept Nil w1 wc))
        case first =>
          go_wp2_with fail
          go_loopw [6, 7] (fun s u wr => ∃ i cl : Nat, ∃ al : Option Addr, ∃ lf : List Pk, i ≤ o.wt.length ∧ u = .int .i64 i ∧ s = .slice al lf.length cl ∧ Hid (lf = leftP p.nu sn (L.take i)) ∧ lf.length ≤ i ∧ Hid (OwnPk w1.heap.size wr al cl lf) ∧ Hid (Kept Nil w1 wr)) (fun _ u _ => o.wt.length - (intOf u).toNat)
          case atStart => exact ⟨0, 0, none, [], Nat.zero_le _, rfl, rfl, rfl, Nat.le_refl _, World.ownsRow_nil _ _ _ _, Kept.refl _ _⟩
          case round =>
            obtain ⟨i, cl, al, lf, hi, rfl, rfl, HLf, hlf, HPl, HKr⟩ := hrel
            obtain ⟨x0, x2, _⟩ := QA wr HKr.out
            obtain ⟨y1, y2, _, _, _⟩ := QB wr HKr.out
            by_cases hil : i < o.wt.length
            · have hii : (i : Int) < o.wt.length := by omega
              have hiL : i < L.length := by rw [HLn.out]; exact hil
              obtain ⟨g, eg, _, _, r0, r1, r2, r3, r4, _⟩ := (HRow.out wr HKr.out).cells hiL
              subst eg
              obtain ⟨y, HY⟩ : ∃ y : Pk, Hid (y = L[i]) := ⟨L[i], (rfl : L[i] = L[i])⟩
              rw [← HY.out] at r0 r1 r2 r3 r4
              go_upto_region 6 with fail
              go_quiet (fail)
              obtain ⟨wd, hwd⟩ : ∃ x : World, x = wr.drewN nq := ⟨_, rfl⟩
              have Kd : Hid (Kept Nil wr wd) := by rw [hwd]; exact (Kept.refl _ _).drewN _
              have S0 : wd.cell? ⟨A, 0, none⟩ = some (.int .i64 k) ∧ wd.cell? ⟨b, 11 + k, none⟩ = some (.slice (some ⟨g, 0, none⟩) o.wt.length n0) ∧ wd.cell? ⟨g, i * 5, none⟩ = some (.int .i64 y.fr) ∧ wd.cell? ⟨g, i * 5 + 1, none⟩ = some (.int .i64 y.ds) ∧ wd.cell? ⟨g, i * 5 + 2, none⟩ = some (.int .i64 y.nu) ∧ wd.cell? ⟨g, i * 5 + 3, none⟩ = some (.bool y.ak) ∧ wd.cell? ⟨g, i * 5 + 4, none⟩ = some (.string (bs y.bd)) := ⟨cell_kept Kd.out (fun _ x => x) x0, cell_kept Kd.out (fun _ x => x) y1, cell_kept Kd.out (fun _ x => x) r0, cell_kept Kd.out (fun _ x => x) r1, cell_kept Kd.out (fun _ x => x) r2, cell_kept Kd.out (fun _ x => x) r3, cell_kept Kd.out (fun _ x => x) r4⟩
              have HRd : Hid (Kept Nil w1 wd) := HKr.out.trans Kd.out
              have hA := World.new_ne wd _ S0.1
              have hb := World.new_ne wd _ S0.2.1
              have hgn := World.new_ne wd _ S0.2.2.1
              go_upto_region 8 with fail
              rw [← hwd]
              clear hwd x0 x2 y1 y2 r0 r1 r2 r3 r4
              go_region_held3 (fun w' => w'.cell? ⟨A, 0, none⟩ = some (.int .i64 k) ∧ w'.cell? ⟨b, 11 + k, none⟩ = some (.slice (some ⟨g, 0, none⟩) o.wt.length n0) ∧ w'.cell? ⟨g, i * 5, none⟩ = some (.int .i64 y.fr) ∧ w'.cell? ⟨g, i * 5 + 1, none⟩ = some (.int .i64 y.ds) ∧ w'.cell? ⟨g, i * 5 + 2, none⟩ = some (.int .i64 y.nu) ∧ w'.cell? ⟨g, i * 5 + 3, none⟩ = some (.bool y.ak) ∧ w'.cell? ⟨g, i * 5 + 4, none⟩ = some (.string (bs y.bd))) (first | assumption | go_keep) (fail)
              obtain ⟨V, hV⟩ : ∃ V, V = (wd.alloc (.cells #[.int .i64 y.fr, .int .i64 y.ds, .int .i64 y.nu, .bool y.ak, .string (bs y.bd)] 86)).drew := ⟨_, rfl⟩
              obtain ⟨D, HDe⟩ : ∃ D, Hid (D = wd.heap.size) := ⟨_, rfl⟩
              have HDV : Hid (V.heap[D]? = some (.cells #[.int .i64 y.fr, .int .i64 y.ds, .int .i64 y.nu, .bool y.ak, .string (bs y.bd)] 86 (0, 0))) := by rw [hV, HDe.out]; exact blk_new _ _
              have KV : Hid (Kept Nil wr V) := by rw [hV]; exact (Kd.out.alloc _).drew
              have KV1 : Hid (Kept Nil w1 V) := HKr.out.trans KV.out
              have z0 : V.cell? ⟨A, 0, none⟩ = some (.int .i64 k) := (QA V KV1.out).1
              have z2 : V.cell? ⟨A, 2, none⟩ = some (.int .i64 p.nu) := (QA V KV1.out).2.1
              have z1 : V.cell? ⟨b, 1 + k, none⟩ = some (.int .i64 sn) := (QB V KV1.out).2.1
              have zd : V.cell? ⟨D, 2, none⟩ = some (.int .i64 y.nu) := blk_at HDV.out 2 rfl
              obtain ⟨t, HTt⟩ : ∃ t : Bool, Hid (t = (decide (y.nu > p.nu) || decide (p.nu > (sn : Int)))) := ⟨_, rfl⟩
              have HNx : Hid (leftP p.nu sn (L.take (i + 1)) = lf ++ (if t = true then [y] else [])) := by show _ = _; rw [leftP_next hiL, ← HLf.out, HTt.out, HY.out]
              have HLt : Hid (i < o.wt.length ∧ lf.length ≤ i) := ⟨hil, hlf⟩
              rw [← hV, ← HDe.out]
              clear hV S0 hA hb hgn
              go_upto_region 9 with fail
              go_cut [81] from 43 to 85 (fun x wc => x = .bool t ∧ Hid (Kept Nil V wc))
              case first =>
                by_cases h1 : y.nu > p.nu
                · have h1b : decide (y.nu > p.nu) = true := decide_eq_true h1
                  have h1c : decide (p.nu < y.nu) = true := decide_eq_true h1
                  have HF : Hid (t = true) := by show _ = _; rw [HTt.out, h1b]; rfl
                  go_quiet (fail)
                  go_wp2
                  go_meet
                  exact ⟨by rw [HF.out], (Kept.refl _ _).drewN _⟩
                · have h1b : decide (y.nu > p.nu) = false := decide_eq_false h1
                  have h1c : decide (p.nu < y.nu) = false := decide_eq_false h1
                  have HF : Hid (t = decide (p.nu > (sn : Int))) := by show _ = _; rw [HTt.out, h1b]; rfl
                  go_quiet (fail)
                  go_wp2
                  go_meet
                  exact ⟨by rw [HF.out]; first | done | rfl | simp, (Kept.refl _ _).drewN _⟩
              case rest =>
                obtain ⟨rfl, KC9⟩ := hcut
                rename World => w9
                have HD9 : Hid (w9.heap[D]? = some (.cells #[.int .i64 y.fr, .int .i64 y.ds, .int .i64 y.nu, .bool y.ak, .string (bs y.bd)] 86 (0, 0))) := KC9.out.block _ _ HDV.out (fun x => x)
                have K9 : Hid (Kept Nil w1 w9) := KV1.out.trans KC9.out
                have HP9 : Hid (OwnPk w1.heap.size w9 al cl lf) := (HPl.out.kept KV.out).kept KC9.out
                clear z0 z1 z2 zd
                cases t with
                | false =>
                  have HNe : Hid (lf = leftP p.nu sn (L.take (i + 1))) := by show _ = _; rw [HNx.out]; exact (List.append_nil _).symm
                  go_wp2
                  go_roundw
                  case rel => (repeat (apply Exists.intro)); refine ⟨?rr, rfl⟩; exact ⟨i + 1, cl, al, lf, (by have := HLt.out; omega), by go_num, rfl, HNe.out, (by have := HLt.out; omega), HP9.out, K9.out⟩
                  case measure => have := HLt.out; simp [intOf]; omega
                | true =>
                  have HNe : Hid (lf ++ [y] = leftP p.nu sn (L.take (i + 1))) := by show _ = _; rw [HNx.out]; rfl
                  have e0 : w9.cell? ⟨D, 0, none⟩ = some (.int .i64 y.fr) := blk_at HD9.out 0 rfl
                  have e1 : w9.cell? ⟨D, 1, none⟩ = some (.int .i64 y.ds) := blk_at HD9.out 1 rfl
                  have e2 : w9.cell? ⟨D, 2, none⟩ = some (.int .i64 y.nu) := blk_at HD9.out 2 rfl
                  have e3 : w9.cell? ⟨D, 3, none⟩ = some (.bool y.ak) := blk_at HD9.out 3 rfl
                  have e4 : w9.cell? ⟨D, 4, none⟩ = some (.string (bs y.bd)) := blk_at HD9.out 4 rfl
                  have SR := oneOwnPk_src w9 y
                  have HPo : Hid (w9.ownsRow w1.heap.size 86 5 (.slice al lf.length cl) lf.length (pkCells lf)) := HP9.out
                  have HLL : Hid (lf.length + 1 ≤ maxLen ∧ (lf.length + 1) * 48 ≤ 140737488355328) := by have := HLt.out; constructor <;> (try unfold maxLen) <;> omega
                  have hBs : w1.heap.size ≤ w9.heap.size := K9.out.size
                  go_wp2_with (at_builtin; go_must (refine wpList_append_src _ rfl _ _ 44 44 rfl w1.heap.size 86 i2 (.agg #[.int .i64 0, .int .i64 0, .int .i64 0, .bool false, .string ⟨#[]⟩]) 5 48 Tryz.underlying44 hi2 hy0 hy1 hy2 rfl (.slice al lf.length cl) lf.length (pkCells lf) rfl (World.ownsRow.alloc HPo.out _) (.slice (some ⟨w9.heap.size, 0, none⟩) 1 1) 1 [.int .i64 y.fr, .int .i64 y.ds, .int .i64 y.nu, .bool y.ak, .string (bs y.bd)] rfl SR HLL.out.1 HLL.out.2 (le_alloc hBs _) ?_); intro a6 c6 w10 ho6 hg6; have HP6 : Hid (OwnPk w1.heap.size w10 a6 c6 (lf ++ [y])) := OwnPk.push ho6; have K10 : Hid (Kept Nil w1 w10) := (K9.out.alloc _).grown hg6 (fun k hk => own_row HPo.out k hk); clear ho6 hg6)
                  go_roundw
                  case rel => exact ⟨i + 1, (by have := HLt.out; omega), by omega, c6, a6, lf ++ [y], ⟨rfl, by rw [List.length_append]; rfl, rfl⟩, HNe.out, (by have := HLt.out; rw [List.length_append]; show lf.length + 1 ≤ i + 1; omega), HP6.out⟩
                  case measure => have := HLt.out; simp [intOf]; omega
            · obtain rfl : i = o.wt.length := by omega
              have hirr : ¬ (o.wt.length : Int) < o.wt.length := by omega
              have HEq : Hid (lf = leftP p.nu sn L) := by show _ = _; rw [HLf.out, List.take_of_length_le (by rw [HLn.out]; omega)]
              go_upto_region 6 with fail
              go_quiet (fail)
              go_wp2
              go_meet
              exact ⟨al, cl, by rw [← HEq.out], by rw [← HEq.out]; exact HPl.out, HKr.out.drewN _⟩
        case rest =>
          obtain ⟨al, cl, rfl, HPl, KC2⟩ := hcut
          rename World => w2
          obtain ⟨x0, _, _⟩ := QA w2 KC2.out
          obtain ⟨y1, _, _, _, yf⟩ := QB w2 KC2.out
          have yf1 := yf (11 + k)
          have HLo : Hid (leftP p.nu sn L = pksO id k (ackO o p.nu)) := by show _ = _; rw [HLe.out, HSn.out]; exact left_ack id k o p.nu hnu1
          have HSt := HR1.out.setW (G' := fun g => G g ∨ w.heap.size ≤ g) HC1.out hk9 KC2.out (o' := ackO o p.nu) (by rw [(ack_sent o p.nu hnu1).1, HOe.out]) (by rw [(ack_sent o p.nu hnu1).2, HOe.out]) (a' := al) (c' := cl) (by rw [← HLo.out]; exact HPl.out) (fun _ x => .inl x) (fun g hg => .inr (Nat.le_trans K1.out.size hg))
          have HSt : Hid (Ry (fun g => G g ∨ w.heap.size ≤ g) (w2.setCell ⟨b, 11 + k, none⟩ (.slice al (ackO o p.nu).wt.length cl)) b id (upd os k (ackO o p.nu)) (upd ay k al) (upd cy k cl)) := HSt
          have HLl : Hid ((leftP p.nu sn L).length = (ackO o p.nu).wt.length) := by show _ = _; rw [HLo.out, pksO_len]
          rw [HLl.out]
          have KF : Hid (Kept (TY b) w (w2.setCell ⟨b, 11 + k, none⟩ (.slice al (ackO o p.nu).wt.length cl))) := ((K1.out.trans KC2.out).mono (fun _ _ x => x.elim)).setT (fun ob hob => by
            have h1 := K1.out.block _ _ hob (fun x => x)
            rw [HC1.out.blk] at h1
            cases h1
            exact ⟨rfl, _, rfl⟩) _ _
          generalize (ackO o p.nu).wt.length = ml at *
          clear yf
          go_upto_region 11 with fail
          go_region
          go_wp2
          go_ret2
          have HOk : os k = o := HOe.out.symm
          refine ⟨⟨none, 0, none, 0, by rw [HG.out, HKn.out, if_pos rfl, if_pos rfl, HO1.out.2.1, HO1.out.2.2]; rfl, by rw [HG.out, HKn.out, if_pos rfl, HO1.out.2.1]; exact World.ownsRow_nil _ _ _ _, by rw [HG.out, HKn.out, if_pos rfl, HO1.out.2.2]; exact World.ownsRow_nil _ _ _ _⟩, ⟨upd ay k al, upd cy k cl, ?_, fun ha => absurd (by rw [HG.out, HKn.out, if_pos rfl, HO1.out.2.2]) ha⟩, ?_⟩
          · rw [HG.out, HKn.out, if_pos rfl, HO1.out.1, HOk]; exact HSt.out.kept (Kept.refl _ _).drew
          · exact KF.out.drew
      | false =>
        rw [hak] at q3
        have hocm : (o.cm : Int) ≤ 9000000000000000000 := by omega
        have hwr : IntKind.i64.wrap ((o.cm : Int) + 1) = (o.cm : Int) + 1 := IntWalk.i64_in _ (by omega)
        obtain ⟨t, HTt⟩ : ∃ t : Bool, Hid (t = decide (p.nu = (o.cm : Int) + 1)) := ⟨_, rfl⟩
        have HO1 : Hid (rcvO o p = (if t = true then { o with cm := o.cm + 1 } else o) ∧ rcvC o p = (if t = true then [⟨k, p.bd⟩] else [])) := by
          have e := HTt.out
          refine ⟨?_, ?_⟩
          · unfold rcvO
            rw [hak, if_neg (by decide)]
            by_cases h : p.nu = (o.cm : Int) + 1
            · rw [e, decide_eq_true h, if_pos h, if_pos rfl]
            · rw [e, decide_eq_false h, if_neg h, if_neg (by decide)]
          · unfold rcvC
            rw [hak, if_neg (by decide), HKe.out]
            by_cases h : p.nu = (o.cm : Int) + 1
            · rw [e, decide_eq_true h, if_pos h, if_pos rfl]
            · rw [e, decide_eq_false h, if_neg h, if_neg (by decide)]
        have HA0 : Hid (rcvA id o p = if 0 < (rcvO o p).cm then [⟨id, k, (rcvO o p).cm, true, []⟩] else []) := by show _ = _; unfold rcvA; rw [hak, if_neg (by decide), HKe.out]
        have hAb : A ≠ b := fun e => by
          have h1 := HA1.out
          rw [e, HC1.out.blk] at h1
          simp at h1
        have hbA : b ≠ A := fun e => hAb e.symm
        obtain ⟨x0, x2, x4⟩ := QA w1 (Kept.refl _ _)
        obtain ⟨_, _, y3, _, _⟩ := QB w1 (Kept.refl _ _)
        clear hak
        go_upto_region 14 with fail
        go_cut [103] (fun x wc => x = .bool t ∧ Hid (Kept Nil w1 wc))
        case first =>
          by_cases h : p.nu = (o.cm : Int) + 1
          · have HT1 : Hid (t = true) := by show _ = _; rw [HTt.out]; exact decide_eq_true h
            have hb1 : (p.nu == (o.cm : Int) + 1) = true := by simp [h]
            have hb2 : decide (p.nu = (o.cm : Int) + 1) = true := decide_eq_true h
            clear h
            go_quiet (fail)
            go_wp2
            go_meet
            exact ⟨by rw [HT1.out], (Kept.refl _ _).drewN _⟩
          · have HT1 : Hid (t = false) := by show _ = _; rw [HTt.out]; exact decide_eq_false h
            have hb1 : (p.nu == (o.cm : Int) + 1) = false := beq_eq_false_iff_ne.2 h
            go_quiet (fail)
            go_wp2
            go_meet
            exact ⟨by rw [HT1.out], (Kept.refl _ _).drewN _⟩
        case rest =>
          obtain ⟨rfl, KC3⟩ := hcut
          rename World => w3
          have K3 : Hid (Kept Nil w w3) := K1.out.trans KC3.out
          have HR3 : Hid (Ry G w3 b id os ay cy) := HR1.out.kept KC3.out
          have HA3 : Hid (w3.heap[A]? = some (.cells #[.int .i64 p.fr, .int .i64 p.ds, .int .i64 p.nu, .bool p.ak, .string (bs p.bd)] 86 (0, 0))) := KC3.out.block _ _ HA1.out (fun x => x)
          obtain ⟨u0, _, u4⟩ := QA w3 KC3.out
          obtain ⟨_, _, r3, _, fr3⟩ := QB w3 KC3.out
          have f3 := fr3 (21 + k)
          have HB3 : Hid (w3.heap[b]? = some (.cells cells 98 (0, 0))) := KC3.out.block _ _ HC1.out.blk (fun x => x)
          clear x0 x2 x4 y3 q3 QA QB fr3
          go_upto_if 103 with fail
          go_cut [9] (fun s wc => ∃ a1 c1, s = .slice a1 (rcvC o p).length c1 ∧ Hid (OwnPc w.heap.size wc a1 c1 (rcvC o p)) ∧ Hid (Ry G wc b id (upd os k (rcvO o p)) ay cy) ∧ Hid (wc.heap[A]? = some (.cells #[.int .i64 p.fr, .int .i64 p.ds, .int .i64 p.nu, .bool p.ak, .string (bs p.bd)] 86 (0, 0))) ∧ Hid (Kept (TY b) w wc))
          case first =>
            cases t with
            | false =>
              have HE1 : Hid (rcvO o p = o ∧ rcvC o p = []) := HO1.out
              go_wp2
              go_meet
              exact ⟨none, 0, by rw [HE1.out.2]; rfl, by rw [HE1.out.2]; exact World.ownsRow_nil _ _ _ _, by rw [HE1.out.1, HOe.out, upd_id]; exact HR3.out, HA3.out, K3.out.mono (fun _ _ x => x.elim)⟩
            | true =>
              have HE1 : Hid (rcvO o p = { o with cm := o.cm + 1 } ∧ rcvC o p = [⟨k, p.bd⟩]) := HO1.out
              obtain ⟨W4, hW4⟩ : ∃ W, W = (w3.setCell ⟨b, 21 + k, none⟩ (.int .i64 ((o.cm : Int) + 1))).drew := ⟨_, rfl⟩
              have e4 : ((o.cm + 1 : Nat) : Int) = (o.cm : Int) + 1 := by omega
              have HR4 : Hid (Ry G W4 b id (upd os k { o with cm := o.cm + 1 }) ay cy) := by
                have h := (HR3.out.setC (k := k) hk9 (o.cm + 1)).kept (Kept.refl _ _).drew
                rw [e4, ← hW4, ← HOe.out] at h
                exact h
              have HA4 : Hid (W4.heap[A]? = some (.cells #[.int .i64 p.fr, .int .i64 p.ds, .int .i64 p.nu, .bool p.ak, .string (bs p.bd)] 86 (0, 0))) := by rw [hW4]; exact (Kept.refl Nil _).drew.block _ _ (blk_other HA3.out hAb _) (fun x => x)
              have K4 : Hid (Kept (TY b) w W4) := by rw [hW4]; exact ((K3.out.mono (fun _ _ x => x.elim)).setT (fun o ho => by have h1 := K3.out.block _ _ ho (fun x => x); rw [HB3.out] at h1; cases h1; exact ⟨rfl, _, rfl⟩) _ _).drew
              have s0 : W4.cell? ⟨A, 0, none⟩ = some (.int .i64 k) := by rw [← HKe.out]; exact blk_at HA4.out 0 rfl
              have s4 : W4.cell? ⟨A, 4, none⟩ = some (.string (bs p.bd)) := blk_at HA4.out 4 rfl
              have hB4 : w.heap.size ≤ W4.heap.size := K4.out.size
              have HLc : Hid (OwnPc w.heap.size (W4.alloc (.cells #[.int .i64 (k : Int), .string (bs p.bd)] 104)) (some ⟨W4.heap.size, 0, none⟩) 1 [⟨k, p.bd⟩]) := OwnPc.mono (World.ownsRow_lit W4 #[.int .i64 (k : Int), .string (bs p.bd)] 1 (Nat.le_refl _) (by decide) rfl) hB4
              go_upto_region 15 with fail
              go_region
              go_upto_region 16 with fail
              rw [← hW4]
              clear hW4 r3 f3 u0 u4
              go_wp2
              go_meet
              exact ⟨_, _, by rw [HE1.out.2]; rfl, by rw [HE1.out.2]; exact HLc.out, by rw [HE1.out.1]; exact HR4.out.kept ((Kept.refl _ _).alloc _), blk_past HA4.out _, K4.out.alloc _⟩
          case rest =>
            obtain ⟨a1, c1, rfl, HP5, HR5, HA5, K5⟩ := hcut
            rename World => w5
            obtain ⟨cells5, hc5⟩ := HR5.out.cl
            obtain ⟨cm, HCm⟩ : ∃ n, Hid (n = (rcvO o p).cm) := ⟨_, rfl⟩
            have r5 : w5.cell? ⟨b, 21 + k, none⟩ = some (.int .i64 cm) := by rw [blk_cell hc5.blk, hc5.cc k hk9, upd_self, HCm.out]
            have r0 : w5.cell? ⟨b, 0, none⟩ = some (.int .i64 id) := by rw [blk_cell hc5.blk, hc5.c0]
            have s5 : w5.cell? ⟨A, 0, none⟩ = some (.int .i64 k) := by rw [← HKe.out]; exact blk_at HA5.out 0 rfl
            clear hc5 r3 f3 u0 u4
            rw [← HCm.out] at HA0
            have HOk : Hid (os k = o) := HOe.out.symm
            go_upto_region 17 with fail
            go_cut [128] (fun x wc => x = .bool (decide (cm = 0)) ∧ Hid (Kept Nil w5 wc))
            case first =>
              by_cases h : cm = 0
              · have hb1 : ((cm : Int) == 0) = true := by simp [h]
                have hb2 : (cm == 0) = true := by simp [h]
                have HD : Hid (decide (cm = 0) = true) := decide_eq_true h
                clear h
                go_quiet (fail)
                go_wp2
                go_meet
                exact ⟨by rw [HD.out], (Kept.refl _ _).drewN _⟩
              · have hb1 : ((cm : Int) == 0) = false := by simp [h]
                have hb2 : (cm == 0) = false := by simp [h]
                have HD : Hid (decide (cm = 0) = false) := decide_eq_false h
                go_quiet (fail)
                go_wp2
                go_meet
                exact ⟨by rw [HD.out], (Kept.refl _ _).drewN _⟩
            case rest =>
              obtain ⟨rfl, KC6⟩ := hcut
              rename World => w6
              have S0 : w6.cell? ⟨b, 0, none⟩ = some (.int .i64 id) ∧ w6.cell? ⟨A, 0, none⟩ = some (.int .i64 k) ∧ w6.cell? ⟨b, 21 + k, none⟩ = some (.int .i64 cm) := ⟨cell_kept KC6.out (fun _ x => x) r0, cell_kept KC6.out (fun _ x => x) s5, cell_kept KC6.out (fun _ x => x) r5⟩
              have K6 : Hid (Kept (TY b) w w6) := K5.out.trans (KC6.out.mono (fun _ _ x => x.elim))
              have HR6 : Hid (Ry G w6 b id (upd os k (rcvO o p)) ay cy) := HR5.out.kept KC6.out
              have HP6 : Hid (OwnPc w.heap.size w6 a1 c1 (rcvC o p)) := HP5.out.kept KC6.out
              clear r0 s5 r5
              by_cases h : cm = 0
              · have HD : Hid (decide (cm = 0) = true) := decide_eq_true h
                have HE2 : Hid (rcvA id o p = []) := by show _ = _; rw [HA0.out, if_neg (by omega)]
                have HE3 : Hid (rcvC o p = []) := by
                  show _ = _
                  rw [HO1.out.2]
                  have e := HCm.out
                  rw [HO1.out.1] at e
                  cases t with
                  | false => rfl
                  | true => exact absurd e (by rw [h, if_pos rfl]; show ¬ 0 = o.cm + 1; omega)
                rw [HD.out]
                clear h
                go_wp2
                go_ret2
                exact ⟨⟨none, 0, none, 0, by rw [HG.out, HKn.out, if_pos rfl, if_pos rfl, HOk.out, HE2.out, HE3.out]; rfl, by rw [HG.out, HKn.out, if_pos rfl, HOk.out, HE3.out]; exact World.ownsRow_nil _ _ _ _, by rw [HG.out, HKn.out, if_pos rfl, HOk.out, HE2.out]; exact World.ownsRow_nil _ _ _ _⟩, ⟨ay, cy, by rw [HG.out, HKn.out, if_pos rfl, HOk.out]; exact HR6.out.up (fun _ x => .inl x), fun ha => absurd (by rw [HG.out, HKn.out, if_pos rfl, HOk.out, HE2.out]) ha⟩, K6.out⟩
              · have HD : Hid (decide (cm = 0) = false) := decide_eq_false h
                have HE2 : Hid (rcvA id o p = [⟨id, k, cm, true, []⟩]) := by show _ = _; rw [HA0.out, if_pos (by omega)]
                have HLk : Hid (OwnPk w.heap.size (w6.alloc (.cells #[.int .i64 id, .int .i64 (k : Int), .int .i64 (cm : Int), .bool true, .string (bs [])] 86)) (some ⟨w6.heap.size, 0, none⟩) 1 [⟨id, k, cm, true, []⟩]) := OwnPk.mono (World.ownsRow_lit w6 #[.int .i64 id, .int .i64 (k : Int), .int .i64 (cm : Int), .bool true, .string (bs [])] 1 (Nat.le_refl _) (by decide) rfl) K6.out.size
                have hA := World.new_ne w6 _ S0.2.1
                have hb := World.new_ne w6 _ S0.1
                rw [HD.out]
                clear h
                go_upto_region 19 with fail
                go_region_held3 (fun w' => w'.cell? ⟨b, 0, none⟩ = some (.int .i64 id) ∧ w'.cell? ⟨A, 0, none⟩ = some (.int .i64 k) ∧ w'.cell? ⟨b, 21 + k, none⟩ = some (.int .i64 cm)) (first | assumption | go_keep) (fail)
                go_wp2
                go_ret2
                exact ⟨⟨a1, c1, some ⟨w6.heap.size, 0, none⟩, 1, by rw [HG.out, HKn.out, if_pos rfl, if_pos rfl, HOk.out, HE2.out]; rfl, by rw [HG.out, HKn.out, if_pos rfl, HOk.out]; exact HP6.out.kept ((Kept.refl _ _).alloc _).drew, by rw [HG.out, HKn.out, if_pos rfl, HOk.out, HE2.out]; exact HLk.out.kept (Kept.refl _ _).drew⟩, ⟨ay, cy, by rw [HG.out, HKn.out, if_pos rfl, HOk.out]; exact (HR6.out.up (fun _ x => .inl x)).kept ((Kept.refl _ _).alloc _).drew, fun _ => by rw [HG.out, HKn.out, if_pos rfl, HOk.out]; exact HR6.out.kept ((Kept.refl _ _).alloc _).drew⟩, (K6.out.alloc _).drew⟩
end Go.Proofs.YtpfgnhockfofhaaGreat
