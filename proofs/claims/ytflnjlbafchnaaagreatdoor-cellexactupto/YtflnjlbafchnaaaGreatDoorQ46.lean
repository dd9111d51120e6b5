/-
  Joined: WCg5.
-/
import Derived.Test.YtflnjlbafchnaaaGreatDoorQ19
import Derived.Test.YtflnjlbafchnaaaGreatDoorQ45
/-
  Cells: apply (the program).
-/
namespace Go.Proofs.YtflnjlbafchnaaaGreatDoor
open Go.RowKit

theorem spj {w w' : World} {b : Nat} {j : Jb} {K : Jn} (h : JbAt w b j K) (hk : Kept (fun q _ => w.heap.size ≤ q) w w') : w'.cell? ⟨b, 0, none⟩ = some (.int .i64 j.kd) ∧ w'.cell? ⟨b, 1, none⟩ = some (.string (bs j.k)) ∧ w'.cell? ⟨b, 2, none⟩ = some (.string (bs j.v)) ∧ w'.cell? ⟨b, 3, none⟩ = some (.int .i64 j.m) ∧ w'.cell? ⟨b, 12, none⟩ = some (.string (bs j.sn.v)) ∧ w'.cell? ⟨b, 13, none⟩ = some (.int .i64 j.sn.n) := by
  have hb := lt_of_block h
  have h2 : JbAt w' b j K := hk.block _ _ h (fun e => by omega)
  exact ⟨blk_at h2 0 rfl, blk_at h2 1 rfl, blk_at h2 2 rfl, blk_at h2 3 rfl, blk_at h2 12 rfl, blk_at h2 13 rfl⟩
set_option maxRecDepth 100000 in
set_option maxHeartbeats 4000000 in
theorem japply_any (w : World) (b : Nat) (j : Jb) (K : Jn) (h : JbAt w b j K) (hc : CmOk j.kd j.k j.v j.m j.sn.v j.sn.n) :
    Calls Tryz.prog 128 #[.pointer (some ⟨b, 0, none⟩)] w (JPost w b j.apply) := by
  have hlt : b < w.heap.size := lt_of_block h
  obtain ⟨u, Hu⟩ : ∃ u, Hid (u = j.apply) := ⟨_, rfl⟩
  rw [← Hu.out]
  have HJ : Hid (JbAt w b j K) := h
  clear h
  obtain ⟨v', Hv⟩ : ∃ v', Hid (v' = cmV j.kd j.v j.m j.sn.v j.sn.n) := ⟨_, rfl⟩
  obtain ⟨n', Hn⟩ : ∃ n', Hid (n' = cmN j.kd j.m j.sn.n) := ⟨_, rfl⟩
  obtain ⟨r, Hr⟩ : ∃ r, Hid (r = cmR j.kd j.m j.sn.v j.sn.n) := ⟨_, rfl⟩
  have CA := fun (X : World) (_ : Kept Nil w X) => capply_any j.kd j.k j.v j.m j.sn.v j.sn.n X hc
  rw [← Hv.out, ← Hn.out, ← Hr.out] at CA
  unfold ctV at CA
  have s0 := spj HJ.out (Kept.refl _ w)
  have HVL : Hid (v'.length ≤ maxLen) := by
    show _ ≤ _
    rw [Hv.out]
    have h1 := hc.ov
    have h2 := hc.oval
    unfold maxLen cmV
    (repeat' split) <;> (try simp) <;> omega
  go_enter Tryz.func128, Tryz.ntmps128
  go_upto_region 0 with fail
  go_region_held3 (fun w' => w'.cell? ⟨b, 0, none⟩ = some (.int .i64 j.kd) ∧ w'.cell? ⟨b, 1, none⟩ = some (.string (bs j.k)) ∧ w'.cell? ⟨b, 2, none⟩ = some (.string (bs j.v)) ∧ w'.cell? ⟨b, 3, none⟩ = some (.int .i64 j.m) ∧ w'.cell? ⟨b, 12, none⟩ = some (.string (bs j.sn.v)) ∧ w'.cell? ⟨b, 13, none⟩ = some (.int .i64 j.sn.n)) (first | (with_reducible assumption) | (refine spj HJ.out ?_; repeat (first | (with_reducible exact KaG.out) | (with_reducible exact Kept.refl _ _) | (with_reducible refine Kept.drew ?_) | (with_reducible refine Kept.alloc ?_ _) | (with_reducible refine Kept.setCell ?_ (fun _ => ?_) _) | (first | exact Nat.le_refl _ | exact Nat.le_succ _ | exact hsz | exact Nat.le_succ_of_le hsz)))) (first | (go_at_call 159; go_must (go_fit (CA _ (by repeat (first | exact Kept.refl _ _ | refine Kept.drew ?_ | refine Kept.alloc ?_ _)))); rintro _ wa ⟨ko, kc, rfl, hkn, ka⟩; have HKN : Hid (ko = none ∧ kc = 0) := hkn; clear hkn; have Ka : Hid (Kept Nil w wa) := Kept.trans (by repeat (first | exact Kept.refl _ _ | refine Kept.drew ?_ | refine Kept.alloc ?_ _)) ka; (try (have C0 : Hid (wa.heap[w.heap.size]? = some (.cells #[.string ⟨#[]⟩, .int .i64 0] 129 (0, 0))) := ka.block _ _ (by first | exact blk_new w _ | exact blk_past (blk_new w _) _ | exact blk_new1 w _ _ | exact blk_new w.drew _ | exact blk_past (blk_new w.drew _) _ | exact blk_new1 w.drew _ _) (fun x => x); have C0c0 : wa.cell? ⟨w.heap.size, 0, none⟩ = some (.string ⟨#[]⟩) := blk_at C0.out 0 rfl; have C0f0 := blk_free C0.out 0; have C0c1 : wa.cell? ⟨w.heap.size, 1, none⟩ = some (.int .i64 0) := blk_at C0.out 1 rfl; have C0f1 := blk_free C0.out 1; have C0l : w.heap.size < wa.heap.size := lt_of_block C0.out; have C0n : wa.heap.size ≠ w.heap.size := Nat.ne_of_gt C0l; have C0m : w.heap.size ≠ wa.heap.size := Nat.ne_of_lt C0l)); (try (have R0 : Hid (wa.heap[w.heap.size]? = some (.cells #[.int .i64 0, .string ⟨#[]⟩, .int .i64 0, .slice none 0 0] 50 (0, 0))) := ka.block _ _ (by first | exact blk_new w _ | exact blk_past (blk_new w _) _ | exact blk_new1 w _ _ | exact blk_new w.drew _ | exact blk_past (blk_new w.drew _) _ | exact blk_new1 w.drew _ _) (fun x => x); have R0c0 : wa.cell? ⟨w.heap.size, 0, none⟩ = some (.int .i64 0) := blk_at R0.out 0 rfl; have R0f0 := blk_free R0.out 0; have R0c1 : wa.cell? ⟨w.heap.size, 1, none⟩ = some (.string ⟨#[]⟩) := blk_at R0.out 1 rfl; have R0f1 := blk_free R0.out 1; have R0c2 : wa.cell? ⟨w.heap.size, 2, none⟩ = some (.int .i64 0) := blk_at R0.out 2 rfl; have R0f2 := blk_free R0.out 2; have R0c3 : wa.cell? ⟨w.heap.size, 3, none⟩ = some (.slice none 0 0) := blk_at R0.out 3 rfl; have R0f3 := blk_free R0.out 3; have R0l : w.heap.size < wa.heap.size := lt_of_block R0.out; have R0n : wa.heap.size ≠ w.heap.size := Nat.ne_of_gt R0l; have R0m : w.heap.size ≠ wa.heap.size := Nat.ne_of_lt R0l)); (try (have C1 : Hid (wa.heap[w.heap.size + 1]? = some (.cells #[.string ⟨#[]⟩, .int .i64 0] 129 (0, 0))) := ka.block _ _ (by first | exact blk_new w _ | exact blk_past (blk_new w _) _ | exact blk_new1 w _ _ | exact blk_new w.drew _ | exact blk_past (blk_new w.drew _) _ | exact blk_new1 w.drew _ _) (fun x => x); have C1c0 : wa.cell? ⟨w.heap.size + 1, 0, none⟩ = some (.string ⟨#[]⟩) := blk_at C1.out 0 rfl; have C1f0 := blk_free C1.out 0; have C1c1 : wa.cell? ⟨w.heap.size + 1, 1, none⟩ = some (.int .i64 0) := blk_at C1.out 1 rfl; have C1f1 := blk_free C1.out 1; have C1l : w.heap.size + 1 < wa.heap.size := lt_of_block C1.out; have C1n : wa.heap.size ≠ w.heap.size + 1 := Nat.ne_of_gt C1l; have C1m : w.heap.size + 1 ≠ wa.heap.size := Nat.ne_of_lt C1l)); (try (have R1 : Hid (wa.heap[w.heap.size + 1]? = some (.cells #[.int .i64 0, .string ⟨#[]⟩, .int .i64 0, .slice none 0 0] 50 (0, 0))) := ka.block _ _ (by first | exact blk_new w _ | exact blk_past (blk_new w _) _ | exact blk_new1 w _ _ | exact blk_new w.drew _ | exact blk_past (blk_new w.drew _) _ | exact blk_new1 w.drew _ _) (fun x => x); have R1c0 : wa.cell? ⟨w.heap.size + 1, 0, none⟩ = some (.int .i64 0) := blk_at R1.out 0 rfl; have R1f0 := blk_free R1.out 0; have R1c1 : wa.cell? ⟨w.heap.size + 1, 1, none⟩ = some (.string ⟨#[]⟩) := blk_at R1.out 1 rfl; have R1f1 := blk_free R1.out 1; have R1c2 : wa.cell? ⟨w.heap.size + 1, 2, none⟩ = some (.int .i64 0) := blk_at R1.out 2 rfl; have R1f2 := blk_free R1.out 2; have R1c3 : wa.cell? ⟨w.heap.size + 1, 3, none⟩ = some (.slice none 0 0) := blk_at R1.out 3 rfl; have R1f3 := blk_free R1.out 3; have R1l : w.heap.size + 1 < wa.heap.size := lt_of_block R1.out; have R1n : wa.heap.size ≠ w.heap.size + 1 := Nat.ne_of_gt R1l; have R1m : w.heap.size + 1 ≠ wa.heap.size := Nat.ne_of_lt R1l)); have sa := spj HJ.out (Ka.out.mono (fun _ _ x => x.elim)); have KaG : Hid (Kept (fun q _ => w.heap.size ≤ q) w wa) := Ka.out.mono (fun _ _ x => x.elim); have hsz : w.heap.size ≤ wa.heap.size := Ka.out.size; clear ka; (try (unfold ctV)); (try (unfold rrV))))
  all_goals
    first
      | (obtain ⟨X, hX⟩ : ∃ X, X = (wa.alloc (.cells #[.string (bs v'), .int .i64 n'] 129)).alloc (.cells #[.int .i64 r.kd, .string (bs r.v), .int .i64 r.n, .slice ko r.ks.length kc] 50) := ⟨_, rfl⟩; rw [← hX]; have HS : Hid (X.heap[wa.heap.size]? = some (.cells #[.string (bs v'), .int .i64 n'] 129 (0, 0)) ∧ X.heap[wa.heap.size + 1]? = some (.cells #[.int .i64 r.kd, .string (bs r.v), .int .i64 r.n, .slice ko r.ks.length kc] 50 (0, 0)) ∧ Kept Nil w X) := (by rw [hX]; exact ⟨blk_past (blk_new _ _) _, blk_new1 _ _ _, (Ka.out.alloc _).alloc _⟩); have HGb : Hid (wa.heap.size ≠ b ∧ wa.heap.size + 1 ≠ b ∧ wa.heap.size ≠ wa.heap.size + 1) := (by have := hlt; have := hsz; exact ⟨by omega, by omega, by omega⟩); clear hX; obtain ⟨G1, HG1⟩ : ∃ G, Hid (G = wa.heap.size) := ⟨_, rfl⟩; obtain ⟨G2, HG2⟩ : ∃ G, Hid (G = wa.heap.size + 1) := ⟨_, rfl⟩; rw [← HG2.out, ← HG1.out] at HS HGb ⊢)
      | (obtain ⟨X, hX⟩ : ∃ X, X = (wa.alloc (.cells #[.int .i64 r.kd, .string (bs r.v), .int .i64 r.n, .slice ko r.ks.length kc] 50)).alloc (.cells #[.string (bs v'), .int .i64 n'] 129) := ⟨_, rfl⟩; rw [← hX]; have HS : Hid (X.heap[wa.heap.size + 1]? = some (.cells #[.string (bs v'), .int .i64 n'] 129 (0, 0)) ∧ X.heap[wa.heap.size]? = some (.cells #[.int .i64 r.kd, .string (bs r.v), .int .i64 r.n, .slice ko r.ks.length kc] 50 (0, 0)) ∧ Kept Nil w X) := (by rw [hX]; exact ⟨blk_new1 _ _ _, blk_past (blk_new _ _) _, (Ka.out.alloc _).alloc _⟩); have HGb : Hid (wa.heap.size + 1 ≠ b ∧ wa.heap.size ≠ b ∧ wa.heap.size + 1 ≠ wa.heap.size) := (by have := hlt; have := hsz; exact ⟨by omega, by omega, by omega⟩); clear hX; obtain ⟨G1, HG1⟩ : ∃ G, Hid (G = wa.heap.size + 1) := ⟨_, rfl⟩; obtain ⟨G2, HG2⟩ : ∃ G, Hid (G = wa.heap.size) := ⟨_, rfl⟩; rw [← HG1.out, ← HG2.out] at HS HGb ⊢)
      | (obtain ⟨X, hX⟩ : ∃ X, X = ((wa.setCell ⟨w.heap.size, 0, none⟩ (.string (bs v'))).setCell ⟨w.heap.size, 1, none⟩ (.int .i64 n')).alloc (.cells #[.int .i64 r.kd, .string (bs r.v), .int .i64 r.n, .slice ko r.ks.length kc] 50) := ⟨_, rfl⟩; rw [← hX]; have HS : Hid (X.heap[w.heap.size]? = some (.cells #[.string (bs v'), .int .i64 n'] 129 (0, 0)) ∧ X.heap[wa.heap.size]? = some (.cells #[.int .i64 r.kd, .string (bs r.v), .int .i64 r.n, .slice ko r.ks.length kc] 50 (0, 0)) ∧ Kept Nil w X) := (by rw [hX]; exact ⟨blk_past (cput2 C0.out) _, (by have h9 := blk_new ((wa.setCell ⟨w.heap.size, 0, none⟩ (.string (bs v'))).setCell ⟨w.heap.size, 1, none⟩ (.int .i64 n')) (.cells #[.int .i64 r.kd, .string (bs r.v), .int .i64 r.n, .slice ko r.ks.length kc] 50); simpa using h9), (((Ka.out.setNew (p := ⟨w.heap.size, 0, none⟩) (Nat.le_refl _) _).setNew (p := ⟨w.heap.size, 1, none⟩) (Nat.le_refl _) _)).alloc _⟩); have HGb : Hid (w.heap.size ≠ b ∧ wa.heap.size ≠ b ∧ w.heap.size ≠ wa.heap.size) := (by have := hlt; have := hsz; have := C0l; exact ⟨by omega, by omega, by omega⟩); clear hX; obtain ⟨G1, HG1⟩ : ∃ G, Hid (G = w.heap.size) := ⟨_, rfl⟩; obtain ⟨G2, HG2⟩ : ∃ G, Hid (G = wa.heap.size) := ⟨_, rfl⟩; rw [← HG1.out, ← HG2.out] at HS HGb ⊢)
      | (obtain ⟨X, hX⟩ : ∃ X, X = ((((((wa.setCell ⟨w.heap.size, 0, none⟩ (.string (bs v'))).setCell ⟨w.heap.size, 1, none⟩ (.int .i64 n')).setCell ⟨w.heap.size + 1, 0, none⟩ (.int .i64 r.kd)).setCell ⟨w.heap.size + 1, 1, none⟩ (.string (bs r.v))).setCell ⟨w.heap.size + 1, 2, none⟩ (.int .i64 r.n)).setCell ⟨w.heap.size + 1, 3, none⟩ (.slice ko r.ks.length kc)) := ⟨_, rfl⟩; rw [← hX]; have HS : Hid (X.heap[w.heap.size]? = some (.cells #[.string (bs v'), .int .i64 n'] 129 (0, 0)) ∧ X.heap[w.heap.size + 1]? = some (.cells #[.int .i64 r.kd, .string (bs r.v), .int .i64 r.n, .slice ko r.ks.length kc] 50 (0, 0)) ∧ Kept Nil w X) := (by rw [hX]; exact ⟨coth4 (cput2 C0.out) (Nat.ne_of_lt (Nat.lt_succ_self _)) _ _ _ _, cput4 (coth2 R1.out (Nat.ne_of_gt (Nat.lt_succ_self _)) _ _), ((((((Ka.out.setNew (p := ⟨w.heap.size, 0, none⟩) (Nat.le_refl _) _).setNew (p := ⟨w.heap.size, 1, none⟩) (Nat.le_refl _) _).setNew (p := ⟨w.heap.size + 1, 0, none⟩) (Nat.le_succ _) _).setNew (p := ⟨w.heap.size + 1, 1, none⟩) (Nat.le_succ _) _).setNew (p := ⟨w.heap.size + 1, 2, none⟩) (Nat.le_succ _) _).setNew (p := ⟨w.heap.size + 1, 3, none⟩) (Nat.le_succ _) _)⟩); have HGb : Hid (w.heap.size ≠ b ∧ w.heap.size + 1 ≠ b ∧ w.heap.size ≠ w.heap.size + 1) := (by have := hlt; have := hsz; exact ⟨by omega, by omega, by omega⟩); clear hX; obtain ⟨G1, HG1⟩ : ∃ G, Hid (G = w.heap.size) := ⟨_, rfl⟩; obtain ⟨G2, HG2⟩ : ∃ G, Hid (G = w.heap.size + 1) := ⟨_, rfl⟩; rw [← HG2.out, ← HG1.out] at HS HGb ⊢)
      | (obtain ⟨X, hX⟩ : ∃ X, X = ((((wa.setCell ⟨w.heap.size, 0, none⟩ (.int .i64 r.kd)).setCell ⟨w.heap.size, 1, none⟩ (.string (bs r.v))).setCell ⟨w.heap.size, 2, none⟩ (.int .i64 r.n)).setCell ⟨w.heap.size, 3, none⟩ (.slice ko r.ks.length kc)).alloc (.cells #[.string (bs v'), .int .i64 n'] 129) := ⟨_, rfl⟩; rw [← hX]; have HS : Hid (X.heap[wa.heap.size]? = some (.cells #[.string (bs v'), .int .i64 n'] 129 (0, 0)) ∧ X.heap[w.heap.size]? = some (.cells #[.int .i64 r.kd, .string (bs r.v), .int .i64 r.n, .slice ko r.ks.length kc] 50 (0, 0)) ∧ Kept Nil w X) := (by rw [hX]; exact ⟨(by have h9 := blk_new ((((wa.setCell ⟨w.heap.size, 0, none⟩ (.int .i64 r.kd)).setCell ⟨w.heap.size, 1, none⟩ (.string (bs r.v))).setCell ⟨w.heap.size, 2, none⟩ (.int .i64 r.n)).setCell ⟨w.heap.size, 3, none⟩ (.slice ko r.ks.length kc)) (.cells #[.string (bs v'), .int .i64 n'] 129); simpa using h9), blk_past (cput4 R0.out) _, (((((Ka.out.setNew (p := ⟨w.heap.size, 0, none⟩) (Nat.le_refl _) _).setNew (p := ⟨w.heap.size, 1, none⟩) (Nat.le_refl _) _).setNew (p := ⟨w.heap.size, 2, none⟩) (Nat.le_refl _) _).setNew (p := ⟨w.heap.size, 3, none⟩) (Nat.le_refl _) _)).alloc _⟩); have HGb : Hid (wa.heap.size ≠ b ∧ w.heap.size ≠ b ∧ wa.heap.size ≠ w.heap.size) := (by have := hlt; have := hsz; have := R0l; exact ⟨by omega, by omega, by omega⟩); clear hX; obtain ⟨G1, HG1⟩ : ∃ G, Hid (G = wa.heap.size) := ⟨_, rfl⟩; obtain ⟨G2, HG2⟩ : ∃ G, Hid (G = w.heap.size) := ⟨_, rfl⟩; rw [← HG1.out, ← HG2.out] at HS HGb ⊢)
      | (obtain ⟨X, hX⟩ : ∃ X, X = ((((((wa.setCell ⟨w.heap.size + 1, 0, none⟩ (.string (bs v'))).setCell ⟨w.heap.size + 1, 1, none⟩ (.int .i64 n')).setCell ⟨w.heap.size, 0, none⟩ (.int .i64 r.kd)).setCell ⟨w.heap.size, 1, none⟩ (.string (bs r.v))).setCell ⟨w.heap.size, 2, none⟩ (.int .i64 r.n)).setCell ⟨w.heap.size, 3, none⟩ (.slice ko r.ks.length kc)) := ⟨_, rfl⟩; rw [← hX]; have HS : Hid (X.heap[w.heap.size + 1]? = some (.cells #[.string (bs v'), .int .i64 n'] 129 (0, 0)) ∧ X.heap[w.heap.size]? = some (.cells #[.int .i64 r.kd, .string (bs r.v), .int .i64 r.n, .slice ko r.ks.length kc] 50 (0, 0)) ∧ Kept Nil w X) := (by rw [hX]; exact ⟨coth4 (cput2 C1.out) (Nat.ne_of_gt (Nat.lt_succ_self _)) _ _ _ _, cput4 (coth2 R0.out (Nat.ne_of_lt (Nat.lt_succ_self _)) _ _), ((((((Ka.out.setNew (p := ⟨w.heap.size + 1, 0, none⟩) (Nat.le_succ _) _).setNew (p := ⟨w.heap.size + 1, 1, none⟩) (Nat.le_succ _) _).setNew (p := ⟨w.heap.size, 0, none⟩) (Nat.le_refl _) _).setNew (p := ⟨w.heap.size, 1, none⟩) (Nat.le_refl _) _).setNew (p := ⟨w.heap.size, 2, none⟩) (Nat.le_refl _) _).setNew (p := ⟨w.heap.size, 3, none⟩) (Nat.le_refl _) _)⟩); have HGb : Hid (w.heap.size + 1 ≠ b ∧ w.heap.size ≠ b ∧ w.heap.size + 1 ≠ w.heap.size) := (by have := hlt; have := hsz; exact ⟨by omega, by omega, by omega⟩); clear hX; obtain ⟨G1, HG1⟩ : ∃ G, Hid (G = w.heap.size + 1) := ⟨_, rfl⟩; obtain ⟨G2, HG2⟩ : ∃ G, Hid (G = w.heap.size) := ⟨_, rfl⟩; rw [← HG1.out, ← HG2.out] at HS HGb ⊢)
    have HJX : Hid (JbAt X b j K) := HJ.out.kept HS.out.2.2
    have h1b : G1 ≠ b := HGb.out.1
    have h2b : G2 ≠ b := HGb.out.2.1
    have h12 : G1 ≠ G2 := HGb.out.2.2
    have hb1 : b ≠ G1 := fun e => h1b e.symm
    have hb2 : b ≠ G2 := fun e => h2b e.symm
    have h21 : G2 ≠ G1 := fun e => h12 e.symm
    have g0 : X.cell? ⟨G1, 0, none⟩ = some (.string (bs v')) := blk_at HS.out.1 0 rfl
    have g1 : X.cell? ⟨G1, 1, none⟩ = some (.int .i64 n') := blk_at HS.out.1 1 rfl
    have FT := fits_any v' n' X HVL.out
    unfold ctV at FT
    go_wp2_with fail
    go_fit FT
    rintro _ X1 ⟨rfl, kx⟩
    have KX : Hid (Kept Nil w X1) := HS.out.2.2.trans kx
    have HJ1 : Hid (JbAt X1 b j K) := HJX.out.kept kx
    have H1 : Hid (X1.heap[G1]? = some (.cells #[.string (bs v'), .int .i64 n'] 129 (0, 0))) := kx.block _ _ HS.out.1 (fun x => x)
    have H2 : Hid (X1.heap[G2]? = some (.cells #[.int .i64 r.kd, .string (bs r.v), .int .i64 r.n, .slice ko r.ks.length kc] 50 (0, 0))) := kx.block _ _ HS.out.2.1 (fun x => x)
    clear kx FT g0 g1
    have l1 : G1 < X1.heap.size := lt_of_block H1.out
    have l2 : G2 < X1.heap.size := lt_of_block H2.out
    have l3 : b < X1.heap.size := lt_of_block HJ1.out
    have g0 : X1.cell? ⟨G1, 0, none⟩ = some (.string (bs v')) := blk_at H1.out 0 rfl
    have g1 : X1.cell? ⟨G1, 1, none⟩ = some (.int .i64 n') := blk_at H1.out 1 rfl
    have r0 : X1.cell? ⟨G2, 0, none⟩ = some (.int .i64 r.kd) := blk_at H2.out 0 rfl
    have r1 : X1.cell? ⟨G2, 1, none⟩ = some (.string (bs r.v)) := blk_at H2.out 1 rfl
    have r2 : X1.cell? ⟨G2, 2, none⟩ = some (.int .i64 r.n) := blk_at H2.out 2 rfl
    have r3 : X1.cell? ⟨G2, 3, none⟩ = some (.slice ko r.ks.length kc) := blk_at H2.out 3 rfl
    by_cases cf : v'.length ≤ 32 ∧ n' ≤ 999999
    · have ef : fitB v' n' = true := by unfold fitB; rw [decide_eq_true cf.1, decide_eq_true cf.2]; rfl
      rw [ef]
      by_cases ce : v' = j.sn.v ∧ n' = j.sn.n
      · have hu : u = j.fin r := by rw [Hu.out]; unfold Jb.apply; rw [← Hv.out, ← Hn.out, ← Hr.out, if_neg (by simp only [Decidable.not_not]; exact cf), if_pos ce]
        have EN := end_any X1.drew b j K HJ1.out.drew r ko kc HKN.out
        rw [← hu] at EN
        unfold rrV at EN
        obtain ⟨e1, e2⟩ := ce
        rw [e1] at g0
        rw [e2] at g1
        clear hu cf ef e1 e2
        have q12 : X1.cell? ⟨b, 12, none⟩ = some (.string (bs j.sn.v)) := blk_at HJ1.out 12 rfl
        have q13 : X1.cell? ⟨b, 13, none⟩ = some (.int .i64 j.sn.n) := blk_at HJ1.out 13 rfl

        go_wp2
        go_region
        all_goals
          go_wp2_with fail
          go_fit EN
          rintro _ w1 ⟨rfl, h1, k1⟩
          have HY : Hid ((∃ K, JbAt w1 b u K) ∧ Kept (One b) w w1) := ⟨h1, ((kept_oneN KX.out).drew).trans k1⟩
          clear h1 k1
          go_wp2
          go_end0
          exact ⟨rfl, HY.out⟩
      · have HU2 : Hid (u = { j with nx := ⟨v', n', 0, j.sn.h, 0⟩, re := r, ph := 1 }) := by show _ = _; rw [Hu.out]; unfold Jb.apply; rw [← Hv.out, ← Hn.out, ← Hr.out, if_neg (by simp only [Decidable.not_not]; exact cf), if_neg ce]
        have hne : (bs v').toList = (bs j.sn.v).toList ∧ ¬ n' = j.sn.n ∨ ¬ (bs v').toList = (bs j.sn.v).toList := by
          rw [bs_toList, bs_toList]
          by_cases e : v' = j.sn.v
          · exact .inl ⟨e, fun e2 => ce ⟨e, e2⟩⟩
          · exact .inr e
        clear ce cf ef
        have q12 : X1.cell? ⟨b, 12, none⟩ = some (.string (bs j.sn.v)) := blk_at HJ1.out 12 rfl
        have q13 : X1.cell? ⟨b, 13, none⟩ = some (.int .i64 j.sn.n) := blk_at HJ1.out 13 rfl
        have q15 : X1.cell? ⟨b, 15, none⟩ = some (.int .i64 j.sn.h) := blk_at HJ1.out 15 rfl
        have q11 : X1.cell? ⟨b, 11, none⟩ = some (.int .i64 j.ph) := blk_at HJ1.out 11 rfl
        have q18 : X1.cell? ⟨b, 18, none⟩ = some (.string (bs j.nx.v)) := blk_at HJ1.out 18 rfl
        have q19 : X1.cell? ⟨b, 19, none⟩ = some (.int .i64 j.nx.n) := blk_at HJ1.out 19 rfl
        have q20 : X1.cell? ⟨b, 20, none⟩ = some (.int .i64 j.nx.s) := blk_at HJ1.out 20 rfl
        have q21 : X1.cell? ⟨b, 21, none⟩ = some (.int .i64 j.nx.h) := blk_at HJ1.out 21 rfl
        have q22 : X1.cell? ⟨b, 22, none⟩ = some (.int .i64 j.nx.g) := blk_at HJ1.out 22 rfl
        have q23 : X1.cell? ⟨b, 23, none⟩ = some (.int .i64 j.re.kd) := blk_at HJ1.out 23 rfl
        have q24 : X1.cell? ⟨b, 24, none⟩ = some (.string (bs j.re.v)) := blk_at HJ1.out 24 rfl
        have q25 : X1.cell? ⟨b, 25, none⟩ = some (.int .i64 j.re.n) := blk_at HJ1.out 25 rfl
        have q26 : X1.cell? ⟨b, 26, none⟩ = some (.slice K.eo j.re.ks.length K.ec) := blk_at HJ1.out 26 rfl
        have f18 : X1.frozen? ⟨b, 18, none⟩ = false := blk_free HJ1.out 18
        have f19 : X1.frozen? ⟨b, 19, none⟩ = false := blk_free HJ1.out 19
        have f20 : X1.frozen? ⟨b, 20, none⟩ = false := blk_free HJ1.out 20
        have f21 : X1.frozen? ⟨b, 21, none⟩ = false := blk_free HJ1.out 21
        have f22 : X1.frozen? ⟨b, 22, none⟩ = false := blk_free HJ1.out 22
        have f23 : X1.frozen? ⟨b, 23, none⟩ = false := blk_free HJ1.out 23
        have f24 : X1.frozen? ⟨b, 24, none⟩ = false := blk_free HJ1.out 24
        have f25 : X1.frozen? ⟨b, 25, none⟩ = false := blk_free HJ1.out 25
        have f26 : X1.frozen? ⟨b, 26, none⟩ = false := blk_free HJ1.out 26

        obtain ⟨Y, hY⟩ : ∃ Y, Y = (((((((((X1.setCell ⟨b, 18, none⟩ (.string (bs v'))).setCell ⟨b, 19, none⟩ (.int .i64 n')).setCell ⟨b, 20, none⟩ (.int .i64 0)).setCell ⟨b, 21, none⟩ (.int .i64 j.sn.h)).setCell ⟨b, 22, none⟩ (.int .i64 0)).setCell ⟨b, 23, none⟩ (.int .i64 r.kd)).setCell ⟨b, 24, none⟩ (.string (bs r.v))).setCell ⟨b, 25, none⟩ (.int .i64 r.n)).setCell ⟨b, 26, none⟩ (.slice ko r.ks.length kc)).drew.drew := ⟨_, rfl⟩
        have HJY : Hid (∃ K, JbAt Y b { j with nx := ⟨v', n', 0, j.sn.h, 0⟩, re := r } K) := by rw [hY]; exact ⟨_, (((HJ1.out.nx5 ⟨v', n', 0, j.sn.h, 0⟩).re4 r ko kc HKN.out).drew).drew⟩
        have KY : Hid (Kept (One b) w Y) := by rw [hY]; exact ((((((((((kept_oneN KX.out).setCell (p := ⟨b, 18, none⟩) (fun _ => rfl) _).setCell (p := ⟨b, 19, none⟩) (fun _ => rfl) _).setCell (p := ⟨b, 20, none⟩) (fun _ => rfl) _).setCell (p := ⟨b, 21, none⟩) (fun _ => rfl) _).setCell (p := ⟨b, 22, none⟩) (fun _ => rfl) _).setCell (p := ⟨b, 23, none⟩) (fun _ => rfl) _).setCell (p := ⟨b, 24, none⟩) (fun _ => rfl) _).setCell (p := ⟨b, 25, none⟩) (fun _ => rfl) _).setCell (p := ⟨b, 26, none⟩) (fun _ => rfl) _).drew.drew
        rcases hne with ⟨hn1, hn2⟩ | hn1
        all_goals
          go_wp2
          go_region
          all_goals
            go_upto_region 1 with fail
            go_region
            all_goals
              go_upto_region 2 with fail
              rw [← hY]
              clear hY
              obtain ⟨K2, hK2⟩ := HJY.out
              have q11' : Y.cell? ⟨b, 11, none⟩ = some (.int .i64 j.ph) := blk_at hK2 11 rfl
              have f11' : Y.frozen? ⟨b, 11, none⟩ = false := blk_free hK2 11
              obtain ⟨Z, hZ⟩ : ∃ Z, Z = Y.setCell ⟨b, 11, none⟩ (.int .i64 1) := ⟨_, rfl⟩
              have HZ : Hid ((∃ K, JbAt Z b u K) ∧ Kept (One b) w Z) := by
                rw [hZ, HU2.out]
                exact ⟨⟨_, hK2.s11 1⟩, (KY.out.setCell (p := ⟨b, 11, none⟩) (fun _ => rfl) _)⟩
              clear hK2
              go_wp2
              rw [← hZ]
              go_end0
              exact ⟨rfl, HZ.out⟩
    · have ef : fitB v' n' = false := by
        unfold fitB
        rw [Bool.and_eq_false_iff]
        by_cases e : v'.length ≤ 32
        · exact .inr (decide_eq_false (fun e2 => cf ⟨e, e2⟩))
        · exact .inl (decide_eq_false e)
      rw [ef]
      have hu : u = j.finK 4 := by rw [Hu.out]; unfold Jb.apply; rw [← Hv.out, ← Hn.out, if_pos cf]
      have EN := endWith_any X1 b j K HJ1.out 4
      rw [← hu] at EN
      clear hu cf ef
      go_wp2_with fail
      go_fit EN
      rintro _ w1 ⟨rfl, h1, k1⟩
      have HY : Hid ((∃ K, JbAt w1 b u K) ∧ Kept (One b) w w1) := ⟨h1, (kept_oneN KX.out).trans k1⟩
      clear h1 k1
      go_wp2
      go_end0
      exact ⟨rfl, HY.out⟩
end Go.Proofs.YtflnjlbafchnaaaGreatDoor
