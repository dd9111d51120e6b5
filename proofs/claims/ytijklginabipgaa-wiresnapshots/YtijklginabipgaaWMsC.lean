/-
  The program's read at a message: the catch.
-/
import Derived.Test.YtijklginabipgaaWMs0
import Derived.Test.YtijklginabipgaaWOld
namespace Go.Proofs.Ytijklginabipgaa
open Go.RowKit

theorem blk_drewM {w : World} {b : Nat} {o : Obj} (h : w.heap[b]? = some o) : w.drew.heap[b]? = some o := h
theorem setsM {w : World} {A : Nat} {t : TypeId} {x0 x1 x2 x3 x4 x5 x6 x7 x8 x9 x10 x11 x12 x13 x14 x15 x16 : Value} (hA : w.heap[A]? = some (.cells #[x0, x1, x2, x3, x4, x5, x6, x7, x8, x9, x10, x11, x12, x13, x14, x15, x16] t (0, 0))) (v0 v1 v2 v3 v4 v5 v6 v7 v8 v9 v10 v11 v12 v13 v14 v15 v16 : Value) :
    (((((((((((((((((w.setCell ⟨A, 0, none⟩ v0).setCell ⟨A, 1, none⟩ v1).setCell ⟨A, 2, none⟩ v2).setCell ⟨A, 3, none⟩ v3).setCell ⟨A, 4, none⟩ v4).setCell ⟨A, 5, none⟩ v5).setCell ⟨A, 6, none⟩ v6).setCell ⟨A, 7, none⟩ v7).setCell ⟨A, 8, none⟩ v8).setCell ⟨A, 9, none⟩ v9).setCell ⟨A, 10, none⟩ v10).setCell ⟨A, 11, none⟩ v11).setCell ⟨A, 12, none⟩ v12).setCell ⟨A, 13, none⟩ v13).setCell ⟨A, 14, none⟩ v14).setCell ⟨A, 15, none⟩ v15).setCell ⟨A, 16, none⟩ v16).heap[A]? = some (.cells #[v0, v1, v2, v3, v4, v5, v6, v7, v8, v9, v10, v11, v12, v13, v14, v15, v16] t (0, 0)) := by
  have s0 : (w.setCell ⟨A, 0, none⟩ v0).heap[A]? = some (.cells #[v0, x1, x2, x3, x4, x5, x6, x7, x8, x9, x10, x11, x12, x13, x14, x15, x16] t (0, 0)) := blk_set hA 0 v0
  have s1 : ((w.setCell ⟨A, 0, none⟩ v0).setCell ⟨A, 1, none⟩ v1).heap[A]? = some (.cells #[v0, v1, x2, x3, x4, x5, x6, x7, x8, x9, x10, x11, x12, x13, x14, x15, x16] t (0, 0)) := blk_set s0 1 v1
  have s2 : (((w.setCell ⟨A, 0, none⟩ v0).setCell ⟨A, 1, none⟩ v1).setCell ⟨A, 2, none⟩ v2).heap[A]? = some (.cells #[v0, v1, v2, x3, x4, x5, x6, x7, x8, x9, x10, x11, x12, x13, x14, x15, x16] t (0, 0)) := blk_set s1 2 v2
  have s3 : ((((w.setCell ⟨A, 0, none⟩ v0).setCell ⟨A, 1, none⟩ v1).setCell ⟨A, 2, none⟩ v2).setCell ⟨A, 3, none⟩ v3).heap[A]? = some (.cells #[v0, v1, v2, v3, x4, x5, x6, x7, x8, x9, x10, x11, x12, x13, x14, x15, x16] t (0, 0)) := blk_set s2 3 v3
  have s4 : (((((w.setCell ⟨A, 0, none⟩ v0).setCell ⟨A, 1, none⟩ v1).setCell ⟨A, 2, none⟩ v2).setCell ⟨A, 3, none⟩ v3).setCell ⟨A, 4, none⟩ v4).heap[A]? = some (.cells #[v0, v1, v2, v3, v4, x5, x6, x7, x8, x9, x10, x11, x12, x13, x14, x15, x16] t (0, 0)) := blk_set s3 4 v4
  have s5 : ((((((w.setCell ⟨A, 0, none⟩ v0).setCell ⟨A, 1, none⟩ v1).setCell ⟨A, 2, none⟩ v2).setCell ⟨A, 3, none⟩ v3).setCell ⟨A, 4, none⟩ v4).setCell ⟨A, 5, none⟩ v5).heap[A]? = some (.cells #[v0, v1, v2, v3, v4, v5, x6, x7, x8, x9, x10, x11, x12, x13, x14, x15, x16] t (0, 0)) := blk_set s4 5 v5
  have s6 : (((((((w.setCell ⟨A, 0, none⟩ v0).setCell ⟨A, 1, none⟩ v1).setCell ⟨A, 2, none⟩ v2).setCell ⟨A, 3, none⟩ v3).setCell ⟨A, 4, none⟩ v4).setCell ⟨A, 5, none⟩ v5).setCell ⟨A, 6, none⟩ v6).heap[A]? = some (.cells #[v0, v1, v2, v3, v4, v5, v6, x7, x8, x9, x10, x11, x12, x13, x14, x15, x16] t (0, 0)) := blk_set s5 6 v6
  have s7 : ((((((((w.setCell ⟨A, 0, none⟩ v0).setCell ⟨A, 1, none⟩ v1).setCell ⟨A, 2, none⟩ v2).setCell ⟨A, 3, none⟩ v3).setCell ⟨A, 4, none⟩ v4).setCell ⟨A, 5, none⟩ v5).setCell ⟨A, 6, none⟩ v6).setCell ⟨A, 7, none⟩ v7).heap[A]? = some (.cells #[v0, v1, v2, v3, v4, v5, v6, v7, x8, x9, x10, x11, x12, x13, x14, x15, x16] t (0, 0)) := blk_set s6 7 v7
  have s8 : (((((((((w.setCell ⟨A, 0, none⟩ v0).setCell ⟨A, 1, none⟩ v1).setCell ⟨A, 2, none⟩ v2).setCell ⟨A, 3, none⟩ v3).setCell ⟨A, 4, none⟩ v4).setCell ⟨A, 5, none⟩ v5).setCell ⟨A, 6, none⟩ v6).setCell ⟨A, 7, none⟩ v7).setCell ⟨A, 8, none⟩ v8).heap[A]? = some (.cells #[v0, v1, v2, v3, v4, v5, v6, v7, v8, x9, x10, x11, x12, x13, x14, x15, x16] t (0, 0)) := blk_set s7 8 v8
  have s9 : ((((((((((w.setCell ⟨A, 0, none⟩ v0).setCell ⟨A, 1, none⟩ v1).setCell ⟨A, 2, none⟩ v2).setCell ⟨A, 3, none⟩ v3).setCell ⟨A, 4, none⟩ v4).setCell ⟨A, 5, none⟩ v5).setCell ⟨A, 6, none⟩ v6).setCell ⟨A, 7, none⟩ v7).setCell ⟨A, 8, none⟩ v8).setCell ⟨A, 9, none⟩ v9).heap[A]? = some (.cells #[v0, v1, v2, v3, v4, v5, v6, v7, v8, v9, x10, x11, x12, x13, x14, x15, x16] t (0, 0)) := blk_set s8 9 v9
  have s10 : (((((((((((w.setCell ⟨A, 0, none⟩ v0).setCell ⟨A, 1, none⟩ v1).setCell ⟨A, 2, none⟩ v2).setCell ⟨A, 3, none⟩ v3).setCell ⟨A, 4, none⟩ v4).setCell ⟨A, 5, none⟩ v5).setCell ⟨A, 6, none⟩ v6).setCell ⟨A, 7, none⟩ v7).setCell ⟨A, 8, none⟩ v8).setCell ⟨A, 9, none⟩ v9).setCell ⟨A, 10, none⟩ v10).heap[A]? = some (.cells #[v0, v1, v2, v3, v4, v5, v6, v7, v8, v9, v10, x11, x12, x13, x14, x15, x16] t (0, 0)) := blk_set s9 10 v10
  have s11 : ((((((((((((w.setCell ⟨A, 0, none⟩ v0).setCell ⟨A, 1, none⟩ v1).setCell ⟨A, 2, none⟩ v2).setCell ⟨A, 3, none⟩ v3).setCell ⟨A, 4, none⟩ v4).setCell ⟨A, 5, none⟩ v5).setCell ⟨A, 6, none⟩ v6).setCell ⟨A, 7, none⟩ v7).setCell ⟨A, 8, none⟩ v8).setCell ⟨A, 9, none⟩ v9).setCell ⟨A, 10, none⟩ v10).setCell ⟨A, 11, none⟩ v11).heap[A]? = some (.cells #[v0, v1, v2, v3, v4, v5, v6, v7, v8, v9, v10, v11, x12, x13, x14, x15, x16] t (0, 0)) := blk_set s10 11 v11
  have s12 : (((((((((((((w.setCell ⟨A, 0, none⟩ v0).setCell ⟨A, 1, none⟩ v1).setCell ⟨A, 2, none⟩ v2).setCell ⟨A, 3, none⟩ v3).setCell ⟨A, 4, none⟩ v4).setCell ⟨A, 5, none⟩ v5).setCell ⟨A, 6, none⟩ v6).setCell ⟨A, 7, none⟩ v7).setCell ⟨A, 8, none⟩ v8).setCell ⟨A, 9, none⟩ v9).setCell ⟨A, 10, none⟩ v10).setCell ⟨A, 11, none⟩ v11).setCell ⟨A, 12, none⟩ v12).heap[A]? = some (.cells #[v0, v1, v2, v3, v4, v5, v6, v7, v8, v9, v10, v11, v12, x13, x14, x15, x16] t (0, 0)) := blk_set s11 12 v12
  have s13 : ((((((((((((((w.setCell ⟨A, 0, none⟩ v0).setCell ⟨A, 1, none⟩ v1).setCell ⟨A, 2, none⟩ v2).setCell ⟨A, 3, none⟩ v3).setCell ⟨A, 4, none⟩ v4).setCell ⟨A, 5, none⟩ v5).setCell ⟨A, 6, none⟩ v6).setCell ⟨A, 7, none⟩ v7).setCell ⟨A, 8, none⟩ v8).setCell ⟨A, 9, none⟩ v9).setCell ⟨A, 10, none⟩ v10).setCell ⟨A, 11, none⟩ v11).setCell ⟨A, 12, none⟩ v12).setCell ⟨A, 13, none⟩ v13).heap[A]? = some (.cells #[v0, v1, v2, v3, v4, v5, v6, v7, v8, v9, v10, v11, v12, v13, x14, x15, x16] t (0, 0)) := blk_set s12 13 v13
  have s14 : (((((((((((((((w.setCell ⟨A, 0, none⟩ v0).setCell ⟨A, 1, none⟩ v1).setCell ⟨A, 2, none⟩ v2).setCell ⟨A, 3, none⟩ v3).setCell ⟨A, 4, none⟩ v4).setCell ⟨A, 5, none⟩ v5).setCell ⟨A, 6, none⟩ v6).setCell ⟨A, 7, none⟩ v7).setCell ⟨A, 8, none⟩ v8).setCell ⟨A, 9, none⟩ v9).setCell ⟨A, 10, none⟩ v10).setCell ⟨A, 11, none⟩ v11).setCell ⟨A, 12, none⟩ v12).setCell ⟨A, 13, none⟩ v13).setCell ⟨A, 14, none⟩ v14).heap[A]? = some (.cells #[v0, v1, v2, v3, v4, v5, v6, v7, v8, v9, v10, v11, v12, v13, v14, x15, x16] t (0, 0)) := blk_set s13 14 v14
  have s15 : ((((((((((((((((w.setCell ⟨A, 0, none⟩ v0).setCell ⟨A, 1, none⟩ v1).setCell ⟨A, 2, none⟩ v2).setCell ⟨A, 3, none⟩ v3).setCell ⟨A, 4, none⟩ v4).setCell ⟨A, 5, none⟩ v5).setCell ⟨A, 6, none⟩ v6).setCell ⟨A, 7, none⟩ v7).setCell ⟨A, 8, none⟩ v8).setCell ⟨A, 9, none⟩ v9).setCell ⟨A, 10, none⟩ v10).setCell ⟨A, 11, none⟩ v11).setCell ⟨A, 12, none⟩ v12).setCell ⟨A, 13, none⟩ v13).setCell ⟨A, 14, none⟩ v14).setCell ⟨A, 15, none⟩ v15).heap[A]? = some (.cells #[v0, v1, v2, v3, v4, v5, v6, v7, v8, v9, v10, v11, v12, v13, v14, v15, x16] t (0, 0)) := blk_set s14 15 v15
  have s16 : (((((((((((((((((w.setCell ⟨A, 0, none⟩ v0).setCell ⟨A, 1, none⟩ v1).setCell ⟨A, 2, none⟩ v2).setCell ⟨A, 3, none⟩ v3).setCell ⟨A, 4, none⟩ v4).setCell ⟨A, 5, none⟩ v5).setCell ⟨A, 6, none⟩ v6).setCell ⟨A, 7, none⟩ v7).setCell ⟨A, 8, none⟩ v8).setCell ⟨A, 9, none⟩ v9).setCell ⟨A, 10, none⟩ v10).setCell ⟨A, 11, none⟩ v11).setCell ⟨A, 12, none⟩ v12).setCell ⟨A, 13, none⟩ v13).setCell ⟨A, 14, none⟩ v14).setCell ⟨A, 15, none⟩ v15).setCell ⟨A, 16, none⟩ v16).heap[A]? = some (.cells #[v0, v1, v2, v3, v4, v5, v6, v7, v8, v9, v10, v11, v12, v13, v14, v15, v16] t (0, 0)) := blk_set s15 16 v16
  exact s16
set_option maxRecDepth 100000 in
set_option maxHeartbeats 4000000 in
theorem catchM_panic (A E : Nat) (c : Int) (x0 x1 x2 x3 x4 x5 x6 x7 x8 x9 x10 x11 x12 x13 x14 x15 x16 z : Value) (w : World) (hA : w.heap[A]? = some (.cells #[x0, x1, x2, x3, x4, x5, x6, x7, x8, x9, x10, x11, x12, x13, x14, x15, x16] 85 (0, 0))) (hE : w.heap[E]? = some (.cells #[z] 28 (0, 0))) (hne : A ≠ E) :
    CallsD Try.prog 180 #[.pointer (some ⟨A, 0, none⟩), .pointer (some ⟨E, 0, none⟩)] (.panicking (up c)) w fun e u' w' =>
      e = .returned (.tuple #[]) ∧ u' = .panicking [{ v := .iface 187 (.agg #[.int .i64 c]), recovered := true }] ∧
      w'.heap[A]? = some (.cells #[.int .i64 0, .int .i64 0, .int .i64 0, .int .i64 0, .int .i64 0, .int .i64 0, .int .i64 0, .slice none 0 0, .int .i64 0, .int .i64 0, .slice none 0 0, .slice none 0 0, .slice none 0 0, .string (bs []), .bool false, .int .i64 0, .int .i64 0] 85 (0, 0)) ∧ w'.heap[E]? = some (.cells #[.int .i64 c] 28 (0, 0)) ∧ Kept (fun k _ => k = A ∨ k = E) w w' := by
  have a0 := blk_at hA 0 rfl
  have a1 := blk_at hA 1 rfl
  have a2 := blk_at hA 2 rfl
  have a3 := blk_at hA 3 rfl
  have a4 := blk_at hA 4 rfl
  have a5 := blk_at hA 5 rfl
  have a6 := blk_at hA 6 rfl
  have a7 := blk_at hA 7 rfl
  have a8 := blk_at hA 8 rfl
  have a9 := blk_at hA 9 rfl
  have a10 := blk_at hA 10 rfl
  have a11 := blk_at hA 11 rfl
  have a12 := blk_at hA 12 rfl
  have a13 := blk_at hA 13 rfl
  have a14 := blk_at hA 14 rfl
  have a15 := blk_at hA 15 rfl
  have a16 := blk_at hA 16 rfl
  have e0 := blk_at hE 0 rfl
  have fa0 := blk_free hA 0
  have fa1 := blk_free hA 1
  have fa2 := blk_free hA 2
  have fa3 := blk_free hA 3
  have fa4 := blk_free hA 4
  have fa5 := blk_free hA 5
  have fa6 := blk_free hA 6
  have fa7 := blk_free hA 7
  have fa8 := blk_free hA 8
  have fa9 := blk_free hA 9
  have fa10 := blk_free hA 10
  have fa11 := blk_free hA 11
  have fa12 := blk_free hA 12
  have fa13 := blk_free hA 13
  have fa14 := blk_free hA 14
  have fa15 := blk_free hA 15
  have fa16 := blk_free hA 16
  have fe0 := blk_free hE 0
  refine callsD_of_wpS Try.func180 rfl fun c₀ cs hu => ?_
  unfold up at hu
  apply wpS_seq
  apply wpS_region
  simp [wpOpsS, go_sem, recoverD, hu, Try.ntmps180, Exit.thenS]
  refine wpS_of_wp ?_
  rw [catch_slots]
  clear hu
  have hta := assert_up
  have hAl := lt_of_block hA
  have hEl := lt_of_block hE
  go_wp2
  go_region
  refine ⟨rfl, _, rfl, .tuple #[], by simp [results, Try.results180], rfl, rfl, ?_⟩
  refine ⟨?_, ?_, ?_⟩
  · exact blk_drewM (blk_past (blk_past (blk_other (setsM hA _ _ _ _ _ _ _ _ _ _ _ _ _ _ _ _ _) hne _) _) _)
  · exact blk_drewM (blk_past (blk_past (blk_set (blk_other (blk_other (blk_other (blk_other (blk_other (blk_other (blk_other (blk_other (blk_other (blk_other (blk_other (blk_other (blk_other (blk_other (blk_other (blk_other (blk_other (hE) hne.symm _) hne.symm _) hne.symm _) hne.symm _) hne.symm _) hne.symm _) hne.symm _) hne.symm _) hne.symm _) hne.symm _) hne.symm _) hne.symm _) hne.symm _) hne.symm _) hne.symm _) hne.symm _) hne.symm _) 0 _) _) _)
  · exact Kept.drew (Kept.alloc (Kept.alloc (((((((((((((((((((Kept.refl _ _).setCell (fun _ => .inl rfl) _).setCell (fun _ => .inl rfl) _).setCell (fun _ => .inl rfl) _).setCell (fun _ => .inl rfl) _).setCell (fun _ => .inl rfl) _).setCell (fun _ => .inl rfl) _).setCell (fun _ => .inl rfl) _).setCell (fun _ => .inl rfl) _).setCell (fun _ => .inl rfl) _).setCell (fun _ => .inl rfl) _).setCell (fun _ => .inl rfl) _).setCell (fun _ => .inl rfl) _).setCell (fun _ => .inl rfl) _).setCell (fun _ => .inl rfl) _).setCell (fun _ => .inl rfl) _).setCell (fun _ => .inl rfl) _).setCell (fun _ => .inl rfl) _).setCell (fun _ => .inr rfl) _) _) _)

set_option maxRecDepth 100000 in
set_option maxHeartbeats 600000 in
theorem catchM_idle (A E : Addr) (w : World) :
    CallsD Try.prog 180 #[.pointer (some A), .pointer (some E)] .returning w fun e u' w' => e = .returned (.tuple #[]) ∧ u' = .returning ∧ w' = w := by
  refine callsD_of_wpS Try.func180 rfl fun c₀ cs hu => ?_
  apply wpS_seq
  apply wpS_region
  simp [wpOpsS, go_sem, recoverD, hu, Try.ntmps180, Exit.thenS]
  refine wpS_of_wp ?_
  rw [catch_slots]
  go_wp2
  refine ⟨rfl, .returning, ?_, .tuple #[], by simp [results, Try.results180], rfl, rfl, rfl⟩
  cases c₀
  simp_all

end Go.Proofs.Ytijklginabipgaa
