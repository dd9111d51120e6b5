/-
  A client: Answer.
-/
import Derived.Test.YtbfleeilpccmcaaWCl3
namespace Go.Proofs.Ytbfleeilpccmcaa
open Go.RowKit

def hears (c : Cl) (id : Int) : Bool := decide (c.st = 1) && decide (c.ol < id) && decide (id ≤ c.la)
def ansC (c : Cl) (n : Nat) (id er rk : Int) (rval : List UInt8) (rver : Int) (ks : List (List UInt8)) : Cl :=
  if hears c id then (if er = 0 then (if c.se = 0 then openC c rk rver else finC c rk rval rver ks) else (if id = c.la then (if c.wt then turnC c n else c) else c)) else c
/-- Is that a result? -/
def fins (c : Cl) (id er : Int) : Bool := hears c id && decide (er = 0) && decide (c.se ≠ 0)
set_option maxRecDepth 100000 in
set_option maxHeartbeats 2000000 in
theorem answer_any (b n cn kc : Nat) (c : Cl) (an ko : Option Addr) (G : Nat → Prop) (id er : Int) (rk rver : Int) (rval : List UInt8) (ks : List (List UInt8)) (ao : Option Addr) (cc : Nat) (w : World) (h : ClAt w b c an n cn ko kc) (hx : c.nx < n) (hn9 : n ≤ 9) (hu : 0 ≤ c.nu) (hu2 : c.nu ≤ 4611686018427387904) (hr : KIn G w ao cc ks) (hG : ¬ G b) :
    Calls Try.prog 15 #[.pointer (some ⟨b, 0, none⟩), .int .i64 id, .int .i64 er, .agg #[.int .i64 rk, .string (bs rval), .int .i64 rver, .slice ao ks.length cc]] w fun e w' => ∃ ao' c', e = .returned (.tuple #[]) ∧ ClAt w' b (ansC c n id er rk rval rver ks) an n cn ao' c' ∧ (fins c id er = true → OwnK w.heap.size w' ao' c' ks) ∧ (fins c id er = false → ao' = ko ∧ c' = kc) ∧ Kept (One b) w w' := by
  obtain ⟨W, hW⟩ : ∃ W, W = w.alloc (.cells #[.int .i64 rk, .string (bs rval), .int .i64 rver, .slice ao ks.length cc] 45) := ⟨_, rfl⟩
  obtain ⟨C, HCe⟩ : ∃ C, Hid (C = w.heap.size) := ⟨_, rfl⟩
  have HC : Hid (W.heap[C]? = some (.cells #[.int .i64 rk, .string (bs rval), .int .i64 rver, .slice ao ks.length cc] 45 (0, 0))) := by rw [hW, HCe.out]; exact blk_new _ _
  have HW : Hid (ClAt W b c an n cn ko kc) := by rw [hW]; exact h.past _
  have KW : Hid (Kept Nil w W) := by rw [hW]; exact (Kept.refl _ _).alloc _
  have hCn : w.heap.size ≤ C := by have := HCe.out; omega
  have hbC : b ≠ C := by have := lt_of_block h; have := HCe.out; omega
  have hCb : C ≠ b := fun e => hbC e.symm
  have c0 : W.cell? ⟨C, 0, none⟩ = some (.int .i64 rk) := blk_at HC.out 0 rfl
  have c1 : W.cell? ⟨C, 1, none⟩ = some (.string (bs rval)) := blk_at HC.out 1 rfl
  have c2 : W.cell? ⟨C, 2, none⟩ = some (.int .i64 rver) := blk_at HC.out 2 rfl
  have c3 : W.cell? ⟨C, 3, none⟩ = some (.slice ao ks.length cc) := blk_at HC.out 3 rfl
  have q3 : W.cell? ⟨b, 3, none⟩ = some (.int .i64 c.se) := blk_at HW.out 3 rfl
  have q5 : W.cell? ⟨b, 5, none⟩ = some (.bool c.wt) := blk_at HW.out 5 rfl
  have q7 : W.cell? ⟨b, 7, none⟩ = some (.int .i64 c.la) := blk_at HW.out 7 rfl
  have q8 : W.cell? ⟨b, 8, none⟩ = some (.int .i64 c.ol) := blk_at HW.out 8 rfl
  by_cases hs : c.st = 1
  · have q9 : W.cell? ⟨b, 9, none⟩ = some (.int .i64 1) := by rw [← hs]; exact blk_at HW.out 9 rfl
    by_cases h1 : c.ol < id
    · by_cases h2 : id ≤ c.la
      · have hh : hears c id = true := by simp [hears, hs, h1, h2]
        have h1' : ¬ id ≤ c.ol := by omega
        by_cases he : er = 0
        · subst he
          by_cases hz : c.se = 0
          · have HE : Hid (ansC c n id 0 rk rval rver ks = openC c rk rver) := by show _ = _; unfold ansC; rw [hh, if_pos rfl, if_pos rfl, if_pos hz]
            have HF : Hid (fins c id 0 = false) := by show _ = _; unfold fins; rw [hz]; simp
            rw [HE.out]
            have OP := open_any b n cn kc c an ko rk rver rval ks ao cc W HW.out
            have q3' : W.cell? ⟨b, 3, none⟩ = some (.int .i64 0) := by rw [q3, hz]
            clear q3
            clear h hr
            go_enter Try.func15, Try.ntmps15
            go_upto_region 2 with fail
            rw [← hW, ← HCe.out]
            clear hW
            go_wp2_with (go_at_call 32; go_fit OP; rintro _ w1 ⟨rfl, h9, k9⟩; have H9 : Hid (_ ∧ _) := ⟨h9, k9⟩; clear h9 k9)
            first | go_end0 | refine bodyPost_ret (results_none rfl _ _ _) rfl ?_
            exact ⟨ko, kc, rfl, H9.out.1, (fun e => by rw [HF.out] at e; cases e), (fun _ => ⟨rfl, rfl⟩), KW.out.one.trans H9.out.2⟩
          · have HE : Hid (ansC c n id 0 rk rval rver ks = finC c rk rval rver ks) := by show _ = _; unfold ansC; rw [hh, if_pos rfl, if_pos rfl, if_neg hz]
            have HF : Hid (fins c id 0 = true) := by show _ = _; unfold fins; rw [hh]; simp [hz]
            rw [HE.out]
            have FI := finish_any b n cn kc c an ko G rk rver rval ks ao cc W HW.out hu hu2 (hr.kept KW.out) hG
            have hz' : (c.se == 0) = false := by simpa using hz
            clear h hr
            go_enter Try.func15, Try.ntmps15
            go_upto_region 2 with fail
            rw [← hW, ← HCe.out]
            clear hW
            go_wp2_with (go_at_call 33; go_fit FI; rintro _ w1 ⟨ao', c', rfl, h9, o9, k9⟩; have H9 : Hid (_ ∧ _ ∧ _) := ⟨h9, o9, k9⟩; clear h9 o9 k9)
            first | go_end0 | refine bodyPost_ret (results_none rfl _ _ _) rfl ?_
            exact ⟨ao', c', rfl, H9.out.1, (fun _ => own_mono H9.out.2.1 KW.out.size), (fun e => by rw [HF.out] at e; cases e), KW.out.one.trans H9.out.2.2⟩
        · have HF : Hid (fins c id er = false) := by show _ = _; unfold fins; simp [he]
          have he' : (er != 0) = true := by simpa using he
          by_cases hi : id = c.la
          · cases ht : c.wt with
            | true =>
              have HE : Hid (ansC c n id er rk rval rver ks = turnC c n) := by show _ = _; unfold ansC; rw [hh, if_pos rfl, if_neg he, if_pos hi, if_pos ht]
              rw [HE.out]
              have TU := turn_any b n cn kc c an ko W HW.out hx hn9
              have hi' : (id == c.la) = true := by simpa using hi
              rw [ht] at q5
              clear h hr hi ht
              go_enter Try.func15, Try.ntmps15
              go_upto_region 2 with fail
              rw [← hW, ← HCe.out]
              clear hW
              go_wp2_with (go_at_call 31; go_fit TU; rintro _ w1 ⟨rfl, h9, k9⟩; have H9 : Hid (_ ∧ _) := ⟨h9, k9⟩; clear h9 k9)
              first | go_end0 | refine bodyPost_ret (results_none rfl _ _ _) rfl ?_
              exact ⟨ko, kc, rfl, H9.out.1, (fun e => by rw [HF.out] at e; cases e), (fun _ => ⟨rfl, rfl⟩), KW.out.one.trans H9.out.2⟩
            | false =>
              have HE : Hid (ansC c n id er rk rval rver ks = c) := by show _ = _; unfold ansC; rw [hh, if_pos rfl, if_neg he, if_pos hi, ht]; rfl
              rw [HE.out]
              have hi' : (id == c.la) = true := by simpa using hi
              rw [ht] at q5
              clear h hr hi ht
              go_enter Try.func15, Try.ntmps15
              go_upto_region 2 with fail
              rw [← hW, ← HCe.out]
              clear hW
              go_wp2
              first | go_end0 | refine bodyPost_ret (results_none rfl _ _ _) rfl ?_
              first | exact ⟨ko, kc, rfl, HW.out, (fun e => by rw [HF.out] at e; cases e), (fun _ => ⟨rfl, rfl⟩), KW.out.one⟩ | exact ⟨rfl, ko, kc, HW.out, (fun e => by rw [HF.out] at e; cases e), (fun _ => ⟨rfl, rfl⟩), KW.out.one⟩
          · have HE : Hid (ansC c n id er rk rval rver ks = c) := by show _ = _; unfold ansC; rw [hh, if_pos rfl, if_neg he, if_neg hi]
            rw [HE.out]
            have hi' : (id == c.la) = false := by simpa using hi
            clear h hr
            go_enter Try.func15, Try.ntmps15
            go_upto_region 2 with fail
            rw [← hW, ← HCe.out]
            clear hW
            go_wp2
            first | go_end0 | refine bodyPost_ret (results_none rfl _ _ _) rfl ?_
            first | exact ⟨ko, kc, rfl, HW.out, (fun e => by rw [HF.out] at e; cases e), (fun _ => ⟨rfl, rfl⟩), KW.out.one⟩ | exact ⟨rfl, ko, kc, HW.out, (fun e => by rw [HF.out] at e; cases e), (fun _ => ⟨rfl, rfl⟩), KW.out.one⟩
      · have hh : hears c id = false := by simp [hears, h2]
        have h1' : ¬ id ≤ c.ol := by omega
        have h2' : c.la < id := by omega
        have HE : Hid (ansC c n id er rk rval rver ks = c) := by show _ = _; unfold ansC; rw [hh]; rfl
        have HF : Hid (fins c id er = false) := by show _ = _; unfold fins; rw [hh]; rfl
        rw [HE.out]
        clear h hr
        go_enter Try.func15, Try.ntmps15
        go_upto_region 2 with fail
        rw [← hW, ← HCe.out]
        clear hW
        go_wp2
        first | go_end0 | refine bodyPost_ret (results_none rfl _ _ _) rfl ?_
        first | exact ⟨ko, kc, rfl, HW.out, (fun e => by rw [HF.out] at e; cases e), (fun _ => ⟨rfl, rfl⟩), KW.out.one⟩ | exact ⟨rfl, ko, kc, HW.out, (fun e => by rw [HF.out] at e; cases e), (fun _ => ⟨rfl, rfl⟩), KW.out.one⟩
    · have hh : hears c id = false := by simp [hears, h1]
      have h1' : id ≤ c.ol := by omega
      have HE : Hid (ansC c n id er rk rval rver ks = c) := by show _ = _; unfold ansC; rw [hh]; rfl
      have HF : Hid (fins c id er = false) := by show _ = _; unfold fins; rw [hh]; rfl
      rw [HE.out]
      clear h hr
      go_enter Try.func15, Try.ntmps15
      go_upto_region 2 with fail
      rw [← hW, ← HCe.out]
      clear hW
      go_wp2
      first | go_end0 | refine bodyPost_ret (results_none rfl _ _ _) rfl ?_
      first | exact ⟨ko, kc, rfl, HW.out, (fun e => by rw [HF.out] at e; cases e), (fun _ => ⟨rfl, rfl⟩), KW.out.one⟩ | exact ⟨rfl, ko, kc, HW.out, (fun e => by rw [HF.out] at e; cases e), (fun _ => ⟨rfl, rfl⟩), KW.out.one⟩
  · have hh : hears c id = false := by simp [hears, hs]
    have hs' : (c.st != 1) = true := by simpa using hs
    have q9 : W.cell? ⟨b, 9, none⟩ = some (.int .i64 c.st) := blk_at HW.out 9 rfl
    have HE : Hid (ansC c n id er rk rval rver ks = c) := by show _ = _; unfold ansC; rw [hh]; rfl
    have HF : Hid (fins c id er = false) := by show _ = _; unfold fins; rw [hh]; rfl
    rw [HE.out]
    clear h hr
    go_enter Try.func15, Try.ntmps15
    go_upto_region 2 with fail
    rw [← hW, ← HCe.out]
    clear hW
    go_wp2
    first | go_end0 | refine bodyPost_ret (results_none rfl _ _ _) rfl ?_
    first | exact ⟨ko, kc, rfl, HW.out, (fun e => by rw [HF.out] at e; cases e), (fun _ => ⟨rfl, rfl⟩), KW.out.one⟩ | exact ⟨rfl, ko, kc, HW.out, (fun e => by rw [HF.out] at e; cases e), (fun _ => ⟨rfl, rfl⟩), KW.out.one⟩

end Go.Proofs.Ytbfleeilpccmcaa
