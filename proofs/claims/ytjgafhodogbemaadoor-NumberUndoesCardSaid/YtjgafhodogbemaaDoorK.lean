/-
  NumberUndoes: the walk.
-/
import Derived.Test.YtjgafhodogbemaaDoorB
import Derived.Test.YtjgafhodogbemaaDoorI
namespace Go.Proofs.YtjgafhodogbemaaDoor.N
open Go.RowKit Go.Proofs.YtjgafhodogbemaaDoor

theorem eq_call {f : FuncId} {o : Option Int} {x y v e : Int} (h : ∀ w, Calls Tryd.prog f #[.int .i64 x, .int .i64 y] w fun r w' => r = .returned (.tuple #[.int .i64 (nv o), .int .i64 (er o)]) ∧ w' = w) (hv : nv o = v) (he : er o = e) (w : World) :
    Calls Tryd.prog f #[.int .i64 x, .int .i64 y] w fun r w' => r = .returned (.tuple #[.int .i64 v, .int .i64 e]) ∧ w' = w := by
  subst hv he
  exact h w
theorem un_add {a b : Int} (ha : sf a = true) (hb : sf b = true) (hs : sf (a + b) = true) : sub (a + b) b = some a := by
  unfold sub
  rw [hs, hb, Int.add_sub_cancel]
  exact inr_some ha
theorem un_mul {a b : Int} (hb : sf b = true) (h0 : b ≠ 0) (hs : sf (a * b) = true) : dv (a * b) b = some a := by
  unfold dv
  rw [hs, hb, decide_eq_false h0, Int.mul_tmod_left, Int.mul_tdiv_cancel _ h0]
  rfl
theorem md_eq {a b : Int} (ha : sf a = true) (hb : sf b = true) (h0 : b ≠ 0) : md a b = some (a.tmod b) := by
  unfold md
  rw [ha, hb, decide_eq_false h0]
  rfl
theorem tdiv_eq (a b : Int) : a - a.tmod b = a.tdiv b * b := by
  have := Int.tmod_add_tdiv_mul a b
  omega
theorem sf_tdiv {a : Int} (b : Int) (ha : sf a = true) : sf (a.tdiv b) = true := by
  rw [sf_iff] at *
  have h1 : (a.tdiv b).natAbs = a.natAbs / b.natAbs := Int.natAbs_tdiv a b
  have h2 := Nat.div_le_self a.natAbs b.natAbs
  omega
theorem sf_tmod {a : Int} (b : Int) (ha : sf a = true) : sf (a.tmod b) = true := by
  rw [sf_iff] at *
  have h1 : (a.tmod b).natAbs = a.natAbs % b.natAbs := Int.natAbs_tmod a b
  have h2 := Nat.mod_le a.natAbs b.natAbs
  omega
theorem sf_rest {a : Int} (b : Int) (ha : sf a = true) : sf (a.tdiv b * b) = true := by
  rw [sf_iff] at *
  have h1 : (a.tdiv b * b).natAbs = a.natAbs / b.natAbs * b.natAbs := by rw [Int.natAbs_mul, Int.natAbs_tdiv]; rfl
  have h2 := Nat.div_mul_le_self a.natAbs b.natAbs
  omega
theorem sign_tmod (a b : Int) : a.tmod b = 0 ∨ (a.tmod b < 0 ↔ a < 0) := by
  by_cases h : a < 0
  · have := Int.tmod_nonneg (a := -a) b (by omega)
    rw [Int.neg_tmod] at this
    omega
  · have := Int.tmod_nonneg (a := a) b (by omega)
    omega
theorem chk (a b : Int) (ha : sf a = true) (hb : sf b = true) (w : World) {x : Int} (hx : x = a ∨ x = b) :
    Calls Tryd.prog 11 #[.int .i64 x] w fun e w' => e = .returned (.int .i64 0) ∧ w' = w := by
  rcases hx with rfl | rfl
  · exact check_yes ha w
  · exact check_yes hb w
set_option maxRecDepth 8000 in
set_option maxHeartbeats 1000000 in
theorem undoes_a (a b : Int) (ha : sf a = false) (w : World) (hT : Tab w) :
    Calls Tryd.prog 6 #[.int .i64 a, .int .i64 b] w fun e w' => e = .returned (.bool true) ∧ Below w.heap.size w w' := by
  have HC := Lib.hid fun w => check_no ha w
  clear ha
  go_enter Tryd.func6, Tryd.ntmps6
  go_wp2_with fail
  refine (live_any _ hT).mono ?_
  rintro e w0 ⟨rfl, hb0⟩
  go_wp2_with fail
  refine (HC.out _).mono ?_
  rintro e w1 ⟨rfl, rfl⟩
  go_wp2_with fail
  go_ret
  all_goals exact ⟨rfl, hb0⟩
set_option maxRecDepth 8000 in
set_option maxHeartbeats 1000000 in
theorem undoes_b (a b : Int) (ha : sf a = true) (hb : sf b = false) (w : World) (hT : Tab w) :
    Calls Tryd.prog 6 #[.int .i64 a, .int .i64 b] w fun e w' => e = .returned (.bool true) ∧ Below w.heap.size w w' := by
  have HC := Lib.hid fun w => check_yes ha w
  have HC2 := Lib.hid fun w => check_no hb w
  clear ha hb
  go_enter Tryd.func6, Tryd.ntmps6
  go_wp2_with fail
  refine (live_any _ hT).mono ?_
  rintro e w0 ⟨rfl, hb0⟩
  go_wp2_with fail
  refine (HC.out _).mono ?_
  rintro e w1 ⟨rfl, rfl⟩
  go_wp2_with fail
  refine (HC2.out _).mono ?_
  rintro e w2 ⟨rfl, rfl⟩
  go_wp2_with fail
  go_ret
  all_goals exact ⟨rfl, hb0⟩
set_option maxRecDepth 8000 in
set_option maxHeartbeats 1000000 in
theorem undoes_c1 (a b : Int) (ha : sf a = true) (hb : sf b = true) (hs : sf (a + b) = true) (h0 : b = 0) (w : World) (hT : Tab w) :
    Calls Tryd.prog 6 #[.int .i64 a, .int .i64 b] w fun e w' => e = .returned (.bool true) ∧ Below w.heap.size w w' := by
  subst h0
  have HC := Lib.hid fun w => check_yes ha w
  have HC2 := Lib.hid fun w => check_yes hb w
  have H1 : Hid (∀ w, Calls Tryd.prog 8 #[.int .i64 a, .int .i64 0] w fun e w' => e = .returned (.tuple #[.int .i64 (a + 0), .int .i64 0]) ∧ w' = w) := Lib.hid (eq_call (add_any a 0) (v := a + 0) (e := 0) (by unfold add; rw [ha, hb]; exact congrArg nv (inr_some hs)) (by unfold add; rw [ha, hb]; exact congrArg er (inr_some hs)))
  have H2 : Hid (∀ w, Calls Tryd.prog 13 #[.int .i64 (a + 0), .int .i64 0] w fun e w' => e = .returned (.tuple #[.int .i64 a, .int .i64 0]) ∧ w' = w) := Lib.hid (eq_call (sub_any (a + 0) 0) (congrArg nv (un_add ha hb hs)) (congrArg er (un_add ha hb hs)))
  have H3 : Hid (∀ w, Calls Tryd.prog 15 #[.int .i64 a, .int .i64 0] w fun e w' => e = .returned (.tuple #[.int .i64 0, .int .i64 0]) ∧ w' = w) := Lib.hid (eq_call (mul_any a 0) (by unfold mul; rw [ha, hb, Int.mul_zero]; rfl) (by unfold mul; rw [ha, hb, Int.mul_zero]; rfl))
  have H5 : Hid (∀ w, Calls Tryd.prog 19 #[.int .i64 a, .int .i64 0] w fun e w' => e = .returned (.tuple #[.int .i64 0, .int .i64 100]) ∧ w' = w) := Lib.hid (eq_call (mod_any a 0) (by unfold md; rw [ha, hb]; rfl) (by unfold md; rw [ha, hb]; rfl))
  clear ha hb hs
  generalize a + 0 = s at *
  go_enter Tryd.func6, Tryd.ntmps6
  go_wp2_with fail
  refine (live_any _ hT).mono ?_
  rintro e w0 ⟨rfl, hb0⟩
  go_wp2_with fail
  refine (HC.out _).mono ?_
  rintro e w1 ⟨rfl, rfl⟩
  go_wp2_with fail
  refine (HC2.out _).mono ?_
  rintro e w2 ⟨rfl, rfl⟩
  go_wp2_with fail
  refine (H1.out _).mono ?_
  rintro e w3 ⟨rfl, rfl⟩
  go_wp2_with fail
  refine (H2.out _).mono ?_
  rintro e w4 ⟨rfl, rfl⟩
  go_wp2_with fail
  refine (H3.out _).mono ?_
  rintro e w5 ⟨rfl, rfl⟩
  go_wp2_with fail
  refine (H5.out _).mono ?_
  rintro e w6 ⟨rfl, rfl⟩
  go_wp2_with fail
  go_ret
  all_goals exact ⟨rfl, hb0⟩
set_option maxRecDepth 8000 in
set_option maxHeartbeats 1000000 in
theorem undoes_c2 (a b : Int) (ha : sf a = true) (hb : sf b = true) (hs : sf (a + b) = true) (h0 : b ≠ 0) (hp : sf (a * b) = true) (w : World) (hT : Tab w) :
    Calls Tryd.prog 6 #[.int .i64 a, .int .i64 b] w fun e w' => e = .returned (.bool true) ∧ Below w.heap.size w w' := by
  have HC := Lib.hid fun w => check_yes ha w
  have HC2 := Lib.hid fun w => check_yes hb w
  have H1 : Hid (∀ w, Calls Tryd.prog 8 #[.int .i64 a, .int .i64 b] w fun e w' => e = .returned (.tuple #[.int .i64 (a + b), .int .i64 0]) ∧ w' = w) := Lib.hid (eq_call (add_any a b) (v := a + b) (e := 0) (by unfold add; rw [ha, hb]; exact congrArg nv (inr_some hs)) (by unfold add; rw [ha, hb]; exact congrArg er (inr_some hs)))
  have H2 : Hid (∀ w, Calls Tryd.prog 13 #[.int .i64 (a + b), .int .i64 b] w fun e w' => e = .returned (.tuple #[.int .i64 a, .int .i64 0]) ∧ w' = w) := Lib.hid (eq_call (sub_any (a + b) b) (congrArg nv (un_add ha hb hs)) (congrArg er (un_add ha hb hs)))
  have H3 : Hid (∀ w, Calls Tryd.prog 15 #[.int .i64 a, .int .i64 b] w fun e w' => e = .returned (.tuple #[.int .i64 (a * b), .int .i64 0]) ∧ w' = w) := Lib.hid (eq_call (mul_any a b) (by unfold mul; rw [ha, hb]; exact congrArg nv (inr_some hp)) (by unfold mul; rw [ha, hb]; exact congrArg er (inr_some hp)))
  have H4 : Hid (∀ w, Calls Tryd.prog 17 #[.int .i64 (a * b), .int .i64 b] w fun e w' => e = .returned (.tuple #[.int .i64 a, .int .i64 0]) ∧ w' = w) := Lib.hid (eq_call (div_any (a * b) b) (congrArg nv (un_mul hb h0 hp)) (congrArg er (un_mul hb h0 hp)))
  have HS := Lib.hid (sign_tmod a b)
  have hq := sf_tdiv b ha
  have hr := sf_rest b ha
  have H5 : Hid (∀ w, Calls Tryd.prog 19 #[.int .i64 a, .int .i64 b] w fun e w' => e = .returned (.tuple #[.int .i64 (a.tmod b), .int .i64 0]) ∧ w' = w) := Lib.hid (eq_call (mod_any a b) (congrArg nv (md_eq ha hb h0)) (congrArg er (md_eq ha hb h0)))
  have E6 : sub a (a.tmod b) = some (a.tdiv b * b) := by
    unfold sub
    rw [ha, sf_tmod b ha, tdiv_eq]
    exact inr_some hr
  have H6 : Hid (∀ w, Calls Tryd.prog 13 #[.int .i64 a, .int .i64 (a.tmod b)] w fun e w' => e = .returned (.tuple #[.int .i64 (a.tdiv b * b), .int .i64 0]) ∧ w' = w) := Lib.hid (eq_call (sub_any a (a.tmod b)) (congrArg nv E6) (congrArg er E6))
  have H7 : Hid (∀ w, Calls Tryd.prog 17 #[.int .i64 (a.tdiv b * b), .int .i64 b] w fun e w' => e = .returned (.tuple #[.int .i64 (a.tdiv b), .int .i64 0]) ∧ w' = w) := Lib.hid (eq_call (div_any (a.tdiv b * b) b) (congrArg nv (un_mul hb h0 hr)) (congrArg er (un_mul hb h0 hr)))
  have E8 : mul (a.tdiv b) b = some (a.tdiv b * b) := by
    unfold mul
    rw [hq, hb]
    exact inr_some hr
  have H8 : Hid (∀ w, Calls Tryd.prog 15 #[.int .i64 (a.tdiv b), .int .i64 b] w fun e w' => e = .returned (.tuple #[.int .i64 (a.tdiv b * b), .int .i64 0]) ∧ w' = w) := Lib.hid (eq_call (mul_any (a.tdiv b) b) (congrArg nv E8) (congrArg er E8))
  clear E6 E8 hq hr
  generalize a.tdiv b * b = d at *
  generalize a.tdiv b = q at *
  generalize a.tmod b = m at *
  clear ha hb hs hp
  generalize a + b = s at *
  generalize a * b = p at *
  have HBB : Hid ((m == 0 || decide (m < 0) == decide (a < 0)) = true) := Lib.hid (by rcases HS.out with h | h <;> simp [h])
  clear HS
  go_enter Tryd.func6, Tryd.ntmps6
  go_wp2_with fail
  refine (live_any _ hT).mono ?_
  rintro e w0 ⟨rfl, hb0⟩
  go_wp2_with fail
  refine (HC.out _).mono ?_
  rintro e w1 ⟨rfl, rfl⟩
  go_wp2_with fail
  refine (HC2.out _).mono ?_
  rintro e w2 ⟨rfl, rfl⟩
  go_wp2_with fail
  refine (H1.out _).mono ?_
  rintro e w3 ⟨rfl, rfl⟩
  go_wp2_with fail
  refine (H2.out _).mono ?_
  rintro e w4 ⟨rfl, rfl⟩
  go_wp2_with fail
  refine (H3.out _).mono ?_
  rintro e w5 ⟨rfl, rfl⟩
  go_wp2_with fail
  refine (H4.out _).mono ?_
  rintro e w6 ⟨rfl, rfl⟩
  go_wp2_with fail
  refine (H5.out _).mono ?_
  rintro e w7 ⟨rfl, rfl⟩
  go_wp2_with fail
  refine (H6.out _).mono ?_
  rintro e w8 ⟨rfl, rfl⟩
  go_wp2_with fail
  refine (H7.out _).mono ?_
  rintro e w9 ⟨rfl, rfl⟩
  go_wp2_with fail
  refine (H8.out _).mono ?_
  rintro e w10 ⟨rfl, rfl⟩
  go_wp2_with fail
  all_goals go_ret
  all_goals exact ⟨ret_bool (by first | rfl | exact HBB.out), hb0⟩
set_option maxRecDepth 8000 in
set_option maxHeartbeats 1000000 in
theorem undoes_c3 (a b : Int) (ha : sf a = true) (hb : sf b = true) (hs : sf (a + b) = true) (h0 : b ≠ 0) (hp : sf (a * b) = false) (w : World) (hT : Tab w) :
    Calls Tryd.prog 6 #[.int .i64 a, .int .i64 b] w fun e w' => e = .returned (.bool true) ∧ Below w.heap.size w w' := by
  have HC := Lib.hid fun w => check_yes ha w
  have HC2 := Lib.hid fun w => check_yes hb w
  have H1 : Hid (∀ w, Calls Tryd.prog 8 #[.int .i64 a, .int .i64 b] w fun e w' => e = .returned (.tuple #[.int .i64 (a + b), .int .i64 0]) ∧ w' = w) := Lib.hid (eq_call (add_any a b) (v := a + b) (e := 0) (by unfold add; rw [ha, hb]; exact congrArg nv (inr_some hs)) (by unfold add; rw [ha, hb]; exact congrArg er (inr_some hs)))
  have H2 : Hid (∀ w, Calls Tryd.prog 13 #[.int .i64 (a + b), .int .i64 b] w fun e w' => e = .returned (.tuple #[.int .i64 a, .int .i64 0]) ∧ w' = w) := Lib.hid (eq_call (sub_any (a + b) b) (congrArg nv (un_add ha hb hs)) (congrArg er (un_add ha hb hs)))
  have H3 : Hid (∀ w, Calls Tryd.prog 15 #[.int .i64 a, .int .i64 b] w fun e w' => e = .returned (.tuple #[.int .i64 0, .int .i64 100]) ∧ w' = w) := Lib.hid (eq_call (mul_any a b) (by unfold mul; rw [ha, hb]; exact congrArg nv (inr_none hp)) (by unfold mul; rw [ha, hb]; exact congrArg er (inr_none hp)))
  have HS := Lib.hid (sign_tmod a b)
  have hq := sf_tdiv b ha
  have hr := sf_rest b ha
  have H5 : Hid (∀ w, Calls Tryd.prog 19 #[.int .i64 a, .int .i64 b] w fun e w' => e = .returned (.tuple #[.int .i64 (a.tmod b), .int .i64 0]) ∧ w' = w) := Lib.hid (eq_call (mod_any a b) (congrArg nv (md_eq ha hb h0)) (congrArg er (md_eq ha hb h0)))
  have E6 : sub a (a.tmod b) = some (a.tdiv b * b) := by
    unfold sub
    rw [ha, sf_tmod b ha, tdiv_eq]
    exact inr_some hr
  have H6 : Hid (∀ w, Calls Tryd.prog 13 #[.int .i64 a, .int .i64 (a.tmod b)] w fun e w' => e = .returned (.tuple #[.int .i64 (a.tdiv b * b), .int .i64 0]) ∧ w' = w) := Lib.hid (eq_call (sub_any a (a.tmod b)) (congrArg nv E6) (congrArg er E6))
  have H7 : Hid (∀ w, Calls Tryd.prog 17 #[.int .i64 (a.tdiv b * b), .int .i64 b] w fun e w' => e = .returned (.tuple #[.int .i64 (a.tdiv b), .int .i64 0]) ∧ w' = w) := Lib.hid (eq_call (div_any (a.tdiv b * b) b) (congrArg nv (un_mul hb h0 hr)) (congrArg er (un_mul hb h0 hr)))
  have E8 : mul (a.tdiv b) b = some (a.tdiv b * b) := by
    unfold mul
    rw [hq, hb]
    exact inr_some hr
  have H8 : Hid (∀ w, Calls Tryd.prog 15 #[.int .i64 (a.tdiv b), .int .i64 b] w fun e w' => e = .returned (.tuple #[.int .i64 (a.tdiv b * b), .int .i64 0]) ∧ w' = w) := Lib.hid (eq_call (mul_any (a.tdiv b) b) (congrArg nv E8) (congrArg er E8))
  clear E6 E8 hq hr
  generalize a.tdiv b * b = d at *
  generalize a.tdiv b = q at *
  generalize a.tmod b = m at *
  clear ha hb hs hp
  generalize a + b = s at *
  have HBB : Hid ((m == 0 || decide (m < 0) == decide (a < 0)) = true) := Lib.hid (by rcases HS.out with h | h <;> simp [h])
  clear HS
  go_enter Tryd.func6, Tryd.ntmps6
  go_wp2_with fail
  refine (live_any _ hT).mono ?_
  rintro e w0 ⟨rfl, hb0⟩
  go_wp2_with fail
  refine (HC.out _).mono ?_
  rintro e w1 ⟨rfl, rfl⟩
  go_wp2_with fail
  refine (HC2.out _).mono ?_
  rintro e w2 ⟨rfl, rfl⟩
  go_wp2_with fail
  refine (H1.out _).mono ?_
  rintro e w3 ⟨rfl, rfl⟩
  go_wp2_with fail
  refine (H2.out _).mono ?_
  rintro e w4 ⟨rfl, rfl⟩
  go_wp2_with fail
  refine (H3.out _).mono ?_
  rintro e w5 ⟨rfl, rfl⟩
  go_wp2_with fail
  refine (H5.out _).mono ?_
  rintro e w6 ⟨rfl, rfl⟩
  go_wp2_with fail
  refine (H6.out _).mono ?_
  rintro e w7 ⟨rfl, rfl⟩
  go_wp2_with fail
  refine (H7.out _).mono ?_
  rintro e w8 ⟨rfl, rfl⟩
  go_wp2_with fail
  refine (H8.out _).mono ?_
  rintro e w9 ⟨rfl, rfl⟩
  go_wp2_with fail
  all_goals go_ret
  all_goals exact ⟨ret_bool (by first | rfl | exact HBB.out), hb0⟩
set_option maxRecDepth 8000 in
set_option maxHeartbeats 1000000 in
theorem undoes_c4 (a b : Int) (ha : sf a = true) (hb : sf b = true) (hs : sf (a + b) = false) (h0 : b = 0) (w : World) (hT : Tab w) :
    Calls Tryd.prog 6 #[.int .i64 a, .int .i64 b] w fun e w' => e = .returned (.bool true) ∧ Below w.heap.size w w' := by
  subst h0
  have HC := Lib.hid fun w => check_yes ha w
  have HC2 := Lib.hid fun w => check_yes hb w
  have H1 : Hid (∀ w, Calls Tryd.prog 8 #[.int .i64 a, .int .i64 0] w fun e w' => e = .returned (.tuple #[.int .i64 0, .int .i64 100]) ∧ w' = w) := Lib.hid (eq_call (add_any a 0) (by unfold add; rw [ha, hb]; exact congrArg nv (inr_none hs)) (by unfold add; rw [ha, hb]; exact congrArg er (inr_none hs)))
  have H3 : Hid (∀ w, Calls Tryd.prog 15 #[.int .i64 a, .int .i64 0] w fun e w' => e = .returned (.tuple #[.int .i64 0, .int .i64 0]) ∧ w' = w) := Lib.hid (eq_call (mul_any a 0) (by unfold mul; rw [ha, hb, Int.mul_zero]; rfl) (by unfold mul; rw [ha, hb, Int.mul_zero]; rfl))
  have H5 : Hid (∀ w, Calls Tryd.prog 19 #[.int .i64 a, .int .i64 0] w fun e w' => e = .returned (.tuple #[.int .i64 0, .int .i64 100]) ∧ w' = w) := Lib.hid (eq_call (mod_any a 0) (by unfold md; rw [ha, hb]; rfl) (by unfold md; rw [ha, hb]; rfl))
  clear ha hb hs
  go_enter Tryd.func6, Tryd.ntmps6
  go_wp2_with fail
  refine (live_any _ hT).mono ?_
  rintro e w0 ⟨rfl, hb0⟩
  go_wp2_with fail
  refine (HC.out _).mono ?_
  rintro e w1 ⟨rfl, rfl⟩
  go_wp2_with fail
  refine (HC2.out _).mono ?_
  rintro e w2 ⟨rfl, rfl⟩
  go_wp2_with fail
  refine (H1.out _).mono ?_
  rintro e w3 ⟨rfl, rfl⟩
  go_wp2_with fail
  refine (H3.out _).mono ?_
  rintro e w4 ⟨rfl, rfl⟩
  go_wp2_with fail
  refine (H5.out _).mono ?_
  rintro e w5 ⟨rfl, rfl⟩
  go_wp2_with fail
  go_ret
  all_goals exact ⟨rfl, hb0⟩
set_option maxRecDepth 8000 in
set_option maxHeartbeats 1000000 in
theorem undoes_c5 (a b : Int) (ha : sf a = true) (hb : sf b = true) (hs : sf (a + b) = false) (h0 : b ≠ 0) (hp : sf (a * b) = true) (w : World) (hT : Tab w) :
    Calls Tryd.prog 6 #[.int .i64 a, .int .i64 b] w fun e w' => e = .returned (.bool true) ∧ Below w.heap.size w w' := by
  have HC := Lib.hid fun w => check_yes ha w
  have HC2 := Lib.hid fun w => check_yes hb w
  have H1 : Hid (∀ w, Calls Tryd.prog 8 #[.int .i64 a, .int .i64 b] w fun e w' => e = .returned (.tuple #[.int .i64 0, .int .i64 100]) ∧ w' = w) := Lib.hid (eq_call (add_any a b) (by unfold add; rw [ha, hb]; exact congrArg nv (inr_none hs)) (by unfold add; rw [ha, hb]; exact congrArg er (inr_none hs)))
  have H3 : Hid (∀ w, Calls Tryd.prog 15 #[.int .i64 a, .int .i64 b] w fun e w' => e = .returned (.tuple #[.int .i64 (a * b), .int .i64 0]) ∧ w' = w) := Lib.hid (eq_call (mul_any a b) (by unfold mul; rw [ha, hb]; exact congrArg nv (inr_some hp)) (by unfold mul; rw [ha, hb]; exact congrArg er (inr_some hp)))
  have H4 : Hid (∀ w, Calls Tryd.prog 17 #[.int .i64 (a * b), .int .i64 b] w fun e w' => e = .returned (.tuple #[.int .i64 a, .int .i64 0]) ∧ w' = w) := Lib.hid (eq_call (div_any (a * b) b) (congrArg nv (un_mul hb h0 hp)) (congrArg er (un_mul hb h0 hp)))
  have HS := Lib.hid (sign_tmod a b)
  have hq := sf_tdiv b ha
  have hr := sf_rest b ha
  have H5 : Hid (∀ w, Calls Tryd.prog 19 #[.int .i64 a, .int .i64 b] w fun e w' => e = .returned (.tuple #[.int .i64 (a.tmod b), .int .i64 0]) ∧ w' = w) := Lib.hid (eq_call (mod_any a b) (congrArg nv (md_eq ha hb h0)) (congrArg er (md_eq ha hb h0)))
  have E6 : sub a (a.tmod b) = some (a.tdiv b * b) := by
    unfold sub
    rw [ha, sf_tmod b ha, tdiv_eq]
    exact inr_some hr
  have H6 : Hid (∀ w, Calls Tryd.prog 13 #[.int .i64 a, .int .i64 (a.tmod b)] w fun e w' => e = .returned (.tuple #[.int .i64 (a.tdiv b * b), .int .i64 0]) ∧ w' = w) := Lib.hid (eq_call (sub_any a (a.tmod b)) (congrArg nv E6) (congrArg er E6))
  have H7 : Hid (∀ w, Calls Tryd.prog 17 #[.int .i64 (a.tdiv b * b), .int .i64 b] w fun e w' => e = .returned (.tuple #[.int .i64 (a.tdiv b), .int .i64 0]) ∧ w' = w) := Lib.hid (eq_call (div_any (a.tdiv b * b) b) (congrArg nv (un_mul hb h0 hr)) (congrArg er (un_mul hb h0 hr)))
  have E8 : mul (a.tdiv b) b = some (a.tdiv b * b) := by
    unfold mul
    rw [hq, hb]
    exact inr_some hr
  have H8 : Hid (∀ w, Calls Tryd.prog 15 #[.int .i64 (a.tdiv b), .int .i64 b] w fun e w' => e = .returned (.tuple #[.int .i64 (a.tdiv b * b), .int .i64 0]) ∧ w' = w) := Lib.hid (eq_call (mul_any (a.tdiv b) b) (congrArg nv E8) (congrArg er E8))
  clear E6 E8 hq hr
  generalize a.tdiv b * b = d at *
  generalize a.tdiv b = q at *
  generalize a.tmod b = m at *
  clear ha hb hs hp
  generalize a * b = p at *
  have HBB : Hid ((m == 0 || decide (m < 0) == decide (a < 0)) = true) := Lib.hid (by rcases HS.out with h | h <;> simp [h])
  clear HS
  go_enter Tryd.func6, Tryd.ntmps6
  go_wp2_with fail
  refine (live_any _ hT).mono ?_
  rintro e w0 ⟨rfl, hb0⟩
  go_wp2_with fail
  refine (HC.out _).mono ?_
  rintro e w1 ⟨rfl, rfl⟩
  go_wp2_with fail
  refine (HC2.out _).mono ?_
  rintro e w2 ⟨rfl, rfl⟩
  go_wp2_with fail
  refine (H1.out _).mono ?_
  rintro e w3 ⟨rfl, rfl⟩
  go_wp2_with fail
  refine (H3.out _).mono ?_
  rintro e w4 ⟨rfl, rfl⟩
  go_wp2_with fail
  refine (H4.out _).mono ?_
  rintro e w5 ⟨rfl, rfl⟩
  go_wp2_with fail
  refine (H5.out _).mono ?_
  rintro e w6 ⟨rfl, rfl⟩
  go_wp2_with fail
  refine (H6.out _).mono ?_
  rintro e w7 ⟨rfl, rfl⟩
  go_wp2_with fail
  refine (H7.out _).mono ?_
  rintro e w8 ⟨rfl, rfl⟩
  go_wp2_with fail
  refine (H8.out _).mono ?_
  rintro e w9 ⟨rfl, rfl⟩
  go_wp2_with fail
  all_goals go_ret
  all_goals exact ⟨ret_bool (by first | rfl | exact HBB.out), hb0⟩
set_option maxRecDepth 8000 in
set_option maxHeartbeats 1000000 in
theorem undoes_c6 (a b : Int) (ha : sf a = true) (hb : sf b = true) (hs : sf (a + b) = false) (h0 : b ≠ 0) (hp : sf (a * b) = false) (w : World) (hT : Tab w) :
    Calls Tryd.prog 6 #[.int .i64 a, .int .i64 b] w fun e w' => e = .returned (.bool true) ∧ Below w.heap.size w w' := by
  have HC := Lib.hid fun w => check_yes ha w
  have HC2 := Lib.hid fun w => check_yes hb w
  have H1 : Hid (∀ w, Calls Tryd.prog 8 #[.int .i64 a, .int .i64 b] w fun e w' => e = .returned (.tuple #[.int .i64 0, .int .i64 100]) ∧ w' = w) := Lib.hid (eq_call (add_any a b) (by unfold add; rw [ha, hb]; exact congrArg nv (inr_none hs)) (by unfold add; rw [ha, hb]; exact congrArg er (inr_none hs)))
  have H3 : Hid (∀ w, Calls Tryd.prog 15 #[.int .i64 a, .int .i64 b] w fun e w' => e = .returned (.tuple #[.int .i64 0, .int .i64 100]) ∧ w' = w) := Lib.hid (eq_call (mul_any a b) (by unfold mul; rw [ha, hb]; exact congrArg nv (inr_none hp)) (by unfold mul; rw [ha, hb]; exact congrArg er (inr_none hp)))
  have HS := Lib.hid (sign_tmod a b)
  have hq := sf_tdiv b ha
  have hr := sf_rest b ha
  have H5 : Hid (∀ w, Calls Tryd.prog 19 #[.int .i64 a, .int .i64 b] w fun e w' => e = .returned (.tuple #[.int .i64 (a.tmod b), .int .i64 0]) ∧ w' = w) := Lib.hid (eq_call (mod_any a b) (congrArg nv (md_eq ha hb h0)) (congrArg er (md_eq ha hb h0)))
  have E6 : sub a (a.tmod b) = some (a.tdiv b * b) := by
    unfold sub
    rw [ha, sf_tmod b ha, tdiv_eq]
    exact inr_some hr
  have H6 : Hid (∀ w, Calls Tryd.prog 13 #[.int .i64 a, .int .i64 (a.tmod b)] w fun e w' => e = .returned (.tuple #[.int .i64 (a.tdiv b * b), .int .i64 0]) ∧ w' = w) := Lib.hid (eq_call (sub_any a (a.tmod b)) (congrArg nv E6) (congrArg er E6))
  have H7 : Hid (∀ w, Calls Tryd.prog 17 #[.int .i64 (a.tdiv b * b), .int .i64 b] w fun e w' => e = .returned (.tuple #[.int .i64 (a.tdiv b), .int .i64 0]) ∧ w' = w) := Lib.hid (eq_call (div_any (a.tdiv b * b) b) (congrArg nv (un_mul hb h0 hr)) (congrArg er (un_mul hb h0 hr)))
  have E8 : mul (a.tdiv b) b = some (a.tdiv b * b) := by
    unfold mul
    rw [hq, hb]
    exact inr_some hr
  have H8 : Hid (∀ w, Calls Tryd.prog 15 #[.int .i64 (a.tdiv b), .int .i64 b] w fun e w' => e = .returned (.tuple #[.int .i64 (a.tdiv b * b), .int .i64 0]) ∧ w' = w) := Lib.hid (eq_call (mul_any (a.tdiv b) b) (congrArg nv E8) (congrArg er E8))
  clear E6 E8 hq hr
  generalize a.tdiv b * b = d at *
  generalize a.tdiv b = q at *
  generalize a.tmod b = m at *
  clear ha hb hs hp
  have HBB : Hid ((m == 0 || decide (m < 0) == decide (a < 0)) = true) := Lib.hid (by rcases HS.out with h | h <;> simp [h])
  clear HS
  go_enter Tryd.func6, Tryd.ntmps6
  go_wp2_with fail
  refine (live_any _ hT).mono ?_
  rintro e w0 ⟨rfl, hb0⟩
  go_wp2_with fail
  refine (HC.out _).mono ?_
  rintro e w1 ⟨rfl, rfl⟩
  go_wp2_with fail
  refine (HC2.out _).mono ?_
  rintro e w2 ⟨rfl, rfl⟩
  go_wp2_with fail
  refine (H1.out _).mono ?_
  rintro e w3 ⟨rfl, rfl⟩
  go_wp2_with fail
  refine (H3.out _).mono ?_
  rintro e w4 ⟨rfl, rfl⟩
  go_wp2_with fail
  refine (H5.out _).mono ?_
  rintro e w5 ⟨rfl, rfl⟩
  go_wp2_with fail
  refine (H6.out _).mono ?_
  rintro e w6 ⟨rfl, rfl⟩
  go_wp2_with fail
  refine (H7.out _).mono ?_
  rintro e w7 ⟨rfl, rfl⟩
  go_wp2_with fail
  refine (H8.out _).mono ?_
  rintro e w8 ⟨rfl, rfl⟩
  go_wp2_with fail
  all_goals go_ret
  all_goals exact ⟨ret_bool (by first | rfl | exact HBB.out), hb0⟩
theorem undoes_law (a b : Int) (w : World) (hT : Tab w) :
    Calls Tryd.prog 6 #[.int .i64 a, .int .i64 b] w fun e w' => e = .returned (.bool true) ∧ Below w.heap.size w w' := by
  cases ha : sf a
  · exact undoes_a a b ha w hT
  cases hb : sf b
  · exact undoes_b a b ha hb w hT
  cases hs : sf (a + b)
  · by_cases h0 : b = 0
    · exact undoes_c4 a b ha hb hs h0 w hT
    · cases hp : sf (a * b)
      · exact undoes_c6 a b ha hb hs h0 hp w hT
      · exact undoes_c5 a b ha hb hs h0 hp w hT
  · by_cases h0 : b = 0
    · exact undoes_c1 a b ha hb hs h0 w hT
    · cases hp : sf (a * b)
      · exact undoes_c3 a b ha hb hs h0 hp w hT
      · exact undoes_c2 a b ha hb hs h0 hp w hT
end Go.Proofs.YtjgafhodogbemaaDoor.N
