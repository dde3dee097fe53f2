/-
  NumberSpreads: the walk.
-/
import Derived.Test.YtjgafhodogbemaaDoorB
import Derived.Test.YtjgafhodogbemaaDoorK
namespace Go.Proofs.YtjgafhodogbemaaDoor.N
open Go.RowKit Go.Proofs.YtjgafhodogbemaaDoor

theorem add_comm' (a b : Int) : add a b = add b a := by
  unfold add
  rw [Int.add_comm, Bool.and_comm]
theorem mul_comm' (a b : Int) : mul a b = mul b a := by
  unfold mul
  rw [Int.mul_comm, Bool.and_comm]
theorem nv_er (o : Option Int) : (∃ n, o = some n) ∨ nv o = 0 ∧ er o = 100 := by
  cases o with
  | none => exact .inr ⟨rfl, rfl⟩
  | some n => exact .inl ⟨n, rfl⟩
theorem add_is {a b n : Int} (h : add a b = some n) : n = a + b ∧ sf n = true := by
  unfold add inr at h
  split at h
  · split at h
    · injection h with h
      subst h
      exact ⟨rfl, by assumption⟩
    · cases h
  · cases h
theorem mul_is {a b n : Int} (h : mul a b = some n) : n = a * b ∧ sf n = true := by
  unfold mul inr at h
  split at h
  · split at h
    · injection h with h
      subst h
      exact ⟨rfl, by assumption⟩
    · cases h
  · cases h
set_option maxRecDepth 8000 in
set_option maxHeartbeats 1000000 in
theorem spreads_law (a b c : Int) (w : World) (hT : Tab w) :
    Calls Tryd.prog 7 #[.int .i64 a, .int .i64 b, .int .i64 c] w fun e w' => e = .returned (.bool true) ∧ Below w.heap.size w w' := by
  rcases nv_er (add b c) with ⟨s, hs⟩ | ⟨hs1, hs2⟩
  · have H1 : Hid (∀ w, Calls Tryd.prog 8 #[.int .i64 b, .int .i64 c] w fun e w' => e = .returned (.tuple #[.int .i64 s, .int .i64 0]) ∧ w' = w) := Lib.hid (eq_call (add_any b c) (congrArg nv hs) (congrArg er hs))
    have H2 : Hid (∀ w, Calls Tryd.prog 8 #[.int .i64 c, .int .i64 b] w fun e w' => e = .returned (.tuple #[.int .i64 s, .int .i64 0]) ∧ w' = w) := Lib.hid (eq_call (add_any c b) (congrArg nv ((add_comm' c b).trans hs)) (congrArg er ((add_comm' c b).trans hs)))
    rcases nv_er (mul a s) with ⟨x, hx⟩ | ⟨hx1, hx2⟩
    · have H3 : Hid (∀ w, Calls Tryd.prog 15 #[.int .i64 a, .int .i64 s] w fun e w' => e = .returned (.tuple #[.int .i64 x, .int .i64 0]) ∧ w' = w) := Lib.hid (eq_call (mul_any a s) (congrArg nv hx) (congrArg er hx))
      have H4 : Hid (∀ w, Calls Tryd.prog 15 #[.int .i64 s, .int .i64 a] w fun e w' => e = .returned (.tuple #[.int .i64 x, .int .i64 0]) ∧ w' = w) := Lib.hid (eq_call (mul_any s a) (congrArg nv ((mul_comm' s a).trans hx)) (congrArg er ((mul_comm' s a).trans hx)))
      rcases nv_er (mul a b) with ⟨p, hp⟩ | ⟨hp1, hp2⟩
      · have H5 : Hid (∀ w, Calls Tryd.prog 15 #[.int .i64 a, .int .i64 b] w fun e w' => e = .returned (.tuple #[.int .i64 p, .int .i64 0]) ∧ w' = w) := Lib.hid (eq_call (mul_any a b) (congrArg nv hp) (congrArg er hp))
        rcases nv_er (mul a c) with ⟨q, hq⟩ | ⟨hq1, hq2⟩
        · have H6 : Hid (∀ w, Calls Tryd.prog 15 #[.int .i64 a, .int .i64 c] w fun e w' => e = .returned (.tuple #[.int .i64 q, .int .i64 0]) ∧ w' = w) := Lib.hid (eq_call (mul_any a c) (congrArg nv hq) (congrArg er hq))
          have hz : add p q = some x := by
            obtain ⟨h1, h2⟩ := mul_is hp
            obtain ⟨h3, h4⟩ := mul_is hq
            obtain ⟨h5, h6⟩ := mul_is hx
            obtain ⟨h7, h8⟩ := add_is hs
            have e : p + q = x := by rw [h1, h3, h5, h7, Int.mul_add]
            unfold add
            rw [h2, h4, e]
            exact inr_some h6
          have H7 : Hid (∀ w, Calls Tryd.prog 8 #[.int .i64 p, .int .i64 q] w fun e w' => e = .returned (.tuple #[.int .i64 x, .int .i64 0]) ∧ w' = w) := Lib.hid (eq_call (add_any p q) (congrArg nv hz) (congrArg er hz))
          clear hs hx hp hq hz
          go_enter Tryd.func7, Tryd.ntmps7
          go_wp2_with fail
          refine (live_any _ hT).mono ?_
          rintro e w0 ⟨rfl, hb0⟩
          go_wp2_with fail
          refine (H1.out _).mono ?_
          rintro e w1 ⟨rfl, rfl⟩
          go_wp2_with fail
          refine (H2.out _).mono ?_
          rintro e w2 ⟨rfl, rfl⟩
          go_wp2_with fail
          refine (H3.out _).mono ?_
          rintro e w3 ⟨rfl, rfl⟩
          go_wp2_with fail
          refine (H4.out _).mono ?_
          rintro e w4 ⟨rfl, rfl⟩
          go_wp2_with fail
          refine (H5.out _).mono ?_
          rintro e w5 ⟨rfl, rfl⟩
          go_wp2_with fail
          refine (H6.out _).mono ?_
          rintro e w6 ⟨rfl, rfl⟩
          go_wp2_with fail
          refine (H7.out _).mono ?_
          rintro e w7 ⟨rfl, rfl⟩
          go_wp2_with fail
          go_ret
          all_goals exact ⟨rfl, hb0⟩
        · have H6 : Hid (∀ w, Calls Tryd.prog 15 #[.int .i64 a, .int .i64 c] w fun e w' => e = .returned (.tuple #[.int .i64 0, .int .i64 100]) ∧ w' = w) := Lib.hid (eq_call (mul_any a c) hq1 hq2)
          clear hs hx hp hq1 hq2
          go_enter Tryd.func7, Tryd.ntmps7
          go_wp2_with fail
          refine (live_any _ hT).mono ?_
          rintro e w0 ⟨rfl, hb0⟩
          go_wp2_with fail
          refine (H1.out _).mono ?_
          rintro e w1 ⟨rfl, rfl⟩
          go_wp2_with fail
          refine (H2.out _).mono ?_
          rintro e w2 ⟨rfl, rfl⟩
          go_wp2_with fail
          refine (H3.out _).mono ?_
          rintro e w3 ⟨rfl, rfl⟩
          go_wp2_with fail
          refine (H4.out _).mono ?_
          rintro e w4 ⟨rfl, rfl⟩
          go_wp2_with fail
          refine (H5.out _).mono ?_
          rintro e w5 ⟨rfl, rfl⟩
          go_wp2_with fail
          refine (H6.out _).mono ?_
          rintro e w6 ⟨rfl, rfl⟩
          go_wp2_with fail
          go_ret
          all_goals exact ⟨rfl, hb0⟩
      · have H5 : Hid (∀ w, Calls Tryd.prog 15 #[.int .i64 a, .int .i64 b] w fun e w' => e = .returned (.tuple #[.int .i64 0, .int .i64 100]) ∧ w' = w) := Lib.hid (eq_call (mul_any a b) hp1 hp2)
        have H6 := Lib.hid fun w => mul_any a c w
        generalize nv (mul a c) = q at *
        generalize er (mul a c) = y at *
        clear hs hx hp1 hp2
        go_enter Tryd.func7, Tryd.ntmps7
        go_wp2_with fail
        refine (live_any _ hT).mono ?_
        rintro e w0 ⟨rfl, hb0⟩
        go_wp2_with fail
        refine (H1.out _).mono ?_
        rintro e w1 ⟨rfl, rfl⟩
        go_wp2_with fail
        refine (H2.out _).mono ?_
        rintro e w2 ⟨rfl, rfl⟩
        go_wp2_with fail
        refine (H3.out _).mono ?_
        rintro e w3 ⟨rfl, rfl⟩
        go_wp2_with fail
        refine (H4.out _).mono ?_
        rintro e w4 ⟨rfl, rfl⟩
        go_wp2_with fail
        refine (H5.out _).mono ?_
        rintro e w5 ⟨rfl, rfl⟩
        go_wp2_with fail
        refine (H6.out _).mono ?_
        rintro e w6 ⟨rfl, rfl⟩
        go_wp2_with fail
        go_ret
        all_goals exact ⟨rfl, hb0⟩
    · have H3 : Hid (∀ w, Calls Tryd.prog 15 #[.int .i64 a, .int .i64 s] w fun e w' => e = .returned (.tuple #[.int .i64 0, .int .i64 100]) ∧ w' = w) := Lib.hid (eq_call (mul_any a s) hx1 hx2)
      have H4 : Hid (∀ w, Calls Tryd.prog 15 #[.int .i64 s, .int .i64 a] w fun e w' => e = .returned (.tuple #[.int .i64 0, .int .i64 100]) ∧ w' = w) := Lib.hid (eq_call (mul_any s a) ((congrArg nv (mul_comm' s a)).trans hx1) ((congrArg er (mul_comm' s a)).trans hx2))
      clear hs hx1 hx2
      go_enter Tryd.func7, Tryd.ntmps7
      go_wp2_with fail
      refine (live_any _ hT).mono ?_
      rintro e w0 ⟨rfl, hb0⟩
      go_wp2_with fail
      refine (H1.out _).mono ?_
      rintro e w1 ⟨rfl, rfl⟩
      go_wp2_with fail
      refine (H2.out _).mono ?_
      rintro e w2 ⟨rfl, rfl⟩
      go_wp2_with fail
      refine (H3.out _).mono ?_
      rintro e w3 ⟨rfl, rfl⟩
      go_wp2_with fail
      refine (H4.out _).mono ?_
      rintro e w4 ⟨rfl, rfl⟩
      go_wp2_with fail
      go_ret
      all_goals exact ⟨rfl, hb0⟩
  · have H1 : Hid (∀ w, Calls Tryd.prog 8 #[.int .i64 b, .int .i64 c] w fun e w' => e = .returned (.tuple #[.int .i64 0, .int .i64 100]) ∧ w' = w) := Lib.hid (eq_call (add_any b c) hs1 hs2)
    have H2 : Hid (∀ w, Calls Tryd.prog 8 #[.int .i64 c, .int .i64 b] w fun e w' => e = .returned (.tuple #[.int .i64 0, .int .i64 100]) ∧ w' = w) := Lib.hid (eq_call (add_any c b) ((congrArg nv (add_comm' c b)).trans hs1) ((congrArg er (add_comm' c b)).trans hs2))
    have H3 := Lib.hid fun w => mul_any a 0 w
    have H4 : Hid (∀ w, Calls Tryd.prog 15 #[.int .i64 0, .int .i64 a] w fun e w' => e = .returned (.tuple #[.int .i64 (nv (mul a 0)), .int .i64 (er (mul a 0))]) ∧ w' = w) := Lib.hid (eq_call (mul_any 0 a) (congrArg nv (mul_comm' 0 a)) (congrArg er (mul_comm' 0 a)))
    generalize nv (mul a 0) = x at *
    generalize er (mul a 0) = y at *
    clear hs1 hs2
    go_enter Tryd.func7, Tryd.ntmps7
    go_wp2_with fail
    refine (live_any _ hT).mono ?_
    rintro e w0 ⟨rfl, hb0⟩
    go_wp2_with fail
    refine (H1.out _).mono ?_
    rintro e w1 ⟨rfl, rfl⟩
    go_wp2_with fail
    refine (H2.out _).mono ?_
    rintro e w2 ⟨rfl, rfl⟩
    go_wp2_with fail
    refine (H3.out _).mono ?_
    rintro e w3 ⟨rfl, rfl⟩
    go_wp2_with fail
    refine (H4.out _).mono ?_
    rintro e w4 ⟨rfl, rfl⟩
    go_wp2_with fail
    go_ret
    all_goals exact ⟨rfl, hb0⟩
end Go.Proofs.YtjgafhodogbemaaDoor.N
