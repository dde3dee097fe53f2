/-
  The reference's Read, by contract.
-/
import Derived.Test.YtjgafhodogbemaaDoorR
import Derived.Test.YtjgafhodogbemaaDoorF
namespace Go.Proofs.YtjgafhodogbemaaDoor.N
open Go.RowKit Go.Proofs.YtjgafhodogbemaaDoor

theorem ro_of_own {w : World} {B : Nat} {e : TypeId} {v : Value} {n : Nat} {xs : List Nat} (h : w.ownsRow B e 1 v n (xs.map Go.Proofs.YtjgafhodogbemaaDoor.nv)) : n = xs.length ∧ ∃ A c, v = .slice A n c ∧ n ≤ c ∧ Ro w A xs := by
  obtain ⟨hn, A, c, rfl, hr⟩ := RowN.of_own h
  refine ⟨hn, A, c, rfl, ?_, Ro.of hr⟩
  rcases h.2 with ⟨h0, h1⟩ | ⟨g, cap, cur, h0, _, _, hc, _⟩
  · omega
  · injection h0 with _ _ h3
    omega
set_option maxRecDepth 8000 in
theorem list_cap (s : ByteArray) (w : World) (hs : s.size ≤ 16777216) :
    Calls Tryd.prog 40 #[.string s] w fun e w' => ∃ A c, e = .returned (.slice A (us s.data.toList).length c) ∧ (us s.data.toList).length ≤ c ∧ Ro w' A (us s.data.toList) ∧ Below w.heap.size w w' := by
  obtain ⟨i0, hi, hz0, hz1, hz2⟩ := info_parts info3
  go_enter Tryd.func40, Tryd.ntmps40
  go_wp2
  go_loopw [3, 4] (fun v i wr => ∃ k : Nat, 2 * k ≤ s.size ∧ i = .int .i64 (2 * (k : Int)) ∧ wr.ownsRow w.heap.size 3 1 v k (((us s.data.toList).take k).map Go.Proofs.YtjgafhodogbemaaDoor.nv) ∧ Below w.heap.size w wr)
    (fun _ i _ => s.size - (intOf i).toNat)
  case atStart => exact ⟨0, by omega, rfl, World.ownsRow_nil _ _ _ _, Below.refl _ _⟩
  case round =>
    obtain ⟨k, hk, rfl, hown, hb⟩ := hrel
    have hbz := hb.size
    have e2 : IntKind.i64.wrap (2 * (k : Int) + 1) = 2 * (k : Int) + 1 := IntWalk.i64_in _ (by omega)
    have e3 : (2 * (k : Int)).toNat = 2 * k := by omega
    have e4 : (2 * (k : Int) + 1).toNat = 2 * k + 1 := by omega
    have e5 : 0 ≤ 2 * (k : Int) := by omega
    have e6 : 0 ≤ 2 * (k : Int) + 1 := by omega
    by_cases hlt : 2 * k + 1 < s.size
    · have e7 : 2 * (k : Int) < s.size := by omega
      have e8 : 2 * (k : Int) + 1 < s.size := by omega
      have hm1 : k + 1 ≤ maxLen := by unfold maxLen; omega
      have hm2 : (k + 1) * 8 ≤ 140737488355328 := by omega
      go_wp2
      go_region_law ((refine step_app _ rfl (.tmp 12) (.tmp 24) 44 (by rfl) w.heap.size 3 i0 _ 8 Tryd.underlying44 hi hz0 hz1 hz2 rfl _ k _ (by rfl) (hown.alloc _) _ _ 1 (by rfl) rfl (new_cells _ _ _) (by simp; rfl) hm1 hm2 (by simp; omega) ?_; intro v' w' hown' hb'))
      all_goals
        have H : Hid (w'.ownsRow w.heap.size 3 1 v' (k + 1) (((us s.data.toList).take (k + 1)).map Go.Proofs.YtjgafhodogbemaaDoor.nv) ∧ Below w.heap.size w w') := by
          refine ⟨?_, (hb.alloc hbz _).drew.trans hb'⟩
          rw [us_snoc s k hlt, List.map_append, List.map_singleton]
          rw [ref_unit] at hown'
          exact hown'
        clear hown' hb' hown hb
        go_wp2
        go_roundw
        case rel => exact ⟨k + 1, by omega, by go_num, H.out.1, H.out.2⟩
        case measure => simp [intOf]; omega
    · have HE : Hid ((us s.data.toList).take k = us s.data.toList) := Lib.hid (List.take_of_length_le (by rw [us_length, size_list]; omega))
      go_wp2
      go_ret
      rw [HE.out] at hown
      obtain ⟨hn, A, c, rfl, hc, hr⟩ := ro_of_own hown
      exact ⟨A, c, by rw [hn]; rfl, by omega, hr, hb⟩
theorem pos_fin (sg b : Int) (hb : 1 ≤ b) (hs : sg = 1 ∨ sg = -1) (r : List Nat) : (if r = [] then none else fin sg (rgs b 0 r)) = (pos b r).map (fun n => sg * n) := by
  unfold pos
  split
  · rfl
  · exact fin_dgs sg b hb hs r 0 (Int.le_refl _) (by omega)
theorem map_one (o : Option Int) : o.map (fun n => 1 * n) = o := by
  cases o with
  | none => rfl
  | some n => rw [Option.map_some, Int.one_mul]
theorem map_neg (o : Option Int) : o.map (fun n => -1 * n) = opp o := by
  cases o with
  | none => rfl
  | some n =>
    unfold opp
    rw [Option.map_some, Option.map_some, Int.neg_one_mul]
theorem hx_head {a : Nat} {r : List Nat} (h : a ≠ 48) : hx (a :: r) = false := by
  unfold hx
  rw [decide_eq_false_iff_not]
  intro ⟨h1, _⟩
  have h2 : atI (a :: r) 0 = (a : Int) := atI_in (u := a :: r) (k := 0) (by simp)
  omega
theorem num_neg (r : List Nat) : num (45 :: r) = if r = [] then none else fin (-1) (rgs 10 0 r) := by
  have h2 : atI (45 :: r) 0 = ((45 : Nat) : Int) := atI_in (u := 45 :: r) (k := 0) (by simp)
  rw [pos_fin (-1) 10 (by omega) (.inr rfl), map_neg, num, if_neg (by simp), hx_head (by omega), if_neg Bool.false_ne_true, h2, if_pos (by omega)]
  rfl
theorem num_plus (r : List Nat) : num (43 :: r) = if r = [] then none else fin 1 (rgs 10 0 r) := by
  have h2 : atI (43 :: r) 0 = ((43 : Nat) : Int) := atI_in (u := 43 :: r) (k := 0) (by simp)
  rw [pos_fin 1 10 (by omega) (.inl rfl), map_one, num, if_neg (by simp), hx_head (by omega), if_neg Bool.false_ne_true, h2, if_neg (by omega), if_pos (by omega)]
  rfl
theorem at_two (a x : Nat) (r : List Nat) : atI (a :: x :: r) 0 = (a : Int) ∧ atI (a :: x :: r) 1 = (x : Int) :=
  ⟨atI_in (u := a :: x :: r) (k := 0) (by simp), atI_in (u := a :: x :: r) (k := 1) (by simp)⟩
theorem num_hex (x : Nat) (hx0 : x = 120 ∨ x = 88) (r : List Nat) : num (48 :: x :: r) = if r = [] then none else fin 1 (rgs 16 0 r) := by
  obtain ⟨h1, h2⟩ := at_two 48 x r
  have h : hx (48 :: x :: r) = true := by
    unfold hx
    rw [h1, h2, decide_eq_true_eq]
    omega
  rw [pos_fin 1 16 (by omega) (.inl rfl), map_one, num, if_neg (by simp), h, if_pos rfl]
  rfl
theorem num_else (a : Nat) (r : List Nat) (h1 : a ≠ 45) (h2 : a ≠ 43) (h3 : hx (a :: r) = false) : num (a :: r) = if a :: r = [] then none else fin 1 (rgs 10 0 (a :: r)) := by
  have h4 : atI (a :: r) 0 = (a : Int) := atI_in (u := a :: r) (k := 0) (by simp)
  rw [pos_fin 1 10 (by omega) (.inl rfl), map_one, num, if_neg (by simp), h3, if_neg Bool.false_ne_true, h4, if_neg (by omega), if_neg (by omega)]
theorem blank_w (n : Nat) {b : Bool} (h : sp n = b) (w : World) :
    Calls Tryd.prog 41 #[.int .i64 (n : Int)] w fun e w' => e = .returned (.bool b) ∧ w = w' := by
  subst h
  exact (blank_any (n : Int) n rfl w).mono fun _ _ ⟨h1, h2⟩ => ⟨h1, h2.symm⟩
theorem value_w (n : Nat) {y : Int} (h : vl n = y) (w : World) :
    Calls Tryd.prog 42 #[.int .i64 (n : Int)] w fun e w' => e = .returned (.int .i64 y) ∧ w = w' := by
  subst h
  exact (value_any (n : Int) n rfl w).mono fun _ _ ⟨h1, h2⟩ => ⟨h1, h2.symm⟩
theorem rgs_step {u : List Nat} {b acc : Int} {k : Nat} (h : k < u.length) : rgs b acc (u.drop k) = if b ≤ dgt u[k] ∨ 9007199254740991 < acc then none else rgs b (b * acc + dgt u[k]) (u.drop (k + 1)) := by
  rw [List.drop_eq_getElem_cons h, rgs]
end Go.Proofs.YtjgafhodogbemaaDoor.N
