/-
  IndexFunc, ContainsFunc with wrong, by contract; Check.
-/
import Derived.Test.YtnjcofjphneccaaDoorSize
import Derived.Test.YtnjcofjphneccaaDoorMay
namespace Go.Proofs.YtnjcofjphneccaaDoor
open Go.RowKit

/-- the first element that is wrong, by its index -/
def badAt : List V → Nat → Int
  | [], _ => -1
  | v :: r, i => if v.own = true then badAt r (i + 1) else i
theorem badAt_skip (l : List V) (j i : Nat) (h : ∀ u ∈ l.take j, u.own = true) (hj : j ≤ l.length) : badAt l i = badAt (l.drop j) (i + j) := by
  induction j generalizing l i with
  | zero => simp
  | succ j ih =>
    cases l with
    | nil => simp at hj
    | cons v r =>
      rw [badAt, if_pos (h v (by simp)), List.drop_succ_cons, ih r (i + 1) (fun u hu => h u (by simp [hu])) (by simpa using hj)]
      congr 1
      omega
theorem badAt_hit (l : List V) (j : Nat) (hj : j < l.length) (h : ∀ u ∈ l.take j, u.own = true) (h1 : l[j].own = false) : badAt l 0 = j := by
  rw [badAt_skip l j 0 h (by omega), List.drop_eq_getElem_cons hj, badAt, if_neg (by rw [h1]; decide)]
  omega
theorem badAt_none (l : List V) (h : ∀ u ∈ l.take l.length, u.own = true) : badAt l 0 = -1 := by
  rw [badAt_skip l l.length 0 h (Nat.le_refl _), List.drop_length]
  rfl
theorem badAt_neg (l : List V) : (decide (0 ≤ badAt l 0) = !(l.all V.own)) := by
  suffices h : ∀ i : Nat, (decide (0 ≤ badAt l i) = !(l.all V.own)) from h 0
  induction l with
  | nil => intro i; rfl
  | cons v r ih =>
    intro i
    rw [badAt, List.all_cons]
    cases h : v.own
    · simp
    · simp only [if_true, Bool.true_and]
      exact ih (i + 1)
theorem own_snoc {l : List V} {j : Nat} (h : j < l.length) (h1 : ∀ u ∈ l.take j, u.own = true) (h2 : l[j].own = true) : ∀ u ∈ l.take (j + 1), u.own = true := by
  intro u hu
  rw [snoc_get l j h, List.mem_append, List.mem_singleton] at hu
  rcases hu with hu | rfl
  · exact h1 u hu
  · exact h2

set_option maxRecDepth 8000 in
set_option maxHeartbeats 1000000 in
theorem indexFunc_any (A : Option Addr) (l : List V) (c : Nat) (w : World) (h : Row w A l) (hb : V.bulks l ≤ 4194304) :
    Calls Tryd.prog 38 #[.slice A l.length c, .func (.func 27) #[] #[]] w fun e w' => e = .returned (.int .i64 (badAt l 0)) ∧ Below w.heap.size w w' := by
  have hll : l.length ≤ 4194304 := Nat.le_trans (length_le_bulks l) hb
  go_enter Tryd.func38, Tryd.ntmps38
  go_wp2_with fail
  go_loopw [8] (fun i wr => ∃ j : Nat, j ≤ l.length ∧ i = .int .i64 j ∧ Hid (∀ u ∈ l.take j, u.own = true) ∧ Below w.heap.size w wr)
    (fun i _ => l.length - (intOf i).toNat)
  case atStart => exact ⟨0, Nat.zero_le _, rfl, fun u hu => by simp at hu, Below.refl _ _⟩
  case round =>
    obtain ⟨j, hj, rfl, ho, hbw⟩ := hrel
    by_cases hlt : j < l.length
    · obtain ⟨g, o, rfl, hg, y, hy, hv⟩ := h.at_ hlt
      have hy' := hy.below hg hbw
      obtain ⟨c0, c1, c2, c3, c4⟩ := hy'
      obtain ⟨ka', kc', la', lc', rfl, h1', h2', h3', h4'⟩ := hv.open
      have hr := Lib.hid (wrong_any l[j] _ wr (Is.below hbw _ _ hv) (Nat.le_trans (bulk_le_of_mem (List.getElem_mem hlt)) hb))
      have HH := Lib.hid (badAt_hit l j hlt ho.out)
      have HN := Lib.hid (own_snoc hlt ho.out)
      simp only [X.v] at *
      generalize l[j] = u at *
      obtain ⟨B, hB⟩ : ∃ B, B = u.own := ⟨_, rfl⟩
      have HB := Lib.hid hB
      rw [← hB] at hr
      clear hv hy hB h
      cases B with
      | true =>
        go_wp2_with fail
        refine hr.out.mono ?_
        rintro e w1 ⟨rfl, hb1⟩
        have hb2 := hbw.trans (hb1.mono hbw.size)
        clear c0 c1 c2 c3 c4 hb1 hbw
        go_wp2_with fail
        go_roundw
        case rel => exact ⟨j + 1, by omega, by go_num, HN.out HB.out.symm, hb2⟩
        case measure => simp [intOf]; omega
      | false =>
        have HV := Lib.hid (HH.out HB.out.symm)
        go_wp2_with fail
        refine hr.out.mono ?_
        rintro e w1 ⟨rfl, hb1⟩
        have hb2 := hbw.trans (hb1.mono hbw.size)
        clear c0 c1 c2 c3 c4 hb1 hbw
        go_wp2_with fail
        go_ret
        exact ⟨by rw [HV.out]; rfl, hb2⟩
    · obtain rfl : j = l.length := by omega
      have HV := Lib.hid (badAt_none l ho.out)
      go_wp2_with fail
      go_ret
      exact ⟨by rw [HV.out]; rfl, hbw⟩

theorem contains_any (A : Option Addr) (l : List V) (c : Nat) (w : World) (h : Row w A l) (hb : V.bulks l ≤ 4194304) :
    Calls Tryd.prog 26 #[.slice A l.length c, .func (.func 27) #[] #[]] w fun e w' => e = .returned (.bool (!(l.all V.own))) ∧ Below w.heap.size w w' := by
  have HI := Lib.hid (indexFunc_any A l c w h hb)
  have HN := Lib.hid (badAt_neg l)
  generalize badAt l 0 = i at *
  clear h
  go_enter Tryd.func26, Tryd.ntmps26
  go_wp2_with fail
  refine HI.out.mono ?_
  rintro e w1 ⟨rfl, hb1⟩
  go_wp2_with fail
  go_ret
  exact ⟨by rw [← HN.out]; rfl, hb1⟩
end Go.Proofs.YtnjcofjphneccaaDoor
