/-

-/
import Derived.Test.YtllpgoaanbiodaaGreatDoorMCo
import Derived.Test.YtllpgoaanbiodaaGreatDoorMKd
import Derived.BigQuiet
import Derived.Deep.QuietTactic
import Derived.Deep.Draws
set_option maxHeartbeats 2000000
set_option maxRecDepth 8000
namespace Go.Proofs.YtllpgoaanbiodaaGreatDoor.R
open Go.RowKit Go.Proofs.YtllpgoaanbiodaaGreatDoor Go.Proofs.YtllpgoaanbiodaaGreatDoor.T
theorem hitOp {k : Int} {s : ByteArray} {l : Bs} (h : (s.toList == l) = true) (hl : opOk k l = true) : opOk k (bl s) = true := by
 rw [show bl s = s.toList from (Lib.toList_data s).symm, eq_of_beq h]; exact hl
theorem of_bl' {s : ByteArray} {l : Bs} (h : bl s = l) : s = ⟨l.toArray⟩ := by subst h; rfl
theorem opl_bi (s : Bs) : opOk 17 s = decide (5 ≤ opl s) := by
 have h : opOk 17 s = biOps.contains s := rfl
 rw [h, Bool.eq_iff_iff, List.contains_iff_mem, decide_eq_true_eq]
 unfold opl
 constructor
 ·intro hm
  unfold biOps at hm
  simp only [List.mem_cons, List.not_mem_nil, or_false] at hm
  rcases hm with hm | hm | hm | hm | hm | hm | hm | hm | hm | hm | hm | hm | hm | hm | hm <;> (rw [hm]; decide)
 ·intro h5
  unfold biOps
  simp only [List.mem_cons, List.not_mem_nil, or_false]
  split at h5
  ·omega
  ·split at h5
   ·omega
   ·split at h5
    ·rename_i hm; rcases hm with hm | hm | hm | hm <;> simp [hm]
    ·split at h5
     ·rename_i hm; rcases hm with hm | hm | hm | hm | hm | hm <;> simp [hm]
     ·split at h5
      ·rename_i hm; rcases hm with hm | hm <;> simp [hm]
      ·split at h5
       ·rename_i hm; rcases hm with hm | hm | hm <;> simp [hm]
       ·omega
theorem oper_15 (x : X) (w : World) (hk : x.k = 15) : Calls Tryz.prog 56 #[x.v] w fun e w' => e = .returned (.bool (opOk 15 (bl x.nm))) ∧ Below w.heap.size w w' := by
 obtain ⟨k, nm, n, s, ka, kn, kc, la, ln, lc⟩ := x
 simp only [X.v] at *
 subst hk
 have HB := Lib.hid (below_alloc w (.cells #[.int .i64 15, .string nm, .int .i64 n, .string s, .slice ka kn kc, .slice la ln lc] 25))
 go_enter Tryz.func56, Tryz.ntmps56
 go_wp2
 all_goals first
  | (exfalso; exact noBoth (by assumption) (by assumption))
  | (go_ret; exact ⟨ret_bool (hitOp (by assumption) (by decide +kernel)).symm, HB.out⟩)
  | (go_ret; exact ⟨ret_bool (by symm; rw [show bl nm = nm.toList from (Lib.toList_data nm).symm]; simp only [opOk, ops, unOps, List.contains_cons, List.contains_nil, *, Bool.or_false, Int.reduceEq, if_true, if_false]), HB.out⟩)
  | (go_ret; exact ⟨ret_bool (by symm; rw [show bl nm = nm.toList from (Lib.toList_data nm).symm]; show unOps.contains _ = _; simp only [unOps, List.contains_cons, List.contains_nil, *, Bool.or_false, Bool.or_true, Bool.false_or, Bool.true_or]), HB.out⟩)
theorem oper_20 (x : X) (w : World) (hk : x.k = 20) : Calls Tryz.prog 56 #[x.v] w fun e w' => e = .returned (.bool (opOk 20 (bl x.nm))) ∧ Below w.heap.size w w' := by
 obtain ⟨k, nm, n, s, ka, kn, kc, la, ln, lc⟩ := x
 simp only [X.v] at *
 subst hk
 have HB := Lib.hid (below_alloc w (.cells #[.int .i64 20, .string nm, .int .i64 n, .string s, .slice ka kn kc, .slice la ln lc] 25))
 go_enter Tryz.func56, Tryz.ntmps56
 go_wp2
 all_goals first
  | (exfalso; exact noBoth (by assumption) (by assumption))
  | (go_ret; exact ⟨ret_bool (hitOp (by assumption) (by decide +kernel)).symm, HB.out⟩)
  | (go_ret; exact ⟨ret_bool (by symm; rw [show bl nm = nm.toList from (Lib.toList_data nm).symm]; simp only [opOk, ops, asOps, List.contains_cons, List.contains_nil, *, Bool.or_false, Int.reduceEq, if_true, if_false]), HB.out⟩)
  | (go_ret; exact ⟨ret_bool (by symm; rw [show bl nm = nm.toList from (Lib.toList_data nm).symm]; show asOps.contains _ = _; simp only [asOps, List.contains_cons, List.contains_nil, *, Bool.or_false, Bool.or_true, Bool.false_or, Bool.true_or]), HB.out⟩)
theorem oper_16 (x : X) (w : World) (hk : x.k = 16) : Calls Tryz.prog 56 #[x.v] w fun e w' => e = .returned (.bool (opOk 16 (bl x.nm))) ∧ Below w.heap.size w w' := by
 obtain ⟨k, nm, n, s, ka, kn, kc, la, ln, lc⟩ := x
 simp only [X.v] at *
 subst hk
 have HB := Lib.hid (below_alloc w (.cells #[.int .i64 16, .string nm, .int .i64 n, .string s, .slice ka kn kc, .slice la ln lc] 25))
 by_cases h1 : bl nm = [43, 43]
 ·have hv : opOk 16 (bl nm) = true := by rw [h1]; rfl
  rw [hv]
  obtain rfl := of_bl' h1
  clear hv h1
  go_enter Tryz.func56, Tryz.ntmps56
  go_wp2_with fail
  go_ret
  exact ⟨rfl, HB.out⟩
 ·by_cases h2 : bl nm = [45, 45]
  ·have hv : opOk 16 (bl nm) = true := by rw [h2]; rfl
   rw [hv]
   obtain rfl := of_bl' h2
   clear hv h2 h1
   go_enter Tryz.func56, Tryz.ntmps56
   go_wp2_with fail
   go_ret
   exact ⟨rfl, HB.out⟩
  ·have hv : opOk 16 (bl nm) = false := by
    show (upOps).contains _ = false
    rw [Bool.eq_false_iff]
    intro h
    rw [List.contains_iff_mem] at h
    unfold upOps at h
    simp only [List.mem_cons, List.not_mem_nil, or_false] at h
    rcases h with h | h
    ·first | exact h1 h | exact h2 h
    ·first | exact h1 h | exact h2 h
   rw [hv]
   have b1 : (nm.toList == [43, 43]) = false := by
    rw [Lib.toList_data, beq_eq_false_iff_ne]
    exact h1
   have b2 : (nm.toList == [45, 45]) = false := by
    rw [Lib.toList_data, beq_eq_false_iff_ne]
    exact h2
   clear hv h1 h2
   go_enter Tryz.func56, Tryz.ntmps56
   go_wp2_with fail
   go_ret
   exact ⟨rfl, HB.out⟩
theorem oper_18 (x : X) (w : World) (hk : x.k = 18) : Calls Tryz.prog 56 #[x.v] w fun e w' => e = .returned (.bool (opOk 18 (bl x.nm))) ∧ Below w.heap.size w w' := by
 obtain ⟨k, nm, n, s, ka, kn, kc, la, ln, lc⟩ := x
 simp only [X.v] at *
 subst hk
 have HB := Lib.hid (below_alloc w (.cells #[.int .i64 18, .string nm, .int .i64 n, .string s, .slice ka kn kc, .slice la ln lc] 25))
 by_cases h1 : bl nm = [38, 38]
 ·have hv : opOk 18 (bl nm) = true := by rw [h1]; rfl
  rw [hv]
  obtain rfl := of_bl' h1
  clear hv h1
  go_enter Tryz.func56, Tryz.ntmps56
  go_wp2_with fail
  go_ret
  exact ⟨rfl, HB.out⟩
 ·by_cases h2 : bl nm = [124, 124]
  ·have hv : opOk 18 (bl nm) = true := by rw [h2]; rfl
   rw [hv]
   obtain rfl := of_bl' h2
   clear hv h2 h1
   go_enter Tryz.func56, Tryz.ntmps56
   go_wp2_with fail
   go_ret
   exact ⟨rfl, HB.out⟩
  ·have hv : opOk 18 (bl nm) = false := by
    show (loOps).contains _ = false
    rw [Bool.eq_false_iff]
    intro h
    rw [List.contains_iff_mem] at h
    unfold loOps at h
    simp only [List.mem_cons, List.not_mem_nil, or_false] at h
    rcases h with h | h
    ·first | exact h1 h | exact h2 h
    ·first | exact h1 h | exact h2 h
   rw [hv]
   have b1 : (nm.toList == [38, 38]) = false := by
    rw [Lib.toList_data, beq_eq_false_iff_ne]
    exact h1
   have b2 : (nm.toList == [124, 124]) = false := by
    rw [Lib.toList_data, beq_eq_false_iff_ne]
    exact h2
   clear hv h1 h2
   go_enter Tryz.func56, Tryz.ntmps56
   go_wp2_with fail
   go_ret
   exact ⟨rfl, HB.out⟩
theorem oper_17 (x : X) (w : World) (hk : x.k = 17) : Calls Tryz.prog 56 #[x.v] w fun e w' => e = .returned (.bool (opOk 17 (bl x.nm))) ∧ Below w.heap.size w w' := by
 have HO := Lib.hid fun w => opLevel_any x.nm w
 have HV := Lib.hid (opl_bi (bl x.nm))
 have h8 := opl_le (bl x.nm)
 obtain ⟨k, nm, n, s, ka, kn, kc, la, ln, lc⟩ := x
 simp only [X.v] at *
 subst hk
 have HB := Lib.hid (below_alloc w (.cells #[.int .i64 17, .string nm, .int .i64 n, .string s, .slice ka kn kc, .slice la ln lc] 25))
 rw [HV.out]
 generalize opl (bl nm) = L at *
 clear HV
 by_cases h5 : 5 ≤ L
 ·have h5' : decide ((5 : Int) ≤ (L : Int)) = true := decide_eq_true (by omega)
  rw [decide_eq_true h5]
  clear h5
  go_enter Tryz.func56, Tryz.ntmps56
  go_wp2_with fail
  refine (HO.out _).mono ?_
  rintro e w' ⟨rfl, rfl⟩
  go_wp2_with fail
  go_ret
  exact ⟨rfl, HB.out⟩
 ·have h5' : decide ((5 : Int) ≤ (L : Int)) = false := decide_eq_false (by omega)
  rw [decide_eq_false h5]
  clear h5
  go_enter Tryz.func56, Tryz.ntmps56
  go_wp2_with fail
  refine (HO.out _).mono ?_
  rintro e w' ⟨rfl, rfl⟩
  go_wp2_with fail
  go_ret
  exact ⟨rfl, HB.out⟩
end Go.Proofs.YtllpgoaanbiodaaGreatDoor.R
