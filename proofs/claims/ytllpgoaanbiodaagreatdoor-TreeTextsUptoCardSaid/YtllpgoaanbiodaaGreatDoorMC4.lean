/-

-/
import Derived.Test.YtllpgoaanbiodaaGreatDoorMHf
import Derived.Test.YtllpgoaanbiodaaGreatDoorMUA
import Derived.Test.YtllpgoaanbiodaaGreatDoorMCo
import Derived.Deep.RegionHeld3
set_option maxHeartbeats 2000000
set_option maxRecDepth 8000
namespace Go.Proofs.YtllpgoaanbiodaaGreatDoor.R
open Go.RowKit Go.Proofs.YtllpgoaanbiodaaGreatDoor Go.Proofs.YtllpgoaanbiodaaGreatDoor.T
theorem beq_zero (n : Nat) : ((n : Int) == 0) = decide (n = 0) := by
 rw [Bool.eq_iff_iff, beq_iff_eq, decide_eq_true_eq]
 omega
theorem isBit_any (n : Int) (w : World) : Calls Tryz.prog 50 #[.int .i64 n] w fun e w' => e = .returned (.bool (decide (n = 0 ∨ n = 1))) ∧ w = w' := by
 by_cases h0 : n = 0
 ·subst h0
  go_enter Tryz.func50, Tryz.ntmps50
  go_wp2_with fail
  go_ret
  exact ⟨rfl, rfl⟩
 ·by_cases h1 : n = 1
  ·subst h1
   go_enter Tryz.func50, Tryz.ntmps50
   go_wp2_with fail
   go_ret
   exact ⟨rfl, rfl⟩
  ·have b0 : (n == 0) = false := by rw [beq_eq_false_iff_ne]; exact h0
   have b1 : (n == 1) = false := by rw [beq_eq_false_iff_ne]; exact h1
   have HV : Hid (decide (n = 0 ∨ n = 1) = false) := decide_eq_false (by omega)
   rw [HV.out]
   clear h0 h1 HV
   go_enter Tryz.func50, Tryz.ntmps50
   go_wp2_with fail
   go_ret
   exact ⟨rfl, rfl⟩
theorem fields_x {v : V} {c : Bool} (h : ¬ v.k = 1 ∧ ¬ v.k = 6 ∧ ¬ v.k = 2 ∧ ¬ v.k = 9 ∧ ¬ v.k = 3 ∧ ¬ v.k = 23 ∧ ¬ v.k = 38 ∧ ¬ v.k = 11 ∧ ¬ v.k = 31 ∧ ¬ v.k = 32 ∧ ¬ v.k = 10 ∧ ¬ v.k = 39 ∧ ¬ v.k = 35 ∧ ¬ v.k = 16 ∧ ¬ v.k = 15 ∧ ¬ v.k = 17 ∧ ¬ v.k = 18 ∧ ¬ v.k = 20) : fields c v = (decide (v.nm.size = 0) && (decide (v.n = 0) && (decide (v.s.size = 0) && v.ks.isEmpty))) := by
 unfold fields nmOk numOk txOk nsOk
 repeat rw [if_neg (by omega)]
theorem hf_x (v : V) (x : X) (w : World) (h : Is w v x) (hk : ¬ v.k = 1 ∧ ¬ v.k = 6 ∧ ¬ v.k = 2 ∧ ¬ v.k = 9 ∧ ¬ v.k = 3 ∧ ¬ v.k = 23 ∧ ¬ v.k = 38 ∧ ¬ v.k = 11 ∧ ¬ v.k = 31 ∧ ¬ v.k = 32 ∧ ¬ v.k = 10 ∧ ¬ v.k = 39 ∧ ¬ v.k = 35 ∧ ¬ v.k = 16 ∧ ¬ v.k = 15 ∧ ¬ v.k = 17 ∧ ¬ v.k = 18 ∧ ¬ v.k = 20) : Calls Tryz.prog 37 #[x.v] w fun e w' => e = .returned (.bool (fields (ctch v) v)) ∧ Below w.heap.size w w' := by
 obtain ⟨ka, kc, la, lc, rfl, h1, h2, h3, h4⟩ := h.open
 have HV := Lib.hid (fields_x (c := ctch v) hk)
 have HTn := Lib.hid (toList_nil v.nm)
 have HTs := Lib.hid (toList_nil v.s)
 have HE : Hid (v.ks.isEmpty = decide (v.ks.length = 0)) := by
  show _ = _
  cases v.ks <;> simp
 simp only [X.v] at *
 have hbe : ∀ m : Int, ¬ v.k = m → (v.k == m) = false := fun m hm => by rw [beq_eq_false_iff_ne]; exact hm
 have b1 := hbe 1 (by omega)
 have b6 := hbe 6 (by omega)
 have b2 := hbe 2 (by omega)
 have b9 := hbe 9 (by omega)
 have b3 := hbe 3 (by omega)
 have b23 := hbe 23 (by omega)
 have b38 := hbe 38 (by omega)
 have b11 := hbe 11 (by omega)
 have b31 := hbe 31 (by omega)
 have b32 := hbe 32 (by omega)
 have b10 := hbe 10 (by omega)
 have b39 := hbe 39 (by omega)
 have b35 := hbe 35 (by omega)
 have b16 := hbe 16 (by omega)
 have b15 := hbe 15 (by omega)
 have b17 := hbe 17 (by omega)
 have b18 := hbe 18 (by omega)
 have b20 := hbe 20 (by omega)
 rw [HE.out] at HV
 clear h h1 h2 h3 h4 hk HE hbe
 generalize v.k = k at *
 generalize v.nm = nm at *
 generalize v.n = n at *
 generalize v.s = s at *
 generalize v.ks.length = kn at *
 generalize v.l.length = ln at *
 go_enter Tryz.func37, Tryz.ntmps37
 go_wp2_with fail
 go_quiet (fail)
 go_wp2_with fail
 all_goals go_ret
 all_goals refine ⟨ret_bool ?_, (below_alloc w _).trans (below_drewN _ _ _)⟩
 all_goals clear b1 b6 b2 b9 b3 b23 b38 b11 b31 b32 b10 b39 b35 b16 b15 b17 b18 b20
 all_goals rw [HV.out]
 all_goals have hTn := HTn.out
 all_goals have hTs := HTs.out
 all_goals simp_all
 all_goals exact beq_zero _
theorem hf_3 (v : V) (x : X) (w : World) (h : Is w v x) (hk : v.k = 3) (hsz : v.nm.size ≤ 4194304) : Calls Tryz.prog 37 #[x.v] w fun e w' => e = .returned (.bool (fields (ctch v) v)) ∧ Below w.heap.size w w' := by
 obtain ⟨ka, kc, la, lc, rfl, h1, h2, h3, h4⟩ := h.open
 have HV : Hid (fields (ctch v) v = (isNm v.nm && (decide (v.n = 0) && (decide (v.s.size = 0) && v.ks.isEmpty)))) := by
  show _ = _
  unfold fields
  rw [nm_3 hk]
  unfold numOk txOk nsOk
  rw [hk]
  rfl
 have HTn := Lib.hid (toList_nil v.nm)
 have HTs := Lib.hid (toList_nil v.s)
 have HE : Hid (v.ks.isEmpty = decide (v.ks.length = 0)) := by
  show _ = _
  cases v.ks <;> simp
 simp only [X.v] at *
 rw [hk] at *
 have HC := Lib.hid fun w => isName_any v.nm w hsz
 try rw [HE.out] at HV
 clear h h1 h2 h3 h4 hk HE hsz
 generalize isNm v.nm = P at *
 generalize v.nm = nm at *
 generalize v.n = n at *
 generalize v.s = s at *
 generalize v.ks.length = kn at *
 generalize v.l.length = ln at *
 go_enter Tryz.func37, Tryz.ntmps37
 go_wp2_with fail
 go_quiet (fail)
 go_wp2_with fail
 all_goals
  refine (HC.out _).mono ?_
  rintro e w' ⟨rfl, rfl⟩
  go_wp2_with fail
 all_goals go_ret
 all_goals refine ⟨ret_bool ?_, (below_alloc w _).trans (below_drewN _ _ _)⟩
 all_goals rw [HV.out]
 all_goals have hTn := HTn.out
 all_goals have hTs := HTs.out
 all_goals clear hTn HTn
 all_goals simp_all
 all_goals exact beq_zero _
theorem hf_23 (v : V) (x : X) (w : World) (h : Is w v x) (hk : v.k = 23) (hsz : v.nm.size ≤ 4194304) : Calls Tryz.prog 37 #[x.v] w fun e w' => e = .returned (.bool (fields (ctch v) v)) ∧ Below w.heap.size w w' := by
 obtain ⟨ka, kc, la, lc, rfl, h1, h2, h3, h4⟩ := h.open
 have HV : Hid (fields (ctch v) v = (isNm v.nm && (decide (v.n = 0) && (decide (v.s.size = 0) && v.ks.isEmpty)))) := by
  show _ = _
  unfold fields
  rw [nm_23 hk]
  unfold numOk txOk nsOk
  rw [hk]
  rfl
 have HTn := Lib.hid (toList_nil v.nm)
 have HTs := Lib.hid (toList_nil v.s)
 have HE : Hid (v.ks.isEmpty = decide (v.ks.length = 0)) := by
  show _ = _
  cases v.ks <;> simp
 simp only [X.v] at *
 rw [hk] at *
 have HC := Lib.hid fun w => isName_any v.nm w hsz
 try rw [HE.out] at HV
 clear h h1 h2 h3 h4 hk HE hsz
 generalize isNm v.nm = P at *
 generalize v.nm = nm at *
 generalize v.n = n at *
 generalize v.s = s at *
 generalize v.ks.length = kn at *
 generalize v.l.length = ln at *
 go_enter Tryz.func37, Tryz.ntmps37
 go_wp2_with fail
 go_quiet (fail)
 go_wp2_with fail
 all_goals
  refine (HC.out _).mono ?_
  rintro e w' ⟨rfl, rfl⟩
  go_wp2_with fail
 all_goals go_ret
 all_goals refine ⟨ret_bool ?_, (below_alloc w _).trans (below_drewN _ _ _)⟩
 all_goals rw [HV.out]
 all_goals have hTn := HTn.out
 all_goals have hTs := HTs.out
 all_goals clear hTn HTn
 all_goals simp_all
 all_goals exact beq_zero _
theorem hf_38 (v : V) (x : X) (w : World) (h : Is w v x) (hk : v.k = 38) (hsz : v.nm.size ≤ 4194304) : Calls Tryz.prog 37 #[x.v] w fun e w' => e = .returned (.bool (fields (ctch v) v)) ∧ Below w.heap.size w w' := by
 obtain ⟨ka, kc, la, lc, rfl, h1, h2, h3, h4⟩ := h.open
 have HV : Hid (fields (ctch v) v = (isNm v.nm && (decide (v.n = 0) && (decide (v.s.size = 0) && v.ks.isEmpty)))) := by
  show _ = _
  unfold fields
  rw [nm_38 hk]
  unfold numOk txOk nsOk
  rw [hk]
  rfl
 have HTn := Lib.hid (toList_nil v.nm)
 have HTs := Lib.hid (toList_nil v.s)
 have HE : Hid (v.ks.isEmpty = decide (v.ks.length = 0)) := by
  show _ = _
  cases v.ks <;> simp
 simp only [X.v] at *
 rw [hk] at *
 have HC := Lib.hid fun w => isName_any v.nm w hsz
 try rw [HE.out] at HV
 clear h h1 h2 h3 h4 hk HE hsz
 generalize isNm v.nm = P at *
 generalize v.nm = nm at *
 generalize v.n = n at *
 generalize v.s = s at *
 generalize v.ks.length = kn at *
 generalize v.l.length = ln at *
 go_enter Tryz.func37, Tryz.ntmps37
 go_wp2_with fail
 go_quiet (fail)
 go_wp2_with fail
 all_goals
  refine (HC.out _).mono ?_
  rintro e w' ⟨rfl, rfl⟩
  go_wp2_with fail
 all_goals go_ret
 all_goals refine ⟨ret_bool ?_, (below_alloc w _).trans (below_drewN _ _ _)⟩
 all_goals rw [HV.out]
 all_goals have hTn := HTn.out
 all_goals have hTs := HTs.out
 all_goals clear hTn HTn
 all_goals simp_all
 all_goals exact beq_zero _
theorem hf_11 (v : V) (x : X) (w : World) (h : Is w v x) (hk : v.k = 11) (hsz : v.nm.size ≤ 4194304) : Calls Tryz.prog 37 #[x.v] w fun e w' => e = .returned (.bool (fields (ctch v) v)) ∧ Below w.heap.size w w' := by
 obtain ⟨ka, kc, la, lc, rfl, h1, h2, h3, h4⟩ := h.open
 have HV : Hid (fields (ctch v) v = (isI (bl v.nm) && (decide (v.n = 0) && (decide (v.s.size = 0) && v.ks.isEmpty)))) := by
  show _ = _
  unfold fields
  rw [nm_11 hk]
  unfold numOk txOk nsOk
  rw [hk]
  rfl
 have HTn := Lib.hid (toList_nil v.nm)
 have HTs := Lib.hid (toList_nil v.s)
 have HE : Hid (v.ks.isEmpty = decide (v.ks.length = 0)) := by
  show _ = _
  cases v.ks <;> simp
 simp only [X.v] at *
 rw [hk] at *
 have HC := Lib.hid fun w => isIdent_any v.nm w (by omega)
 try rw [HE.out] at HV
 clear h h1 h2 h3 h4 hk HE hsz
 generalize isI (bl v.nm) = P at *
 generalize v.nm = nm at *
 generalize v.n = n at *
 generalize v.s = s at *
 generalize v.ks.length = kn at *
 generalize v.l.length = ln at *
 go_enter Tryz.func37, Tryz.ntmps37
 go_wp2_with fail
 go_quiet (fail)
 go_wp2_with fail
 all_goals
  refine (HC.out _).mono ?_
  rintro e w' ⟨rfl, rfl⟩
  go_wp2_with fail
 all_goals go_ret
 all_goals refine ⟨ret_bool ?_, (below_alloc w _).trans (below_drewN _ _ _)⟩
 all_goals rw [HV.out]
 all_goals have hTn := HTn.out
 all_goals have hTs := HTs.out
 all_goals clear hTn HTn
 all_goals simp_all
 all_goals exact beq_zero _
theorem hf_2 (v : V) (x : X) (w : World) (h : Is w v x) (hk : v.k = 2) (hsz : v.s.size ≤ 4194304) : Calls Tryz.prog 37 #[x.v] w fun e w' => e = .returned (.bool (fields (ctch v) v)) ∧ Below w.heap.size w w' := by
 obtain ⟨ka, kc, la, lc, rfl, h1, h2, h3, h4⟩ := h.open
 have HV : Hid (fields (ctch v) v = (decide (v.nm.size = 0) && (decide (v.n = 0) && (decide (v.s.size % 2 = 0) && v.ks.isEmpty)))) := by
  show _ = _
  unfold fields
  rw [nm_2 hk]
  unfold numOk txOk nsOk
  rw [hk]
  rfl
 have HTn := Lib.hid (toList_nil v.nm)
 have HTs := Lib.hid (toList_nil v.s)
 have HE : Hid (v.ks.isEmpty = decide (v.ks.length = 0)) := by
  show _ = _
  cases v.ks <;> simp
 simp only [X.v] at *
 rw [hk] at *
 have HC := Lib.hid fun w => check_any v.s w (by unfold maxLen; omega)
 try rw [HE.out] at HV
 clear h h1 h2 h3 h4 hk HE hsz
 generalize decide (v.s.size % 2 = 0) = P at *
 generalize v.nm = nm at *
 generalize v.n = n at *
 generalize v.s = s at *
 generalize v.ks.length = kn at *
 generalize v.l.length = ln at *
 go_enter Tryz.func37, Tryz.ntmps37
 go_wp2_with fail
 go_quiet (fail)
 go_wp2_with fail
 all_goals
  refine (HC.out _).mono ?_
  rintro e w' ⟨rfl, rfl⟩
  go_wp2_with fail
 all_goals go_ret
 all_goals refine ⟨ret_bool ?_, (below_alloc w _).trans (below_drewN _ _ _)⟩
 all_goals rw [HV.out]
 all_goals have hTn := HTn.out
 all_goals have hTs := HTs.out
 all_goals clear hTs HTs
 all_goals simp_all
 all_goals exact beq_zero _
theorem hf_9 (v : V) (x : X) (w : World) (h : Is w v x) (hk : v.k = 9) (hsz : v.s.size ≤ 4194304) : Calls Tryz.prog 37 #[x.v] w fun e w' => e = .returned (.bool (fields (ctch v) v)) ∧ Below w.heap.size w w' := by
 obtain ⟨ka, kc, la, lc, rfl, h1, h2, h3, h4⟩ := h.open
 have HV : Hid (fields (ctch v) v = (decide (v.nm.size = 0) && (decide (v.n = 0) && (decide (v.s.size % 2 = 0) && v.ks.isEmpty)))) := by
  show _ = _
  unfold fields
  rw [nm_9 hk]
  unfold numOk txOk nsOk
  rw [hk]
  rfl
 have HTn := Lib.hid (toList_nil v.nm)
 have HTs := Lib.hid (toList_nil v.s)
 have HE : Hid (v.ks.isEmpty = decide (v.ks.length = 0)) := by
  show _ = _
  cases v.ks <;> simp
 simp only [X.v] at *
 rw [hk] at *
 have HC := Lib.hid fun w => check_any v.s w (by unfold maxLen; omega)
 try rw [HE.out] at HV
 clear h h1 h2 h3 h4 hk HE hsz
 generalize decide (v.s.size % 2 = 0) = P at *
 generalize v.nm = nm at *
 generalize v.n = n at *
 generalize v.s = s at *
 generalize v.ks.length = kn at *
 generalize v.l.length = ln at *
 go_enter Tryz.func37, Tryz.ntmps37
 go_wp2_with fail
 go_quiet (fail)
 go_wp2_with fail
 all_goals
  refine (HC.out _).mono ?_
  rintro e w' ⟨rfl, rfl⟩
  go_wp2_with fail
 all_goals go_ret
 all_goals refine ⟨ret_bool ?_, (below_alloc w _).trans (below_drewN _ _ _)⟩
 all_goals rw [HV.out]
 all_goals have hTn := HTn.out
 all_goals have hTs := HTs.out
 all_goals clear hTs HTs
 all_goals simp_all
 all_goals exact beq_zero _
theorem hf_6 (v : V) (x : X) (w : World) (h : Is w v x) (hk : v.k = 6) : Calls Tryz.prog 37 #[x.v] w fun e w' => e = .returned (.bool (fields (ctch v) v)) ∧ Below w.heap.size w w' := by
 obtain ⟨ka, kc, la, lc, rfl, h1, h2, h3, h4⟩ := h.open
 have HV : Hid (fields (ctch v) v = (decide (v.nm.size = 0) && (decide (v.n = 0 ∨ v.n = 1) && (decide (v.s.size = 0) && v.ks.isEmpty)))) := by
  show _ = _
  unfold fields
  rw [nm_6 hk]
  unfold numOk txOk nsOk
  rw [hk]
  rfl
 have HTn := Lib.hid (toList_nil v.nm)
 have HTs := Lib.hid (toList_nil v.s)
 have HE : Hid (v.ks.isEmpty = decide (v.ks.length = 0)) := by
  show _ = _
  cases v.ks <;> simp
 simp only [X.v] at *
 rw [hk] at *
 have HC := Lib.hid fun w => isBit_any v.n w
 try rw [HE.out] at HV
 clear h h1 h2 h3 h4 hk HE
 generalize decide (v.n = 0 ∨ v.n = 1) = P at *
 generalize v.nm = nm at *
 generalize v.n = n at *
 generalize v.s = s at *
 generalize v.ks.length = kn at *
 generalize v.l.length = ln at *
 go_enter Tryz.func37, Tryz.ntmps37
 go_wp2_with fail
 go_quiet (fail)
 go_wp2_with fail
 all_goals
  refine (HC.out _).mono ?_
  rintro e w' ⟨rfl, rfl⟩
  go_wp2_with fail
 all_goals go_ret
 all_goals refine ⟨ret_bool ?_, (below_alloc w _).trans (below_drewN _ _ _)⟩
 all_goals rw [HV.out]
 all_goals have hTn := HTn.out
 all_goals have hTs := HTs.out
 all_goals simp_all
 all_goals exact beq_zero _
theorem hf_1 (v : V) (x : X) (w : World) (h : Is w v x) (hk : v.k = 1) : Calls Tryz.prog 37 #[x.v] w fun e w' => e = .returned (.bool (fields (ctch v) v)) ∧ Below w.heap.size w w' := by
 obtain ⟨ka, kc, la, lc, rfl, h1, h2, h3, h4⟩ := h.open
 have HV : Hid (fields (ctch v) v = (decide (v.nm.size = 0) && ((decide (0 ≤ v.n) && decide (v.n ≤ 9007199254740991)) && (decide (v.s.size = 0) && v.ks.isEmpty)))) := by
  show _ = _
  unfold fields
  rw [nm_1 hk]
  unfold numOk txOk nsOk
  rw [hk]
  simp only [if_true, Bool.decide_and]
  rfl
 have HTn := Lib.hid (toList_nil v.nm)
 have HTs := Lib.hid (toList_nil v.s)
 have HE : Hid (v.ks.isEmpty = decide (v.ks.length = 0)) := by
  show _ = _
  cases v.ks <;> simp
 simp only [X.v] at *
 rw [hk] at *
 try rw [HE.out] at HV
 clear h h1 h2 h3 h4 hk HE
 generalize v.nm = nm at *
 generalize v.n = n at *
 generalize v.s = s at *
 generalize v.ks.length = kn at *
 generalize v.l.length = ln at *
 go_enter Tryz.func37, Tryz.ntmps37
 go_wp2_with fail
 go_quiet (fail)
 go_wp2_with fail
 all_goals go_ret
 all_goals refine ⟨ret_bool ?_, (below_alloc w _).trans (below_drewN _ _ _)⟩
 all_goals rw [HV.out]
 all_goals have hTn := HTn.out
 all_goals have hTs := HTs.out
 all_goals simp_all
 all_goals first | exact beq_zero _ | (intros; omega)
theorem qadd {P : Program} {f : FuncId} {xs : Array Value} {w : World} {i j : Nat} {v : Value} (h : Calls P f xs (w.drewN (i + j)) fun e w' => e = .returned v ∧ w.drewN (i + j) = w') :
  Calls P f xs (w.drewN (i + j)) fun e w' => e = .returned v ∧ ∃ m, w' = w.drewN (i + m) := by
 refine h.mono ?_
 rintro e w' ⟨rfl, rfl⟩
 exact ⟨rfl, j, rfl⟩
theorem hf_31 (v : V) (x : X) (w : World) (h : Is w v x) (hk : v.k = 31) (hsz : v.nm.size ≤ 4194304) : Calls Tryz.prog 37 #[x.v] w fun e w' => e = .returned (.bool (fields (ctch v) v)) ∧ Below w.heap.size w w' := by
 obtain ⟨ka, kc, la, lc, rfl, h1, h2, h3, h4⟩ := h.open
 have HV : Hid (fields (ctch v) v = ((decide (v.nm.size = 0) || isNm v.nm) && (decide (v.n = 0) && (decide (v.s.size = 0) && v.ks.isEmpty)))) := by
  show _ = _
  unfold fields
  rw [nm_31 hk]
  unfold numOk txOk nsOk
  rw [hk]
  rfl
 have HTn := Lib.hid (toList_nil v.nm)
 have HTs := Lib.hid (toList_nil v.s)
 have HE : Hid (v.ks.isEmpty = decide (v.ks.length = 0)) := by
  show _ = _
  cases v.ks <;> simp
 simp only [X.v] at *
 rw [hk] at *
 have HC := Lib.hid fun w => isName_any v.nm w hsz
 try rw [HE.out] at HV
 clear h h1 h2 h3 h4 hk HE hsz
 generalize isNm v.nm = P at *
 generalize v.nm = nm at *
 generalize v.n = n at *
 generalize v.s = s at *
 generalize v.ks.length = kn at *
 generalize v.l.length = ln at *
 go_enter Tryz.func37, Tryz.ntmps37
 go_wp2_with fail
 go_quiet (fail)
 go_wp2_with fail
 all_goals first
  | (go_ret; refine ⟨ret_bool ?_, (below_alloc w _).trans (below_drewN _ _ _)⟩)
  | (refine (HC.out _).mono ?_
     rintro e w' ⟨rfl, rfl⟩
     go_wp2_with fail
     all_goals go_ret
     all_goals refine ⟨ret_bool ?_, (below_alloc w _).trans (below_drewN _ _ _)⟩)
 all_goals rw [HV.out]
 all_goals have hTn := HTn.out
 all_goals have hTs := HTs.out
 all_goals simp_all
 all_goals first | exact beq_zero _ | (intros; omega)
theorem hf_32 (v : V) (x : X) (w : World) (h : Is w v x) (hk : v.k = 32) (hsz : v.nm.size ≤ 4194304) : Calls Tryz.prog 37 #[x.v] w fun e w' => e = .returned (.bool (fields (ctch v) v)) ∧ Below w.heap.size w w' := by
 obtain ⟨ka, kc, la, lc, rfl, h1, h2, h3, h4⟩ := h.open
 have HV : Hid (fields (ctch v) v = ((decide (v.nm.size = 0) || isNm v.nm) && (decide (v.n = 0) && (decide (v.s.size = 0) && v.ks.isEmpty)))) := by
  show _ = _
  unfold fields
  rw [nm_32 hk]
  unfold numOk txOk nsOk
  rw [hk]
  rfl
 have HTn := Lib.hid (toList_nil v.nm)
 have HTs := Lib.hid (toList_nil v.s)
 have HE : Hid (v.ks.isEmpty = decide (v.ks.length = 0)) := by
  show _ = _
  cases v.ks <;> simp
 simp only [X.v] at *
 rw [hk] at *
 have HC := Lib.hid fun w => isName_any v.nm w hsz
 try rw [HE.out] at HV
 clear h h1 h2 h3 h4 hk HE hsz
 generalize isNm v.nm = P at *
 generalize v.nm = nm at *
 generalize v.n = n at *
 generalize v.s = s at *
 generalize v.ks.length = kn at *
 generalize v.l.length = ln at *
 go_enter Tryz.func37, Tryz.ntmps37
 go_wp2_with fail
 go_quiet (fail)
 go_wp2_with fail
 all_goals first
  | (go_ret; refine ⟨ret_bool ?_, (below_alloc w _).trans (below_drewN _ _ _)⟩)
  | (refine (HC.out _).mono ?_
     rintro e w' ⟨rfl, rfl⟩
     go_wp2_with fail
     all_goals go_ret
     all_goals refine ⟨ret_bool ?_, (below_alloc w _).trans (below_drewN _ _ _)⟩)
 all_goals rw [HV.out]
 all_goals have hTn := HTn.out
 all_goals have hTs := HTs.out
 all_goals simp_all
 all_goals first | exact beq_zero _ | (intros; omega)
theorem hf_15 (v : V) (x : X) (w : World) (h : Is w v x) (hk : v.k = 15) : Calls Tryz.prog 37 #[x.v] w fun e w' => e = .returned (.bool (fields (ctch v) v)) ∧ Below w.heap.size w w' := by
 obtain ⟨ka, kc, la, lc, rfl, h1, h2, h3, h4⟩ := h.open
 have HV : Hid (fields (ctch v) v = (opOk 15 (bl v.nm) && (decide (v.n = 0) && (decide (v.s.size = 0) && v.ks.isEmpty)))) := by
  show _ = _
  unfold fields
  rw [nm_15 hk]
  unfold numOk txOk nsOk
  rw [hk]
  rfl
 have HTn := Lib.hid (toList_nil v.nm)
 have HTs := Lib.hid (toList_nil v.s)
 have HE : Hid (v.ks.isEmpty = decide (v.ks.length = 0)) := by
  show _ = _
  cases v.ks <;> simp
 simp only [X.v] at *
 rw [hk] at *
 have HC := Lib.hid fun (x : X) (w : World) (h : x.k = 15) => oper_15 x w h
 simp only [X.v] at HC
 try rw [HE.out] at HV
 clear h h1 h2 h3 h4 hk HE
 generalize v.nm = nm at *
 generalize v.n = n at *
 generalize v.s = s at *
 generalize v.ks.length = kn at *
 generalize v.l.length = ln at *
 go_enter Tryz.func37, Tryz.ntmps37
 go_wp2_with fail
 go_quiet (fail)
 go_wp2_with fail
 refine (HC.out ⟨15, nm, n, s, ka, kn, kc, la, ln, lc⟩ _ rfl).mono ?_
 rintro e w' ⟨rfl, hb⟩
 have hb2 := ((below_alloc w _).trans (below_drewN _ _ _)).trans (hb.mono (by simp))
 clear hb
 generalize opOk 15 (bl nm) = P at *
 go_wp2_with fail
 all_goals go_ret
 all_goals refine ⟨ret_bool ?_, hb2⟩
 all_goals rw [HV.out]
 all_goals have hTn := HTn.out
 all_goals have hTs := HTs.out
 all_goals clear hTn HTn
 all_goals simp_all
 all_goals first | exact beq_zero _ | (intros; omega)
theorem hf_17 (v : V) (x : X) (w : World) (h : Is w v x) (hk : v.k = 17) : Calls Tryz.prog 37 #[x.v] w fun e w' => e = .returned (.bool (fields (ctch v) v)) ∧ Below w.heap.size w w' := by
 obtain ⟨ka, kc, la, lc, rfl, h1, h2, h3, h4⟩ := h.open
 have HV : Hid (fields (ctch v) v = (opOk 17 (bl v.nm) && (decide (v.n = 0) && (decide (v.s.size = 0) && v.ks.isEmpty)))) := by
  show _ = _
  unfold fields
  rw [nm_17 hk]
  unfold numOk txOk nsOk
  rw [hk]
  rfl
 have HTn := Lib.hid (toList_nil v.nm)
 have HTs := Lib.hid (toList_nil v.s)
 have HE : Hid (v.ks.isEmpty = decide (v.ks.length = 0)) := by
  show _ = _
  cases v.ks <;> simp
 simp only [X.v] at *
 rw [hk] at *
 have HC := Lib.hid fun (x : X) (w : World) (h : x.k = 17) => oper_17 x w h
 simp only [X.v] at HC
 try rw [HE.out] at HV
 clear h h1 h2 h3 h4 hk HE
 generalize v.nm = nm at *
 generalize v.n = n at *
 generalize v.s = s at *
 generalize v.ks.length = kn at *
 generalize v.l.length = ln at *
 go_enter Tryz.func37, Tryz.ntmps37
 go_wp2_with fail
 go_quiet (fail)
 go_wp2_with fail
 refine (HC.out ⟨17, nm, n, s, ka, kn, kc, la, ln, lc⟩ _ rfl).mono ?_
 rintro e w' ⟨rfl, hb⟩
 have hb2 := ((below_alloc w _).trans (below_drewN _ _ _)).trans (hb.mono (by simp))
 clear hb
 generalize opOk 17 (bl nm) = P at *
 go_wp2_with fail
 all_goals go_ret
 all_goals refine ⟨ret_bool ?_, hb2⟩
 all_goals rw [HV.out]
 all_goals have hTn := HTn.out
 all_goals have hTs := HTs.out
 all_goals clear hTn HTn
 all_goals simp_all
 all_goals first | exact beq_zero _ | (intros; omega)
theorem hf_18 (v : V) (x : X) (w : World) (h : Is w v x) (hk : v.k = 18) : Calls Tryz.prog 37 #[x.v] w fun e w' => e = .returned (.bool (fields (ctch v) v)) ∧ Below w.heap.size w w' := by
 obtain ⟨ka, kc, la, lc, rfl, h1, h2, h3, h4⟩ := h.open
 have HV : Hid (fields (ctch v) v = (opOk 18 (bl v.nm) && (decide (v.n = 0) && (decide (v.s.size = 0) && v.ks.isEmpty)))) := by
  show _ = _
  unfold fields
  rw [nm_18 hk]
  unfold numOk txOk nsOk
  rw [hk]
  rfl
 have HTn := Lib.hid (toList_nil v.nm)
 have HTs := Lib.hid (toList_nil v.s)
 have HE : Hid (v.ks.isEmpty = decide (v.ks.length = 0)) := by
  show _ = _
  cases v.ks <;> simp
 simp only [X.v] at *
 rw [hk] at *
 have HC := Lib.hid fun (x : X) (w : World) (h : x.k = 18) => oper_18 x w h
 simp only [X.v] at HC
 try rw [HE.out] at HV
 clear h h1 h2 h3 h4 hk HE
 generalize v.nm = nm at *
 generalize v.n = n at *
 generalize v.s = s at *
 generalize v.ks.length = kn at *
 generalize v.l.length = ln at *
 go_enter Tryz.func37, Tryz.ntmps37
 go_wp2_with fail
 go_quiet (fail)
 go_wp2_with fail
 refine (HC.out ⟨18, nm, n, s, ka, kn, kc, la, ln, lc⟩ _ rfl).mono ?_
 rintro e w' ⟨rfl, hb⟩
 have hb2 := ((below_alloc w _).trans (below_drewN _ _ _)).trans (hb.mono (by simp))
 clear hb
 generalize opOk 18 (bl nm) = P at *
 go_wp2_with fail
 all_goals go_ret
 all_goals refine ⟨ret_bool ?_, hb2⟩
 all_goals rw [HV.out]
 all_goals have hTn := HTn.out
 all_goals have hTs := HTs.out
 all_goals clear hTn HTn
 all_goals simp_all
 all_goals first | exact beq_zero _ | (intros; omega)
theorem hf_20 (v : V) (x : X) (w : World) (h : Is w v x) (hk : v.k = 20) : Calls Tryz.prog 37 #[x.v] w fun e w' => e = .returned (.bool (fields (ctch v) v)) ∧ Below w.heap.size w w' := by
 obtain ⟨ka, kc, la, lc, rfl, h1, h2, h3, h4⟩ := h.open
 have HV : Hid (fields (ctch v) v = (opOk 20 (bl v.nm) && (decide (v.n = 0) && (decide (v.s.size = 0) && v.ks.isEmpty)))) := by
  show _ = _
  unfold fields
  rw [nm_20 hk]
  unfold numOk txOk nsOk
  rw [hk]
  rfl
 have HTn := Lib.hid (toList_nil v.nm)
 have HTs := Lib.hid (toList_nil v.s)
 have HE : Hid (v.ks.isEmpty = decide (v.ks.length = 0)) := by
  show _ = _
  cases v.ks <;> simp
 simp only [X.v] at *
 rw [hk] at *
 have HC := Lib.hid fun (x : X) (w : World) (h : x.k = 20) => oper_20 x w h
 simp only [X.v] at HC
 try rw [HE.out] at HV
 clear h h1 h2 h3 h4 hk HE
 generalize v.nm = nm at *
 generalize v.n = n at *
 generalize v.s = s at *
 generalize v.ks.length = kn at *
 generalize v.l.length = ln at *
 go_enter Tryz.func37, Tryz.ntmps37
 go_wp2_with fail
 go_quiet (fail)
 go_wp2_with fail
 refine (HC.out ⟨20, nm, n, s, ka, kn, kc, la, ln, lc⟩ _ rfl).mono ?_
 rintro e w' ⟨rfl, hb⟩
 have hb2 := ((below_alloc w _).trans (below_drewN _ _ _)).trans (hb.mono (by simp))
 clear hb
 generalize opOk 20 (bl nm) = P at *
 go_wp2_with fail
 all_goals go_ret
 all_goals refine ⟨ret_bool ?_, hb2⟩
 all_goals rw [HV.out]
 all_goals have hTn := HTn.out
 all_goals have hTs := HTs.out
 all_goals clear hTn HTn
 all_goals simp_all
 all_goals first | exact beq_zero _ | (intros; omega)
theorem hf_39 (v : V) (x : X) (w : World) (h : Is w v x) (hk : v.k = 39) (hsz : v.nm.size ≤ 4194304) (hkl : v.ks.length ≤ 4194304) (hks : ∀ k ∈ v.ks, k.size ≤ 4194304) : Calls Tryz.prog 37 #[x.v] w fun e w' => e = .returned (.bool (fields (ctch v) v)) ∧ Below w.heap.size w w' := by
 obtain ⟨ka, kc, la, lc, rfl, h1, h2, h3, h4⟩ := h.open
 have HV : Hid (fields (ctch v) v = (isNm v.nm && (decide (v.n = 0) && (decide (v.s.size = 0) && v.ks.all isNm)))) := by
  show _ = _
  unfold fields
  rw [nm_39 hk]
  unfold numOk txOk nsOk
  rw [hk]
  rfl
 have HTn := Lib.hid (toList_nil v.nm)
 have HTs := Lib.hid (toList_nil v.s)
 have HE : Hid (v.ks.isEmpty = decide (v.ks.length = 0)) := by
  show _ = _
  cases v.ks <;> simp
 simp only [X.v] at *
 rw [hk] at *
 have HC := Lib.hid fun w => isName_any v.nm w hsz
 have HS := Lib.hid fun w' (hb : Below w.heap.size w w') => allS_any v.ks ka kc w' (StrsB.below h3 hb) hkl hks
 have HB := Lib.hid fun n m => (below_alloc w (.cells #[.int .i64 39, .string v.nm, .int .i64 v.n, .string v.s, .slice ka v.ks.length kc, .slice la v.l.length lc] 25)).trans (below_drewN w.heap.size _ (n + m))
 try rw [HE.out] at HV
 clear h h1 h2 h3 h4 hk HE hsz hkl hks
 generalize isNm v.nm = P at *
 generalize v.ks.all isNm = Q at *
 generalize v.nm = nm at *
 generalize v.n = n at *
 generalize v.s = s at *
 generalize v.ks.length = kn at *
 generalize v.l.length = ln at *
 go_enter Tryz.func37, Tryz.ntmps37
 go_wp2_with fail
 go_quiet (fail)
 go_wp2_with fail
 go_quiet (first | (go_at_call 52; exact qadd (HC.out _)) | (go_at_call 54; exact qadd (HS.out _ (HB.out _ _))))
 go_wp2_with fail
 all_goals go_ret
 all_goals refine ⟨ret_bool ?_, (below_alloc w _).trans (below_drewN _ _ _)⟩
 all_goals rw [HV.out]
 all_goals have hTn := HTn.out
 all_goals have hTs := HTs.out
 all_goals simp_all
 all_goals first | exact beq_zero _ | (intros; omega)
theorem hf_10a (v : V) (x : X) (w : World) (h : Is w v x) (hk : v.k = 10) (hz : v.nm.size = 0) (hkl : v.ks.length ≤ 4194304) (hks : ∀ k ∈ v.ks, k.size ≤ 4194304) : Calls Tryz.prog 37 #[x.v] w fun e w' => e = .returned (.bool (fields (ctch v) v)) ∧ Below w.heap.size w w' := by
 obtain ⟨ka, kc, la, lc, rfl, h1, h2, h3, h4⟩ := h.open
 have HV : Hid (fields (ctch v) v = ((decide (v.nm.size = 0) || isNm v.nm) && (decide (v.n = 0) && (decide (v.s.size = 0) && v.ks.all isNm)))) := by
  show _ = _
  unfold fields
  rw [nm_10 hk]
  unfold numOk txOk nsOk
  rw [hk]
  rfl
 have HTn := Lib.hid (toList_nil v.nm)
 have HTs := Lib.hid (toList_nil v.s)
 have HE : Hid (v.ks.isEmpty = decide (v.ks.length = 0)) := by
  show _ = _
  cases v.ks <;> simp
 simp only [X.v] at *
 rw [hk] at *
 have hE := (toList_nil v.nm).2 hz
 rw [hz] at HV
 have HS := Lib.hid fun w' (hb : Below w.heap.size w w') => allS_any v.ks ka kc w' (StrsB.below h3 hb) hkl hks
 have HB := Lib.hid fun n m => (below_alloc w (.cells #[.int .i64 10, .string v.nm, .int .i64 v.n, .string v.s, .slice ka v.ks.length kc, .slice la v.l.length lc] 25)).trans (below_drewN w.heap.size _ (n + m))
 try rw [HE.out] at HV
 clear h h1 h2 h3 h4 hk HE hz hkl hks
 generalize isNm v.nm = P at *
 generalize v.ks.all isNm = Q at *
 generalize v.nm = nm at *
 generalize v.n = n at *
 generalize v.s = s at *
 generalize v.ks.length = kn at *
 generalize v.l.length = ln at *
 go_enter Tryz.func37, Tryz.ntmps37
 go_wp2_with fail
 go_quiet (fail)
 go_wp2_with fail
 go_quiet (first | (go_at_call 54; exact qadd (HS.out _ (HB.out _ _))))
 go_wp2_with fail
 all_goals go_ret
 all_goals refine ⟨ret_bool ?_, (below_alloc w _).trans (below_drewN _ _ _)⟩
 all_goals rw [HV.out]
 all_goals have hTn := HTn.out
 all_goals have hTs := HTs.out
 all_goals simp_all
 all_goals first | exact beq_zero _ | (intros; omega)
theorem hf_10b (v : V) (x : X) (w : World) (h : Is w v x) (hk : v.k = 10) (hz : ¬ v.nm.size = 0) (hsz : v.nm.size ≤ 4194304) (hkl : v.ks.length ≤ 4194304) (hks : ∀ k ∈ v.ks, k.size ≤ 4194304) : Calls Tryz.prog 37 #[x.v] w fun e w' => e = .returned (.bool (fields (ctch v) v)) ∧ Below w.heap.size w w' := by
 obtain ⟨ka, kc, la, lc, rfl, h1, h2, h3, h4⟩ := h.open
 have HV : Hid (fields (ctch v) v = ((decide (v.nm.size = 0) || isNm v.nm) && (decide (v.n = 0) && (decide (v.s.size = 0) && v.ks.all isNm)))) := by
  show _ = _
  unfold fields
  rw [nm_10 hk]
  unfold numOk txOk nsOk
  rw [hk]
  rfl
 have HTn := Lib.hid (toList_nil v.nm)
 have HTs := Lib.hid (toList_nil v.s)
 have HE : Hid (v.ks.isEmpty = decide (v.ks.length = 0)) := by
  show _ = _
  cases v.ks <;> simp
 simp only [X.v] at *
 rw [hk] at *
 have HC := Lib.hid fun w => isName_any v.nm w hsz
 have HS := Lib.hid fun w' (hb : Below w.heap.size w w') => allS_any v.ks ka kc w' (StrsB.below h3 hb) hkl hks
 have HB := Lib.hid fun n m => (below_alloc w (.cells #[.int .i64 10, .string v.nm, .int .i64 v.n, .string v.s, .slice ka v.ks.length kc, .slice la v.l.length lc] 25)).trans (below_drewN w.heap.size _ (n + m))
 have hE : v.nm.toList.isEmpty = false := by rw [List.isEmpty_eq_false_iff]; exact fun e => hz ((toList_nil v.nm).1 e)
 rw [decide_eq_false hz, Bool.false_or] at HV
 try rw [HE.out] at HV
 clear h h1 h2 h3 h4 hk HE hz hsz hkl hks
 generalize isNm v.nm = P at *
 generalize v.ks.all isNm = Q at *
 generalize v.nm = nm at *
 generalize v.n = n at *
 generalize v.s = s at *
 generalize v.ks.length = kn at *
 generalize v.l.length = ln at *
 go_enter Tryz.func37, Tryz.ntmps37
 go_wp2_with fail
 go_quiet (fail)
 go_wp2_with fail
 go_quiet (first | (go_at_call 52; exact qadd (HC.out _)) | (go_at_call 54; exact qadd (HS.out _ (HB.out _ _))))
 go_wp2_with fail
 all_goals go_ret
 all_goals refine ⟨ret_bool ?_, (below_alloc w _).trans (below_drewN _ _ _)⟩
 all_goals rw [HV.out]
 all_goals have hTn := HTn.out
 all_goals have hTs := HTs.out
 all_goals simp_all
 all_goals first | exact beq_zero _ | (intros; omega)
theorem hf_35 (v : V) (x : X) (w : World) (h : Is w v x) (hk : v.k = 35) (hsz : v.nm.size ≤ 4194304) (hll : v.l.length ≤ 4194304) : Calls Tryz.prog 37 #[x.v] w fun e w' => e = .returned (.bool (fields (ctch v) v)) ∧ Below w.heap.size w w' := by
 obtain ⟨ka, kc, la, lc, rfl, h1, h2, h3, h4⟩ := h.open
 have HV : Hid (fields (ctch v) v = ((if ctch v then isNm v.nm else decide (v.nm.size = 0)) && (decide (v.n = 0) && (decide (v.s.size = 0) && v.ks.isEmpty)))) := by
  show _ = _
  unfold fields
  rw [nm_35 hk]
  unfold numOk txOk nsOk
  rw [hk]
  rfl
 have HTn := Lib.hid (toList_nil v.nm)
 have HTs := Lib.hid (toList_nil v.s)
 have HE : Hid (v.ks.isEmpty = decide (v.ks.length = 0)) := by
  show _ = _
  cases v.ks <;> simp
 simp only [X.v] at *
 rw [hk] at *
 have HC := Lib.hid fun w => isName_any v.nm w hsz
 have HK := Lib.hid fun w' (hb : Below w.heap.size w w') => catches_any v ⟨35, v.nm, v.n, v.s, ka, v.ks.length, kc, la, v.l.length, lc⟩ w' (h.below hb) hll
 simp only [X.v] at HK
 try rw [HE.out] at HV
 clear h h1 h2 h3 h4 hk HE hsz hll
 generalize isNm v.nm = P at *
 generalize ctch v = C at *
 generalize v.nm = nm at *
 generalize v.n = n at *
 generalize v.s = s at *
 generalize v.ks.length = kn at *
 generalize v.l.length = ln at *
 go_enter Tryz.func37, Tryz.ntmps37
 go_wp2_with fail
 go_quiet (fail)
 go_wp2_with fail
 refine (HK.out _ ((below_alloc w _).trans (below_drewN _ _ _))).mono ?_
 rintro e w' ⟨rfl, hb⟩
 have hb2 := ((below_alloc w _).trans (below_drewN _ _ _)).trans (hb.mono (by simp))
 have c1 : w'.cell? ⟨w.heap.size, 1, none⟩ = some (.string nm) := (hb.cell (p := ⟨w.heap.size, 1, none⟩) (by simp)).trans (by simp)
 clear hb HK
 cases C
 ·go_wp2_with fail
  all_goals go_ret
  all_goals refine ⟨ret_bool ?_, hb2⟩
  all_goals rw [HV.out]
  all_goals have hTn := HTn.out
  all_goals have hTs := HTs.out
  all_goals simp_all
  all_goals exact beq_zero _
 go_wp2_with fail
 refine (HC.out _).mono ?_
 rintro e w' ⟨rfl, rfl⟩
 go_wp2_with fail
 all_goals go_ret
 all_goals refine ⟨ret_bool ?_, hb2⟩
 all_goals rw [HV.out]
 all_goals have hTn := HTn.out
 all_goals have hTs := HTs.out
 all_goals simp_all
 all_goals first | exact beq_zero _ | (intros; omega)
theorem hf_16 (v : V) (x : X) (w : World) (h : Is w v x) (hk : v.k = 16) : Calls Tryz.prog 37 #[x.v] w fun e w' => e = .returned (.bool (fields (ctch v) v)) ∧ Below w.heap.size w w' := by
 obtain ⟨ka, kc, la, lc, rfl, h1, h2, h3, h4⟩ := h.open
 have HV : Hid (fields (ctch v) v = (opOk 16 (bl v.nm) && (decide (v.n = 0 ∨ v.n = 1) && (decide (v.s.size = 0) && v.ks.isEmpty)))) := by
  show _ = _
  unfold fields
  rw [nm_16 hk]
  unfold numOk txOk nsOk
  rw [hk]
  rfl
 have HTn := Lib.hid (toList_nil v.nm)
 have HTs := Lib.hid (toList_nil v.s)
 have HE : Hid (v.ks.isEmpty = decide (v.ks.length = 0)) := by
  show _ = _
  cases v.ks <;> simp
 simp only [X.v] at *
 rw [hk] at *
 have HC := Lib.hid fun (x : X) (w : World) (h : x.k = 16) => oper_16 x w h
 have HQ := Lib.hid fun w => isBit_any v.n w
 simp only [X.v] at HC
 have HA : Hid (∀ n, At ((w.alloc (.cells #[.int .i64 16, .string v.nm, .int .i64 v.n, .string v.s, .slice ka v.ks.length kc, .slice la v.l.length lc] 25)).drewN n) w.heap.size 0 ⟨16, v.nm, v.n, v.s, ka, v.ks.length, kc, la, v.l.length, lc⟩) := by
  intro n
  constructor <;> simp
 have HB := Lib.hid fun n => (below_alloc w (.cells #[.int .i64 16, .string v.nm, .int .i64 v.n, .string v.s, .slice ka v.ks.length kc, .slice la v.l.length lc] 25)).trans (below_drewN w.heap.size _ n)
 try rw [HE.out] at HV
 clear h h1 h2 h3 h4 hk HE
 generalize decide (v.n = 0 ∨ v.n = 1) = Q at *
 generalize v.nm = nm at *
 generalize v.n = n at *
 generalize v.s = s at *
 generalize v.ks.length = kn at *
 generalize v.l.length = ln at *
 go_enter Tryz.func37, Tryz.ntmps37
 go_wp2_with fail
 go_quiet (fail)
 go_wp2_with fail
 have hA := HA.out nq
 have hB := HB.out nq
 have hz : w.heap.size < (World.drewN (World.alloc w (.cells #[.int .i64 16, .string nm, .int .i64 n, .string s, .slice ka kn kc, .slice la ln lc] 25)) nq).heap.size := by simp
 clear HA HB
 generalize World.drewN (World.alloc w (.cells #[.int .i64 16, .string nm, .int .i64 n, .string s, .slice ka kn kc, .slice la ln lc] 25)) nq = wd at *
 have HAt := Lib.hid hA
 have HBt := Lib.hid hB
 obtain ⟨c0, c1, c2, c3, c4, c5⟩ := (hA).six
 clear hB
 go_region_held3 (fun w' => w'.cell? ⟨w.heap.size, 0, none⟩ = some (.int .i64 16) ∧ w'.cell? ⟨w.heap.size, 0 + 1, none⟩ = some (.string nm) ∧ w'.cell? ⟨w.heap.size, 0 + 2, none⟩ = some (.int .i64 n) ∧ w'.cell? ⟨w.heap.size, 0 + 3, none⟩ = some (.string s) ∧ w'.cell? ⟨w.heap.size, 0 + 4, none⟩ = some (.slice ka kn kc) ∧ w'.cell? ⟨w.heap.size, 0 + 5, none⟩ = some (.slice la ln lc)) (first | go_keep)
  ((first
   | (go_at_call 50; refine (HQ.out _).mono ?_; rintro e w2 ⟨rfl, rfl⟩)
   | (go_at_call 56; refine (HC.out ⟨16, nm, n, s, ka, kn, kc, la, ln, lc⟩ _ rfl).mono ?_; rintro e w2 ⟨rfl, hb⟩; have hb' : Below wd.heap.size wd w2 := (by first | exact hb | exact (Below.refl _ _).drew.trans hb | exact (below_drewN _ _ _).trans hb); have hB2 := HBt.out.trans (hb'.mono HBt.out.size); obtain ⟨d0, d1, d2, d3, d4, d5⟩ := HAt.out.below hz hb'; dsimp only at d0 d1 d2 d3 d4 d5)))
 all_goals clear d0 d1 d2 d3 d4 d5 c0 c1 c2 c3 c4 c5
 all_goals generalize opOk 16 (bl nm) = P at *
 all_goals go_wp2_with fail
 all_goals go_ret
 all_goals refine ⟨ret_bool ?_, hB2⟩
 all_goals rw [HV.out]
 all_goals have hTn := HTn.out
 all_goals have hTs := HTs.out
 all_goals clear hTn HTn
 all_goals simp_all
 all_goals first | exact beq_zero _ | (intros; omega)
def Small (v : V) : Prop := v.nm.size ≤ 4194304 ∧ v.s.size ≤ 4194304 ∧ v.ks.length ≤ 4194304 ∧ (∀ k ∈ v.ks, k.size ≤ 4194304) ∧ v.l.length ≤ 4194304
theorem hasFields_any (v : V) (x : X) (w : World) (h : Is w v x) (hs : Small v) : Calls Tryz.prog 37 #[x.v] w fun e w' => e = .returned (.bool (fields (ctch v) v)) ∧ Below w.heap.size w w' := by
 obtain ⟨s1, s2, s3, s4, s5⟩ := hs
 by_cases h1 : v.k = 1
 ·exact hf_1 v x w h h1
 by_cases h6 : v.k = 6
 ·exact hf_6 v x w h h6
 by_cases h2 : v.k = 2
 ·exact hf_2 v x w h h2 s2
 by_cases h9 : v.k = 9
 ·exact hf_9 v x w h h9 s2
 by_cases h3 : v.k = 3
 ·exact hf_3 v x w h h3 s1
 by_cases h23 : v.k = 23
 ·exact hf_23 v x w h h23 s1
 by_cases h38 : v.k = 38
 ·exact hf_38 v x w h h38 s1
 by_cases h11 : v.k = 11
 ·exact hf_11 v x w h h11 s1
 by_cases h31 : v.k = 31
 ·exact hf_31 v x w h h31 s1
 by_cases h32 : v.k = 32
 ·exact hf_32 v x w h h32 s1
 by_cases h10 : v.k = 10
 ·by_cases hz : v.nm.size = 0
  ·exact hf_10a v x w h h10 hz s3 s4
  ·exact hf_10b v x w h h10 hz s1 s3 s4
 by_cases h39 : v.k = 39
 ·exact hf_39 v x w h h39 s1 s3 s4
 by_cases h35 : v.k = 35
 ·exact hf_35 v x w h h35 s1 s5
 by_cases h16 : v.k = 16
 ·exact hf_16 v x w h h16
 by_cases h15 : v.k = 15
 ·exact hf_15 v x w h h15
 by_cases h17 : v.k = 17
 ·exact hf_17 v x w h h17
 by_cases h18 : v.k = 18
 ·exact hf_18 v x w h h18
 by_cases h20 : v.k = 20
 ·exact hf_20 v x w h h20
 exact hf_x v x w h (by simp only [h1, h6, h2, h9, h3, h23, h38, h11, h31, h32, h10, h39, h35, h16, h15, h17, h18, h20, not_false_eq_true, and_self])
theorem isTk_eq (v : V) : isTk v = (isTg v || (isK 22 v && match v.l with | [d] => d.l.isEmpty | _ => false)) := rfl
theorem isTaker_any (v : V) (x : X) (w : World) (h : Is w v x) (hlen : v.l.length ≤ 4194304) : Calls Tryz.prog 66 #[x.v] w fun e w' => e = .returned (.bool (isTk v)) ∧ Below w.heap.size w w' := by
 obtain ⟨ka, kc, la, lc, rfl, h1, h2, h3, h4⟩ := h.open
 have HC := Lib.hid fun w' (hb : Below w.heap.size w w') => isTarget_any v _ w' (Is.below hb _ _ h)
 have HV : Hid (isTk v = (isTg v || (isK 22 v && match v.l with | [d] => d.l.isEmpty | _ => false))) := Lib.hid rfl
 have HK : Hid (isK 22 v = decide (v.k = 22)) := Lib.hid rfl
 simp only [X.v] at HC ⊢
 have HB := Lib.hid (below_alloc w (.cells #[.int .i64 v.k, .string v.nm, .int .i64 v.n, .string v.s, .slice ka v.ks.length kc, .slice la v.l.length lc] 25))
 clear h h1 h3
 cases hP : isTg v with
 | true =>
  rw [hP] at HV HC
  clear hP h2 h4 HK hlen
  generalize v.nm = nm at *
  generalize v.n = n at *
  generalize v.s = s at *
  generalize v.ks.length = kn at *
  generalize v.k = k at *
  generalize v.l.length = ln at *
  go_enter Tryz.func66, Tryz.ntmps66
  go_wp2_with fail
  refine (HC.out _ HB.out).mono ?_
  rintro e w' ⟨rfl, hb⟩
  have hb2 := HB.out.trans (hb.mono (by simp))
  clear hb
  go_wp2_with fail
  go_ret
  exact ⟨by rw [HV.out]; rfl, hb2⟩
 | false =>
  rw [hP] at HV HC
  clear hP
  by_cases h22 : v.k = 22
  ·rw [HK.out, decide_eq_true h22] at HV
   rw [h22] at HC HB ⊢
   clear HK h22
   by_cases hone : v.l.length = 1
   ·obtain ⟨d, hl⟩ : ∃ d, v.l = [d] := by
     rcases hl : v.l with _ | ⟨d, _ | ⟨c, r⟩⟩
     ·rw [hl] at hone; cases hone
     ·exact ⟨d, rfl⟩
     ·rw [hl] at hone; simp at hone
    rw [hl] at h4 HV
    dsimp only at HV
    obtain ⟨g, o, y, rfl, hg, hy, hya, _⟩ := h4.cons
    have hyc := hy.below hg HB.out
    obtain ⟨yka, ykc, yla, ylc, rfl, _, _, _, _⟩ := hya.open
    obtain ⟨c0, c1, c2, c3, c4, c5⟩ := (hyc).six
    generalize v.l.length = ln at *
    subst hone
    cases hdl : d.l with
    | nil =>
     rw [hdl] at HV c5
     rw [List.length_nil] at c5
     clear h2 h4 hy hya hl hlen hdl
     generalize v.nm = nm at *
     generalize v.n = n at *
     generalize v.s = s at *
     generalize v.ks.length = kn at *
     go_enter Tryz.func66, Tryz.ntmps66
     go_wp2_with fail
     refine (HC.out _ HB.out).mono ?_
     rintro e w' ⟨rfl, hb⟩
     have hb2 := HB.out.trans (hb.mono (by simp))
     have hbx : ∀ j, w'.cell? ⟨w.heap.size, j, none⟩ = (w.alloc (.cells #[.int .i64 22, .string nm, .int .i64 n, .string s, .slice ka kn kc, .slice (some ⟨g, o, none⟩) 1 lc] 25)).cell? ⟨w.heap.size, j, none⟩ := fun j => hb.cell (p := ⟨w.heap.size, j, none⟩) (by simp)
     have e0 := hbx 0
     have e1 := hbx 1
     have e2 := hbx 2
     have e3 := hbx 3
     have e4 := hbx 4
     have e5 := hbx 5
     simp at e0 e1 e2 e3 e4 e5
     clear hbx
     have d5 := (hb.cell (p := ⟨g, o + 5, none⟩) (by simp; exact Nat.lt_succ_of_lt (by assumption))).trans c5
     clear hb c0 c1 c2 c3 c4 c5
     go_wp2_with fail
     go_ret
     exact ⟨by rw [HV.out]; rfl, hb2⟩
    | cons c r =>
     rw [hdl] at HV c5
     have hd0 : ((((c :: r : List V).length : Nat) : Int) == 0) = false := by rw [beq_eq_false_iff_ne]; simp only [List.length_cons]; omega
     generalize (c :: r : List V).length = dn at *
     clear h2 h4 hy hya hl hlen hdl
     generalize v.nm = nm at *
     generalize v.n = n at *
     generalize v.s = s at *
     generalize v.ks.length = kn at *
     go_enter Tryz.func66, Tryz.ntmps66
     go_wp2_with fail
     refine (HC.out _ HB.out).mono ?_
     rintro e w' ⟨rfl, hb⟩
     have hb2 := HB.out.trans (hb.mono (by simp))
     have hbx : ∀ j, w'.cell? ⟨w.heap.size, j, none⟩ = (w.alloc (.cells #[.int .i64 22, .string nm, .int .i64 n, .string s, .slice ka kn kc, .slice (some ⟨g, o, none⟩) 1 lc] 25)).cell? ⟨w.heap.size, j, none⟩ := fun j => hb.cell (p := ⟨w.heap.size, j, none⟩) (by simp)
     have e0 := hbx 0
     have e1 := hbx 1
     have e2 := hbx 2
     have e3 := hbx 3
     have e4 := hbx 4
     have e5 := hbx 5
     simp at e0 e1 e2 e3 e4 e5
     clear hbx
     have d5 := (hb.cell (p := ⟨g, o + 5, none⟩) (by simp; exact Nat.lt_succ_of_lt (by assumption))).trans c5
     clear hb c0 c1 c2 c3 c4 c5
     go_wp2_with fail
     go_ret
     exact ⟨by rw [HV.out]; rfl, hb2⟩
   ·have hb1 : ((v.l.length : Int) == 1) = false := by rw [beq_eq_false_iff_ne]; omega
    have HV2 : Hid (isTk v = false) := by
     show _ = _
     rw [HV.out]
     rcases hl : v.l with _ | ⟨d, _ | ⟨c, r⟩⟩
     ·rfl
     ·rw [hl] at hone; simp at hone
     ·rfl
    clear HV
    rename Hid (isTk v = false) => HV
    clear h2 h4 hlen hone
    generalize v.nm = nm at *
    generalize v.n = n at *
    generalize v.s = s at *
    generalize v.ks.length = kn at *
    generalize v.l.length = ln at *
    go_enter Tryz.func66, Tryz.ntmps66
    go_wp2_with fail
    refine (HC.out _ HB.out).mono ?_
    rintro e w' ⟨rfl, hb⟩
    have hb2 := HB.out.trans (hb.mono (by simp))
    have hbx : ∀ j, w'.cell? ⟨w.heap.size, j, none⟩ = (w.alloc (.cells #[.int .i64 22, .string nm, .int .i64 n, .string s, .slice ka kn kc, .slice la ln lc] 25)).cell? ⟨w.heap.size, j, none⟩ := fun j => hb.cell (p := ⟨w.heap.size, j, none⟩) (by simp)
    have c0 := hbx 0
    have c1 := hbx 1
    have c2 := hbx 2
    have c3 := hbx 3
    have c4 := hbx 4
    have c5 := hbx 5
    simp at c0 c1 c2 c3 c4 c5
    clear hbx
    clear hb
    go_wp2_with fail
    go_ret
    exact ⟨by rw [HV.out]; rfl, hb2⟩
 
  ·rw [HK.out, decide_eq_false h22, Bool.false_and] at HV
   have hb22 : (v.k == 22) = false := by rw [beq_eq_false_iff_ne]; exact h22
   clear HK h22 h2 h4 hlen
   generalize v.nm = nm at *
   generalize v.n = n at *
   generalize v.s = s at *
   generalize v.ks.length = kn at *
   generalize v.k = k at *
   generalize v.l.length = ln at *
   go_enter Tryz.func66, Tryz.ntmps66
   go_wp2_with fail
   refine (HC.out _ HB.out).mono ?_
   rintro e w' ⟨rfl, hb⟩
   have hb2 := HB.out.trans (hb.mono (by simp))
   have hbx : ∀ j, w'.cell? ⟨w.heap.size, j, none⟩ = (w.alloc (.cells #[.int .i64 k, .string nm, .int .i64 n, .string s, .slice ka kn kc, .slice la ln lc] 25)).cell? ⟨w.heap.size, j, none⟩ := fun j => hb.cell (p := ⟨w.heap.size, j, none⟩) (by simp)
   have c0 := hbx 0
   have c1 := hbx 1
   have c2 := hbx 2
   have c3 := hbx 3
   have c4 := hbx 4
   have c5 := hbx 5
   simp at c0 c1 c2 c3 c4 c5
   clear hbx
   clear hb
   go_wp2_with fail
   go_ret
   exact ⟨by rw [HV.out]; rfl, hb2⟩
theorem ent_isStatement : Ent 57 := enters_of Tryz.func57 (by kernel_rfl) rfl
theorem on_isStatement (l : List V) : PredB 57 isSt l := isStatement_any.on l
theorem ent_isExpr : Ent 58 := enters_of Tryz.func58 (by kernel_rfl) rfl
theorem on_isExpr (l : List V) : PredB 58 isE l := isExpr_any.on l
theorem ent_isProp : Ent 59 := enters_of Tryz.func59 (by kernel_rfl) rfl
theorem on_isProp (l : List V) : PredB 59 (isK 9) l := isProp_any.on l
theorem ent_isDecl : Ent 61 := enters_of Tryz.func61 (by kernel_rfl) rfl
theorem on_isDecl (l : List V) : PredB 61 (isK 23) l := isDecl_any.on l
theorem ent_isInner : Ent 62 := enters_of Tryz.func62 (by kernel_rfl) rfl
theorem on_isInner (l : List V) : PredB 62 isIn l := isInner_any.on l
theorem ent_isBlock : Ent 63 := enters_of Tryz.func63 (by kernel_rfl) rfl
theorem on_isBlock (l : List V) : PredB 63 (isK 25) l := isBlock_any.on l
theorem ent_isBeginning : Ent 64 := enters_of Tryz.func64 (by kernel_rfl) rfl
theorem on_isBeginning (l : List V) : PredB 64 isBg l := isBeginning_any.on l
theorem ent_isExprOrEmpty : Ent 65 := enters_of Tryz.func65 (by kernel_rfl) rfl
theorem on_isExprOrEmpty (l : List V) : PredB 65 isEO l := isExprOrEmpty_any.on l
theorem ent_isBlockOrEmpty : Ent 67 := enters_of Tryz.func67 (by kernel_rfl) rfl
theorem on_isBlockOrEmpty (l : List V) : PredB 67 isBO l := isBlockOrEmpty_any.on l
theorem ent_isCase : Ent 68 := enters_of Tryz.func68 (by kernel_rfl) rfl
theorem on_isCase (l : List V) : PredB 68 (isK 37) l := isCase_any.on l
theorem ent_IsTarget : Ent 19 := enters_of Tryz.func19 (by kernel_rfl) rfl
theorem on_IsTarget (l : List V) : PredB 19 isTg l := isTarget_any.on l
theorem ent_isTaker : Ent 66 := enters_of Tryz.func66 (by kernel_rfl) rfl
theorem on_isTaker (l : List V) (h : ∀ u ∈ l, u.l.length ≤ 4194304) : PredB 66 isTk l := fun v hv x w hx => isTaker_any v x w hx (h v hv)
theorem ent_isDefault : Ent 69 := enters_of Tryz.func69 (by kernel_rfl) rfl
theorem on_isDefault (l : List V) (h : ∀ u ∈ l, u.l.length ≤ 4194304) : PredB 69 isDf l := fun v hv x w hx => isDefault_any v x w hx (h v hv)
theorem areC1 {fa : Nat} {pa : V → Bool} {l : List V} (ea : Ent fa) (ha : PredB fa pa l) {A : Option Addr} {c g : Nat} {w : World} (hg : g < w.heap.size) (c0 : w.cell? ⟨g, 0, none⟩ = some (.func (.func fa) #[] #[])) (hR : Row w A l) (hlen : l.length ≤ 4194304) :
  Calls Tryz.prog 60 #[.slice A l.length c, .slice (some ⟨g, 0, none⟩) 1 1] w fun e w' => e = .returned (.bool (are [pa] l)) ∧ Below w.heap.size w w' :=
 are_any [(fa, pa)] l (by
  intro q hq
  simp only [List.mem_cons, List.not_mem_nil, or_false] at hq
  rcases hq with rfl
  ·exact ⟨ea, ha⟩) A c g 1 1 w rfl rfl hg (by
  intro j hj
  match j, hj with
  | 0, _ => exact c0
  | j + 1, hj => exact absurd hj (by simp)) hR hlen (by simp)
theorem areC2 {fa : Nat} {pa : V → Bool} {fb : Nat} {pb : V → Bool} {l : List V} (ea : Ent fa) (ha : PredB fa pa l) (eb : Ent fb) (hb : PredB fb pb l) {A : Option Addr} {c g : Nat} {w : World} (hg : g < w.heap.size) (c0 : w.cell? ⟨g, 0, none⟩ = some (.func (.func fa) #[] #[])) (c1 : w.cell? ⟨g, 1, none⟩ = some (.func (.func fb) #[] #[])) (hR : Row w A l) (hlen : l.length ≤ 4194304) :
  Calls Tryz.prog 60 #[.slice A l.length c, .slice (some ⟨g, 0, none⟩) 2 2] w fun e w' => e = .returned (.bool (are [pa, pb] l)) ∧ Below w.heap.size w w' :=
 are_any [(fa, pa), (fb, pb)] l (by
  intro q hq
  simp only [List.mem_cons, List.not_mem_nil, or_false] at hq
  rcases hq with rfl | rfl
  ·exact ⟨ea, ha⟩
  ·exact ⟨eb, hb⟩) A c g 2 2 w rfl rfl hg (by
  intro j hj
  match j, hj with
  | 0, _ => exact c0
  | 1, _ => exact c1
  | j + 2, hj => exact absurd hj (by simp)) hR hlen (by simp)
theorem areC3 {fa : Nat} {pa : V → Bool} {fb : Nat} {pb : V → Bool} {fc : Nat} {pc : V → Bool} {l : List V} (ea : Ent fa) (ha : PredB fa pa l) (eb : Ent fb) (hb : PredB fb pb l) (ec : Ent fc) (hc : PredB fc pc l) {A : Option Addr} {c g : Nat} {w : World} (hg : g < w.heap.size) (c0 : w.cell? ⟨g, 0, none⟩ = some (.func (.func fa) #[] #[])) (c1 : w.cell? ⟨g, 1, none⟩ = some (.func (.func fb) #[] #[])) (c2 : w.cell? ⟨g, 2, none⟩ = some (.func (.func fc) #[] #[])) (hR : Row w A l) (hlen : l.length ≤ 4194304) :
  Calls Tryz.prog 60 #[.slice A l.length c, .slice (some ⟨g, 0, none⟩) 3 3] w fun e w' => e = .returned (.bool (are [pa, pb, pc] l)) ∧ Below w.heap.size w w' :=
 are_any [(fa, pa), (fb, pb), (fc, pc)] l (by
  intro q hq
  simp only [List.mem_cons, List.not_mem_nil, or_false] at hq
  rcases hq with rfl | rfl | rfl
  ·exact ⟨ea, ha⟩
  ·exact ⟨eb, hb⟩
  ·exact ⟨ec, hc⟩) A c g 3 3 w rfl rfl hg (by
  intro j hj
  match j, hj with
  | 0, _ => exact c0
  | 1, _ => exact c1
  | 2, _ => exact c2
  | j + 3, hj => exact absurd hj (by simp)) hR hlen (by simp)
theorem areC4 {fa : Nat} {pa : V → Bool} {fb : Nat} {pb : V → Bool} {fc : Nat} {pc : V → Bool} {fd : Nat} {pd : V → Bool} {l : List V} (ea : Ent fa) (ha : PredB fa pa l) (eb : Ent fb) (hb : PredB fb pb l) (ec : Ent fc) (hc : PredB fc pc l) (ed : Ent fd) (hd : PredB fd pd l) {A : Option Addr} {c g : Nat} {w : World} (hg : g < w.heap.size) (c0 : w.cell? ⟨g, 0, none⟩ = some (.func (.func fa) #[] #[])) (c1 : w.cell? ⟨g, 1, none⟩ = some (.func (.func fb) #[] #[])) (c2 : w.cell? ⟨g, 2, none⟩ = some (.func (.func fc) #[] #[])) (c3 : w.cell? ⟨g, 3, none⟩ = some (.func (.func fd) #[] #[])) (hR : Row w A l) (hlen : l.length ≤ 4194304) :
  Calls Tryz.prog 60 #[.slice A l.length c, .slice (some ⟨g, 0, none⟩) 4 4] w fun e w' => e = .returned (.bool (are [pa, pb, pc, pd] l)) ∧ Below w.heap.size w w' :=
 are_any [(fa, pa), (fb, pb), (fc, pc), (fd, pd)] l (by
  intro q hq
  simp only [List.mem_cons, List.not_mem_nil, or_false] at hq
  rcases hq with rfl | rfl | rfl | rfl
  ·exact ⟨ea, ha⟩
  ·exact ⟨eb, hb⟩
  ·exact ⟨ec, hc⟩
  ·exact ⟨ed, hd⟩) A c g 4 4 w rfl rfl hg (by
  intro j hj
  match j, hj with
  | 0, _ => exact c0
  | 1, _ => exact c1
  | 2, _ => exact c2
  | 3, _ => exact c3
  | j + 4, hj => exact absurd hj (by simp)) hR hlen (by simp)
theorem below_alloc_le {B : Nat} {w : World} (h : B ≤ w.heap.size) (o : Obj) : Below B w (w.alloc o) := (below_alloc w o).mono h
theorem hc_10 (v : V) (x : X) (w : World) (h : Is w v x) (hk : v.k = 10) (hl : v.l.length ≤ 4194304) : Calls Tryz.prog 38 #[x.v] w fun e w' => e = .returned (.bool (kids v)) ∧ Below w.heap.size w w' := by
 obtain ⟨ka, kc, la, lc, rfl, h1, h2, h3, h4⟩ := h.open
 have HC := Lib.hid fun w' (hb : Below w.heap.size w w') => all_any _ isSt ent_isStatement v.l (on_isStatement v.l) la lc w' (h4.below hb) hl
 rw [kids_10 hk]
 have HB := Lib.hid (below_alloc w (.cells #[.int .i64 10, .string v.nm, .int .i64 v.n, .string v.s, .slice ka v.ks.length kc, .slice la v.l.length lc] 25))
 simp only [X.v]
 rw [hk]
 clear h h1 h2 h3 h4 hk hl
 generalize v.l.all isSt = Q at *
 generalize v.nm = nm at *
 generalize v.n = n at *
 generalize v.s = s at *
 generalize v.ks.length = kn at *
 generalize v.l.length = ln at *
 go_enter Tryz.func38, Tryz.ntmps38
 go_wp2_with fail
 refine (HC.out _ HB.out).mono ?_
 rintro e w' ⟨rfl, hb⟩
 have hb2 := HB.out.trans (hb.mono HB.out.size)
 clear hb
 go_wp2_with fail
 go_ret
 exact ⟨rfl, hb2⟩
theorem hc_39 (v : V) (x : X) (w : World) (h : Is w v x) (hk : v.k = 39) (hl : v.l.length ≤ 4194304) : Calls Tryz.prog 38 #[x.v] w fun e w' => e = .returned (.bool (kids v)) ∧ Below w.heap.size w w' := by
 obtain ⟨ka, kc, la, lc, rfl, h1, h2, h3, h4⟩ := h.open
 have HC := Lib.hid fun w' (hb : Below w.heap.size w w') => all_any _ isSt ent_isStatement v.l (on_isStatement v.l) la lc w' (h4.below hb) hl
 rw [kids_39 hk]
 have HB := Lib.hid (below_alloc w (.cells #[.int .i64 39, .string v.nm, .int .i64 v.n, .string v.s, .slice ka v.ks.length kc, .slice la v.l.length lc] 25))
 simp only [X.v]
 rw [hk]
 clear h h1 h2 h3 h4 hk hl
 generalize v.l.all isSt = Q at *
 generalize v.nm = nm at *
 generalize v.n = n at *
 generalize v.s = s at *
 generalize v.ks.length = kn at *
 generalize v.l.length = ln at *
 go_enter Tryz.func38, Tryz.ntmps38
 go_wp2_with fail
 refine (HC.out _ HB.out).mono ?_
 rintro e w' ⟨rfl, hb⟩
 have hb2 := HB.out.trans (hb.mono HB.out.size)
 clear hb
 go_wp2_with fail
 go_ret
 exact ⟨rfl, hb2⟩
theorem hc_41 (v : V) (x : X) (w : World) (h : Is w v x) (hk : v.k = 41) (hl : v.l.length ≤ 4194304) : Calls Tryz.prog 38 #[x.v] w fun e w' => e = .returned (.bool (kids v)) ∧ Below w.heap.size w w' := by
 obtain ⟨ka, kc, la, lc, rfl, h1, h2, h3, h4⟩ := h.open
 have HC := Lib.hid fun w' (hb : Below w.heap.size w w') => all_any _ isSt ent_isStatement v.l (on_isStatement v.l) la lc w' (h4.below hb) hl
 rw [kids_41 hk]
 have HB := Lib.hid (below_alloc w (.cells #[.int .i64 41, .string v.nm, .int .i64 v.n, .string v.s, .slice ka v.ks.length kc, .slice la v.l.length lc] 25))
 simp only [X.v]
 rw [hk]
 clear h h1 h2 h3 h4 hk hl
 generalize v.l.all isSt = Q at *
 generalize v.nm = nm at *
 generalize v.n = n at *
 generalize v.s = s at *
 generalize v.ks.length = kn at *
 generalize v.l.length = ln at *
 go_enter Tryz.func38, Tryz.ntmps38
 go_wp2_with fail
 refine (HC.out _ HB.out).mono ?_
 rintro e w' ⟨rfl, hb⟩
 have hb2 := HB.out.trans (hb.mono HB.out.size)
 clear hb
 go_wp2_with fail
 go_ret
 exact ⟨rfl, hb2⟩
theorem hc_7 (v : V) (x : X) (w : World) (h : Is w v x) (hk : v.k = 7) (hl : v.l.length ≤ 4194304) : Calls Tryz.prog 38 #[x.v] w fun e w' => e = .returned (.bool (kids v)) ∧ Below w.heap.size w w' := by
 obtain ⟨ka, kc, la, lc, rfl, h1, h2, h3, h4⟩ := h.open
 have HC := Lib.hid fun w' (hb : Below w.heap.size w w') => all_any _ isE ent_isExpr v.l (on_isExpr v.l) la lc w' (h4.below hb) hl
 rw [kids_7 hk]
 have HB := Lib.hid (below_alloc w (.cells #[.int .i64 7, .string v.nm, .int .i64 v.n, .string v.s, .slice ka v.ks.length kc, .slice la v.l.length lc] 25))
 simp only [X.v]
 rw [hk]
 clear h h1 h2 h3 h4 hk hl
 generalize v.l.all isE = Q at *
 generalize v.nm = nm at *
 generalize v.n = n at *
 generalize v.s = s at *
 generalize v.ks.length = kn at *
 generalize v.l.length = ln at *
 go_enter Tryz.func38, Tryz.ntmps38
 go_wp2_with fail
 refine (HC.out _ HB.out).mono ?_
 rintro e w' ⟨rfl, hb⟩
 have hb2 := HB.out.trans (hb.mono HB.out.size)
 clear hb
 go_wp2_with fail
 go_ret
 exact ⟨rfl, hb2⟩
theorem hc_8 (v : V) (x : X) (w : World) (h : Is w v x) (hk : v.k = 8) (hl : v.l.length ≤ 4194304) : Calls Tryz.prog 38 #[x.v] w fun e w' => e = .returned (.bool (kids v)) ∧ Below w.heap.size w w' := by
 obtain ⟨ka, kc, la, lc, rfl, h1, h2, h3, h4⟩ := h.open
 have HC := Lib.hid fun w' (hb : Below w.heap.size w w') => all_any _ (isK 9) ent_isProp v.l (on_isProp v.l) la lc w' (h4.below hb) hl
 rw [kids_8 hk]
 have HB := Lib.hid (below_alloc w (.cells #[.int .i64 8, .string v.nm, .int .i64 v.n, .string v.s, .slice ka v.ks.length kc, .slice la v.l.length lc] 25))
 simp only [X.v]
 rw [hk]
 clear h h1 h2 h3 h4 hk hl
 generalize v.l.all (isK 9) = Q at *
 generalize v.nm = nm at *
 generalize v.n = n at *
 generalize v.s = s at *
 generalize v.ks.length = kn at *
 generalize v.l.length = ln at *
 go_enter Tryz.func38, Tryz.ntmps38
 go_wp2_with fail
 refine (HC.out _ HB.out).mono ?_
 rintro e w' ⟨rfl, hb⟩
 have hb2 := HB.out.trans (hb.mono HB.out.size)
 clear hb
 go_wp2_with fail
 go_ret
 exact ⟨rfl, hb2⟩
theorem hc_25 (v : V) (x : X) (w : World) (h : Is w v x) (hk : v.k = 25) (hl : v.l.length ≤ 4194304) : Calls Tryz.prog 38 #[x.v] w fun e w' => e = .returned (.bool (kids v)) ∧ Below w.heap.size w w' := by
 obtain ⟨ka, kc, la, lc, rfl, h1, h2, h3, h4⟩ := h.open
 have HC := Lib.hid fun w' (hb : Below w.heap.size w w') => all_any _ isIn ent_isInner v.l (on_isInner v.l) la lc w' (h4.below hb) hl
 rw [kids_25 hk]
 have HB := Lib.hid (below_alloc w (.cells #[.int .i64 25, .string v.nm, .int .i64 v.n, .string v.s, .slice ka v.ks.length kc, .slice la v.l.length lc] 25))
 simp only [X.v]
 rw [hk]
 clear h h1 h2 h3 h4 hk hl
 generalize v.l.all isIn = Q at *
 generalize v.nm = nm at *
 generalize v.n = n at *
 generalize v.s = s at *
 generalize v.ks.length = kn at *
 generalize v.l.length = ln at *
 go_enter Tryz.func38, Tryz.ntmps38
 go_wp2_with fail
 refine (HC.out _ HB.out).mono ?_
 rintro e w' ⟨rfl, hb⟩
 have hb2 := HB.out.trans (hb.mono HB.out.size)
 clear hb
 go_wp2_with fail
 go_ret
 exact ⟨rfl, hb2⟩
theorem hc_9 (v : V) (x : X) (w : World) (h : Is w v x) (hk : v.k = 9) (hl : v.l.length ≤ 4194304) : Calls Tryz.prog 38 #[x.v] w fun e w' => e = .returned (.bool (kids v)) ∧ Below w.heap.size w w' := by
 obtain ⟨ka, kc, la, lc, rfl, h1, h2, h3, h4⟩ := h.open
 have HC := Lib.hid fun w' g (hb : Below w.heap.size w w') (hg : g < w'.heap.size) (c0 : w'.cell? ⟨g, 0, none⟩ = some (.func (.func 58) #[] #[])) => areC1 ent_isExpr (on_isExpr v.l) (c := lc) hg c0 (h4.below hb) hl
 rw [kids_9 hk]
 have HB := Lib.hid (((below_alloc w (.cells #[.int .i64 9, .string v.nm, .int .i64 v.n, .string v.s, .slice ka v.ks.length kc, .slice la v.l.length lc] 25))).trans (below_alloc_le (by simp) (.cells #[.func (.func 58) #[] #[]] 29)))
 simp only [X.v]
 rw [hk]
 clear h h1 h2 h3 h4 hk hl
 generalize are [isE] v.l = Q at *
 generalize v.nm = nm at *
 generalize v.n = n at *
 generalize v.s = s at *
 generalize v.ks.length = kn at *
 generalize v.l.length = ln at *
 go_enter Tryz.func38, Tryz.ntmps38
 go_wp2_with fail
 refine (HC.out _ _ HB.out (by simp) (by simp)).mono ?_
 rintro e w' ⟨rfl, hb⟩
 have hb2 := HB.out.trans (hb.mono HB.out.size)
 clear hb
 go_wp2_with fail
 go_ret
 exact ⟨rfl, hb2⟩
theorem hc_11 (v : V) (x : X) (w : World) (h : Is w v x) (hk : v.k = 11) (hl : v.l.length ≤ 4194304) : Calls Tryz.prog 38 #[x.v] w fun e w' => e = .returned (.bool (kids v)) ∧ Below w.heap.size w w' := by
 obtain ⟨ka, kc, la, lc, rfl, h1, h2, h3, h4⟩ := h.open
 have HC := Lib.hid fun w' g (hb : Below w.heap.size w w') (hg : g < w'.heap.size) (c0 : w'.cell? ⟨g, 0, none⟩ = some (.func (.func 58) #[] #[])) => areC1 ent_isExpr (on_isExpr v.l) (c := lc) hg c0 (h4.below hb) hl
 rw [kids_11 hk]
 have HB := Lib.hid (((below_alloc w (.cells #[.int .i64 11, .string v.nm, .int .i64 v.n, .string v.s, .slice ka v.ks.length kc, .slice la v.l.length lc] 25))).trans (below_alloc_le (by simp) (.cells #[.func (.func 58) #[] #[]] 29)))
 simp only [X.v]
 rw [hk]
 clear h h1 h2 h3 h4 hk hl
 generalize are [isE] v.l = Q at *
 generalize v.nm = nm at *
 generalize v.n = n at *
 generalize v.s = s at *
 generalize v.ks.length = kn at *
 generalize v.l.length = ln at *
 go_enter Tryz.func38, Tryz.ntmps38
 go_wp2_with fail
 refine (HC.out _ _ HB.out (by simp) (by simp)).mono ?_
 rintro e w' ⟨rfl, hb⟩
 have hb2 := HB.out.trans (hb.mono HB.out.size)
 clear hb
 go_wp2_with fail
 go_ret
 exact ⟨rfl, hb2⟩
theorem hc_15 (v : V) (x : X) (w : World) (h : Is w v x) (hk : v.k = 15) (hl : v.l.length ≤ 4194304) : Calls Tryz.prog 38 #[x.v] w fun e w' => e = .returned (.bool (kids v)) ∧ Below w.heap.size w w' := by
 obtain ⟨ka, kc, la, lc, rfl, h1, h2, h3, h4⟩ := h.open
 have HC := Lib.hid fun w' g (hb : Below w.heap.size w w') (hg : g < w'.heap.size) (c0 : w'.cell? ⟨g, 0, none⟩ = some (.func (.func 58) #[] #[])) => areC1 ent_isExpr (on_isExpr v.l) (c := lc) hg c0 (h4.below hb) hl
 rw [kids_15 hk]
 have HB := Lib.hid (((below_alloc w (.cells #[.int .i64 15, .string v.nm, .int .i64 v.n, .string v.s, .slice ka v.ks.length kc, .slice la v.l.length lc] 25))).trans (below_alloc_le (by simp) (.cells #[.func (.func 58) #[] #[]] 29)))
 simp only [X.v]
 rw [hk]
 clear h h1 h2 h3 h4 hk hl
 generalize are [isE] v.l = Q at *
 generalize v.nm = nm at *
 generalize v.n = n at *
 generalize v.s = s at *
 generalize v.ks.length = kn at *
 generalize v.l.length = ln at *
 go_enter Tryz.func38, Tryz.ntmps38
 go_wp2_with fail
 refine (HC.out _ _ HB.out (by simp) (by simp)).mono ?_
 rintro e w' ⟨rfl, hb⟩
 have hb2 := HB.out.trans (hb.mono HB.out.size)
 clear hb
 go_wp2_with fail
 go_ret
 exact ⟨rfl, hb2⟩
theorem hc_24 (v : V) (x : X) (w : World) (h : Is w v x) (hk : v.k = 24) (hl : v.l.length ≤ 4194304) : Calls Tryz.prog 38 #[x.v] w fun e w' => e = .returned (.bool (kids v)) ∧ Below w.heap.size w w' := by
 obtain ⟨ka, kc, la, lc, rfl, h1, h2, h3, h4⟩ := h.open
 have HC := Lib.hid fun w' g (hb : Below w.heap.size w w') (hg : g < w'.heap.size) (c0 : w'.cell? ⟨g, 0, none⟩ = some (.func (.func 58) #[] #[])) => areC1 ent_isExpr (on_isExpr v.l) (c := lc) hg c0 (h4.below hb) hl
 rw [kids_24 hk]
 have HB := Lib.hid (((below_alloc w (.cells #[.int .i64 24, .string v.nm, .int .i64 v.n, .string v.s, .slice ka v.ks.length kc, .slice la v.l.length lc] 25))).trans (below_alloc_le (by simp) (.cells #[.func (.func 58) #[] #[]] 29)))
 simp only [X.v]
 rw [hk]
 clear h h1 h2 h3 h4 hk hl
 generalize are [isE] v.l = Q at *
 generalize v.nm = nm at *
 generalize v.n = n at *
 generalize v.s = s at *
 generalize v.ks.length = kn at *
 generalize v.l.length = ln at *
 go_enter Tryz.func38, Tryz.ntmps38
 go_wp2_with fail
 refine (HC.out _ _ HB.out (by simp) (by simp)).mono ?_
 rintro e w' ⟨rfl, hb⟩
 have hb2 := HB.out.trans (hb.mono HB.out.size)
 clear hb
 go_wp2_with fail
 go_ret
 exact ⟨rfl, hb2⟩
theorem hc_34 (v : V) (x : X) (w : World) (h : Is w v x) (hk : v.k = 34) (hl : v.l.length ≤ 4194304) : Calls Tryz.prog 38 #[x.v] w fun e w' => e = .returned (.bool (kids v)) ∧ Below w.heap.size w w' := by
 obtain ⟨ka, kc, la, lc, rfl, h1, h2, h3, h4⟩ := h.open
 have HC := Lib.hid fun w' g (hb : Below w.heap.size w w') (hg : g < w'.heap.size) (c0 : w'.cell? ⟨g, 0, none⟩ = some (.func (.func 58) #[] #[])) => areC1 ent_isExpr (on_isExpr v.l) (c := lc) hg c0 (h4.below hb) hl
 rw [kids_34 hk]
 have HB := Lib.hid (((below_alloc w (.cells #[.int .i64 34, .string v.nm, .int .i64 v.n, .string v.s, .slice ka v.ks.length kc, .slice la v.l.length lc] 25))).trans (below_alloc_le (by simp) (.cells #[.func (.func 58) #[] #[]] 29)))
 simp only [X.v]
 rw [hk]
 clear h h1 h2 h3 h4 hk hl
 generalize are [isE] v.l = Q at *
 generalize v.nm = nm at *
 generalize v.n = n at *
 generalize v.s = s at *
 generalize v.ks.length = kn at *
 generalize v.l.length = ln at *
 go_enter Tryz.func38, Tryz.ntmps38
 go_wp2_with fail
 refine (HC.out _ _ HB.out (by simp) (by simp)).mono ?_
 rintro e w' ⟨rfl, hb⟩
 have hb2 := HB.out.trans (hb.mono HB.out.size)
 clear hb
 go_wp2_with fail
 go_ret
 exact ⟨rfl, hb2⟩
theorem hc_12 (v : V) (x : X) (w : World) (h : Is w v x) (hk : v.k = 12) (hl : v.l.length ≤ 4194304) : Calls Tryz.prog 38 #[x.v] w fun e w' => e = .returned (.bool (kids v)) ∧ Below w.heap.size w w' := by
 obtain ⟨ka, kc, la, lc, rfl, h1, h2, h3, h4⟩ := h.open
 have HC := Lib.hid fun w' g (hb : Below w.heap.size w w') (hg : g < w'.heap.size) (c0 : w'.cell? ⟨g, 0, none⟩ = some (.func (.func 58) #[] #[])) (c1 : w'.cell? ⟨g, 1, none⟩ = some (.func (.func 58) #[] #[])) => areC2 ent_isExpr (on_isExpr v.l) ent_isExpr (on_isExpr v.l) (c := lc) hg c0 c1 (h4.below hb) hl
 rw [kids_12 hk]
 have HB := Lib.hid (((below_alloc w (.cells #[.int .i64 12, .string v.nm, .int .i64 v.n, .string v.s, .slice ka v.ks.length kc, .slice la v.l.length lc] 25))).trans (below_alloc_le (by simp) (.cells #[.func (.func 58) #[] #[], .func (.func 58) #[] #[]] 29)))
 simp only [X.v]
 rw [hk]
 clear h h1 h2 h3 h4 hk hl
 generalize are [isE, isE] v.l = Q at *
 generalize v.nm = nm at *
 generalize v.n = n at *
 generalize v.s = s at *
 generalize v.ks.length = kn at *
 generalize v.l.length = ln at *
 go_enter Tryz.func38, Tryz.ntmps38
 go_wp2_with fail
 refine (HC.out _ _ HB.out (by simp) (by simp) (by simp)).mono ?_
 rintro e w' ⟨rfl, hb⟩
 have hb2 := HB.out.trans (hb.mono HB.out.size)
 clear hb
 go_wp2_with fail
 go_ret
 exact ⟨rfl, hb2⟩
theorem hc_17 (v : V) (x : X) (w : World) (h : Is w v x) (hk : v.k = 17) (hl : v.l.length ≤ 4194304) : Calls Tryz.prog 38 #[x.v] w fun e w' => e = .returned (.bool (kids v)) ∧ Below w.heap.size w w' := by
 obtain ⟨ka, kc, la, lc, rfl, h1, h2, h3, h4⟩ := h.open
 have HC := Lib.hid fun w' g (hb : Below w.heap.size w w') (hg : g < w'.heap.size) (c0 : w'.cell? ⟨g, 0, none⟩ = some (.func (.func 58) #[] #[])) (c1 : w'.cell? ⟨g, 1, none⟩ = some (.func (.func 58) #[] #[])) => areC2 ent_isExpr (on_isExpr v.l) ent_isExpr (on_isExpr v.l) (c := lc) hg c0 c1 (h4.below hb) hl
 rw [kids_17 hk]
 have HB := Lib.hid (((below_alloc w (.cells #[.int .i64 17, .string v.nm, .int .i64 v.n, .string v.s, .slice ka v.ks.length kc, .slice la v.l.length lc] 25))).trans (below_alloc_le (by simp) (.cells #[.func (.func 58) #[] #[], .func (.func 58) #[] #[]] 29)))
 simp only [X.v]
 rw [hk]
 clear h h1 h2 h3 h4 hk hl
 generalize are [isE, isE] v.l = Q at *
 generalize v.nm = nm at *
 generalize v.n = n at *
 generalize v.s = s at *
 generalize v.ks.length = kn at *
 generalize v.l.length = ln at *
 go_enter Tryz.func38, Tryz.ntmps38
 go_wp2_with fail
 refine (HC.out _ _ HB.out (by simp) (by simp) (by simp)).mono ?_
 rintro e w' ⟨rfl, hb⟩
 have hb2 := HB.out.trans (hb.mono HB.out.size)
 clear hb
 go_wp2_with fail
 go_ret
 exact ⟨rfl, hb2⟩
theorem hc_18 (v : V) (x : X) (w : World) (h : Is w v x) (hk : v.k = 18) (hl : v.l.length ≤ 4194304) : Calls Tryz.prog 38 #[x.v] w fun e w' => e = .returned (.bool (kids v)) ∧ Below w.heap.size w w' := by
 obtain ⟨ka, kc, la, lc, rfl, h1, h2, h3, h4⟩ := h.open
 have HC := Lib.hid fun w' g (hb : Below w.heap.size w w') (hg : g < w'.heap.size) (c0 : w'.cell? ⟨g, 0, none⟩ = some (.func (.func 58) #[] #[])) (c1 : w'.cell? ⟨g, 1, none⟩ = some (.func (.func 58) #[] #[])) => areC2 ent_isExpr (on_isExpr v.l) ent_isExpr (on_isExpr v.l) (c := lc) hg c0 c1 (h4.below hb) hl
 rw [kids_18 hk]
 have HB := Lib.hid (((below_alloc w (.cells #[.int .i64 18, .string v.nm, .int .i64 v.n, .string v.s, .slice ka v.ks.length kc, .slice la v.l.length lc] 25))).trans (below_alloc_le (by simp) (.cells #[.func (.func 58) #[] #[], .func (.func 58) #[] #[]] 29)))
 simp only [X.v]
 rw [hk]
 clear h h1 h2 h3 h4 hk hl
 generalize are [isE, isE] v.l = Q at *
 generalize v.nm = nm at *
 generalize v.n = n at *
 generalize v.s = s at *
 generalize v.ks.length = kn at *
 generalize v.l.length = ln at *
 go_enter Tryz.func38, Tryz.ntmps38
 go_wp2_with fail
 refine (HC.out _ _ HB.out (by simp) (by simp) (by simp)).mono ?_
 rintro e w' ⟨rfl, hb⟩
 have hb2 := HB.out.trans (hb.mono HB.out.size)
 clear hb
 go_wp2_with fail
 go_ret
 exact ⟨rfl, hb2⟩
theorem hc_21 (v : V) (x : X) (w : World) (h : Is w v x) (hk : v.k = 21) (hl : v.l.length ≤ 4194304) : Calls Tryz.prog 38 #[x.v] w fun e w' => e = .returned (.bool (kids v)) ∧ Below w.heap.size w w' := by
 obtain ⟨ka, kc, la, lc, rfl, h1, h2, h3, h4⟩ := h.open
 have HC := Lib.hid fun w' g (hb : Below w.heap.size w w') (hg : g < w'.heap.size) (c0 : w'.cell? ⟨g, 0, none⟩ = some (.func (.func 58) #[] #[])) (c1 : w'.cell? ⟨g, 1, none⟩ = some (.func (.func 58) #[] #[])) => areC2 ent_isExpr (on_isExpr v.l) ent_isExpr (on_isExpr v.l) (c := lc) hg c0 c1 (h4.below hb) hl
 rw [kids_21 hk]
 have HB := Lib.hid (((below_alloc w (.cells #[.int .i64 21, .string v.nm, .int .i64 v.n, .string v.s, .slice ka v.ks.length kc, .slice la v.l.length lc] 25))).trans (below_alloc_le (by simp) (.cells #[.func (.func 58) #[] #[], .func (.func 58) #[] #[]] 29)))
 simp only [X.v]
 rw [hk]
 clear h h1 h2 h3 h4 hk hl
 generalize are [isE, isE] v.l = Q at *
 generalize v.nm = nm at *
 generalize v.n = n at *
 generalize v.s = s at *
 generalize v.ks.length = kn at *
 generalize v.l.length = ln at *
 go_enter Tryz.func38, Tryz.ntmps38
 go_wp2_with fail
 refine (HC.out _ _ HB.out (by simp) (by simp) (by simp)).mono ?_
 rintro e w' ⟨rfl, hb⟩
 have hb2 := HB.out.trans (hb.mono HB.out.size)
 clear hb
 go_wp2_with fail
 go_ret
 exact ⟨rfl, hb2⟩
theorem hc_19 (v : V) (x : X) (w : World) (h : Is w v x) (hk : v.k = 19) (hl : v.l.length ≤ 4194304) : Calls Tryz.prog 38 #[x.v] w fun e w' => e = .returned (.bool (kids v)) ∧ Below w.heap.size w w' := by
 obtain ⟨ka, kc, la, lc, rfl, h1, h2, h3, h4⟩ := h.open
 have HC := Lib.hid fun w' g (hb : Below w.heap.size w w') (hg : g < w'.heap.size) (c0 : w'.cell? ⟨g, 0, none⟩ = some (.func (.func 58) #[] #[])) (c1 : w'.cell? ⟨g, 1, none⟩ = some (.func (.func 58) #[] #[])) (c2 : w'.cell? ⟨g, 2, none⟩ = some (.func (.func 58) #[] #[])) => areC3 ent_isExpr (on_isExpr v.l) ent_isExpr (on_isExpr v.l) ent_isExpr (on_isExpr v.l) (c := lc) hg c0 c1 c2 (h4.below hb) hl
 rw [kids_19 hk]
 have HB := Lib.hid (((below_alloc w (.cells #[.int .i64 19, .string v.nm, .int .i64 v.n, .string v.s, .slice ka v.ks.length kc, .slice la v.l.length lc] 25))).trans (below_alloc_le (by simp) (.cells #[.func (.func 58) #[] #[], .func (.func 58) #[] #[], .func (.func 58) #[] #[]] 29)))
 simp only [X.v]
 rw [hk]
 clear h h1 h2 h3 h4 hk hl
 generalize are [isE, isE, isE] v.l = Q at *
 generalize v.nm = nm at *
 generalize v.n = n at *
 generalize v.s = s at *
 generalize v.ks.length = kn at *
 generalize v.l.length = ln at *
 go_enter Tryz.func38, Tryz.ntmps38
 go_wp2_with fail
 refine (HC.out _ _ HB.out (by simp) (by simp) (by simp) (by simp)).mono ?_
 rintro e w' ⟨rfl, hb⟩
 have hb2 := HB.out.trans (hb.mono HB.out.size)
 clear hb
 go_wp2_with fail
 go_ret
 exact ⟨rfl, hb2⟩
theorem hc_16 (v : V) (x : X) (w : World) (h : Is w v x) (hk : v.k = 16) (hl : v.l.length ≤ 4194304) : Calls Tryz.prog 38 #[x.v] w fun e w' => e = .returned (.bool (kids v)) ∧ Below w.heap.size w w' := by
 obtain ⟨ka, kc, la, lc, rfl, h1, h2, h3, h4⟩ := h.open
 have HC := Lib.hid fun w' g (hb : Below w.heap.size w w') (hg : g < w'.heap.size) (c0 : w'.cell? ⟨g, 0, none⟩ = some (.func (.func 19) #[] #[])) => areC1 ent_IsTarget (on_IsTarget v.l) (c := lc) hg c0 (h4.below hb) hl
 rw [kids_16 hk]
 have HB := Lib.hid (((below_alloc w (.cells #[.int .i64 16, .string v.nm, .int .i64 v.n, .string v.s, .slice ka v.ks.length kc, .slice la v.l.length lc] 25))).trans (below_alloc_le (by simp) (.cells #[.func (.func 19) #[] #[]] 29)))
 simp only [X.v]
 rw [hk]
 clear h h1 h2 h3 h4 hk hl
 generalize are [isTg] v.l = Q at *
 generalize v.nm = nm at *
 generalize v.n = n at *
 generalize v.s = s at *
 generalize v.ks.length = kn at *
 generalize v.l.length = ln at *
 go_enter Tryz.func38, Tryz.ntmps38
 go_wp2_with fail
 refine (HC.out _ _ HB.out (by simp) (by simp)).mono ?_
 rintro e w' ⟨rfl, hb⟩
 have hb2 := HB.out.trans (hb.mono HB.out.size)
 clear hb
 go_wp2_with fail
 go_ret
 exact ⟨rfl, hb2⟩
theorem hc_20 (v : V) (x : X) (w : World) (h : Is w v x) (hk : v.k = 20) (hl : v.l.length ≤ 4194304) : Calls Tryz.prog 38 #[x.v] w fun e w' => e = .returned (.bool (kids v)) ∧ Below w.heap.size w w' := by
 obtain ⟨ka, kc, la, lc, rfl, h1, h2, h3, h4⟩ := h.open
 have HC := Lib.hid fun w' g (hb : Below w.heap.size w w') (hg : g < w'.heap.size) (c0 : w'.cell? ⟨g, 0, none⟩ = some (.func (.func 19) #[] #[])) (c1 : w'.cell? ⟨g, 1, none⟩ = some (.func (.func 58) #[] #[])) => areC2 ent_IsTarget (on_IsTarget v.l) ent_isExpr (on_isExpr v.l) (c := lc) hg c0 c1 (h4.below hb) hl
 rw [kids_20 hk]
 have HB := Lib.hid (((below_alloc w (.cells #[.int .i64 20, .string v.nm, .int .i64 v.n, .string v.s, .slice ka v.ks.length kc, .slice la v.l.length lc] 25))).trans (below_alloc_le (by simp) (.cells #[.func (.func 19) #[] #[], .func (.func 58) #[] #[]] 29)))
 simp only [X.v]
 rw [hk]
 clear h h1 h2 h3 h4 hk hl
 generalize are [isTg, isE] v.l = Q at *
 generalize v.nm = nm at *
 generalize v.n = n at *
 generalize v.s = s at *
 generalize v.ks.length = kn at *
 generalize v.l.length = ln at *
 go_enter Tryz.func38, Tryz.ntmps38
 go_wp2_with fail
 refine (HC.out _ _ HB.out (by simp) (by simp) (by simp)).mono ?_
 rintro e w' ⟨rfl, hb⟩
 have hb2 := HB.out.trans (hb.mono HB.out.size)
 clear hb
 go_wp2_with fail
 go_ret
 exact ⟨rfl, hb2⟩
theorem hc_27 (v : V) (x : X) (w : World) (h : Is w v x) (hk : v.k = 27) (hl : v.l.length ≤ 4194304) : Calls Tryz.prog 38 #[x.v] w fun e w' => e = .returned (.bool (kids v)) ∧ Below w.heap.size w w' := by
 obtain ⟨ka, kc, la, lc, rfl, h1, h2, h3, h4⟩ := h.open
 have HC := Lib.hid fun w' g (hb : Below w.heap.size w w') (hg : g < w'.heap.size) (c0 : w'.cell? ⟨g, 0, none⟩ = some (.func (.func 58) #[] #[])) (c1 : w'.cell? ⟨g, 1, none⟩ = some (.func (.func 63) #[] #[])) => areC2 ent_isExpr (on_isExpr v.l) ent_isBlock (on_isBlock v.l) (c := lc) hg c0 c1 (h4.below hb) hl
 rw [kids_27 hk]
 have HB := Lib.hid (((below_alloc w (.cells #[.int .i64 27, .string v.nm, .int .i64 v.n, .string v.s, .slice ka v.ks.length kc, .slice la v.l.length lc] 25))).trans (below_alloc_le (by simp) (.cells #[.func (.func 58) #[] #[], .func (.func 63) #[] #[]] 29)))
 simp only [X.v]
 rw [hk]
 clear h h1 h2 h3 h4 hk hl
 generalize are [isE, isK 25] v.l = Q at *
 generalize v.nm = nm at *
 generalize v.n = n at *
 generalize v.s = s at *
 generalize v.ks.length = kn at *
 generalize v.l.length = ln at *
 go_enter Tryz.func38, Tryz.ntmps38
 go_wp2_with fail
 refine (HC.out _ _ HB.out (by simp) (by simp) (by simp)).mono ?_
 rintro e w' ⟨rfl, hb⟩
 have hb2 := HB.out.trans (hb.mono HB.out.size)
 clear hb
 go_wp2_with fail
 go_ret
 exact ⟨rfl, hb2⟩
theorem hc_28 (v : V) (x : X) (w : World) (h : Is w v x) (hk : v.k = 28) (hl : v.l.length ≤ 4194304) : Calls Tryz.prog 38 #[x.v] w fun e w' => e = .returned (.bool (kids v)) ∧ Below w.heap.size w w' := by
 obtain ⟨ka, kc, la, lc, rfl, h1, h2, h3, h4⟩ := h.open
 have HC := Lib.hid fun w' g (hb : Below w.heap.size w w') (hg : g < w'.heap.size) (c0 : w'.cell? ⟨g, 0, none⟩ = some (.func (.func 63) #[] #[])) (c1 : w'.cell? ⟨g, 1, none⟩ = some (.func (.func 58) #[] #[])) => areC2 ent_isBlock (on_isBlock v.l) ent_isExpr (on_isExpr v.l) (c := lc) hg c0 c1 (h4.below hb) hl
 rw [kids_28 hk]
 have HB := Lib.hid (((below_alloc w (.cells #[.int .i64 28, .string v.nm, .int .i64 v.n, .string v.s, .slice ka v.ks.length kc, .slice la v.l.length lc] 25))).trans (below_alloc_le (by simp) (.cells #[.func (.func 63) #[] #[], .func (.func 58) #[] #[]] 29)))
 simp only [X.v]
 rw [hk]
 clear h h1 h2 h3 h4 hk hl
 generalize are [isK 25, isE] v.l = Q at *
 generalize v.nm = nm at *
 generalize v.n = n at *
 generalize v.s = s at *
 generalize v.ks.length = kn at *
 generalize v.l.length = ln at *
 go_enter Tryz.func38, Tryz.ntmps38
 go_wp2_with fail
 refine (HC.out _ _ HB.out (by simp) (by simp) (by simp)).mono ?_
 rintro e w' ⟨rfl, hb⟩
 have hb2 := HB.out.trans (hb.mono HB.out.size)
 clear hb
 go_wp2_with fail
 go_ret
 exact ⟨rfl, hb2⟩
theorem hc_29 (v : V) (x : X) (w : World) (h : Is w v x) (hk : v.k = 29) (hl : v.l.length ≤ 4194304) : Calls Tryz.prog 38 #[x.v] w fun e w' => e = .returned (.bool (kids v)) ∧ Below w.heap.size w w' := by
 obtain ⟨ka, kc, la, lc, rfl, h1, h2, h3, h4⟩ := h.open
 have HC := Lib.hid fun w' g (hb : Below w.heap.size w w') (hg : g < w'.heap.size) (c0 : w'.cell? ⟨g, 0, none⟩ = some (.func (.func 64) #[] #[])) (c1 : w'.cell? ⟨g, 1, none⟩ = some (.func (.func 65) #[] #[])) (c2 : w'.cell? ⟨g, 2, none⟩ = some (.func (.func 65) #[] #[])) (c3 : w'.cell? ⟨g, 3, none⟩ = some (.func (.func 63) #[] #[])) => areC4 ent_isBeginning (on_isBeginning v.l) ent_isExprOrEmpty (on_isExprOrEmpty v.l) ent_isExprOrEmpty (on_isExprOrEmpty v.l) ent_isBlock (on_isBlock v.l) (c := lc) hg c0 c1 c2 c3 (h4.below hb) hl
 rw [kids_29 hk]
 have HB := Lib.hid (((below_alloc w (.cells #[.int .i64 29, .string v.nm, .int .i64 v.n, .string v.s, .slice ka v.ks.length kc, .slice la v.l.length lc] 25))).trans (below_alloc_le (by simp) (.cells #[.func (.func 64) #[] #[], .func (.func 65) #[] #[], .func (.func 65) #[] #[], .func (.func 63) #[] #[]] 29)))
 simp only [X.v]
 rw [hk]
 clear h h1 h2 h3 h4 hk hl
 generalize are [isBg, isEO, isEO, isK 25] v.l = Q at *
 generalize v.nm = nm at *
 generalize v.n = n at *
 generalize v.s = s at *
 generalize v.ks.length = kn at *
 generalize v.l.length = ln at *
 go_enter Tryz.func38, Tryz.ntmps38
 go_wp2_with fail
 refine (HC.out _ _ HB.out (by simp) (by simp) (by simp) (by simp) (by simp)).mono ?_
 rintro e w' ⟨rfl, hb⟩
 have hb2 := HB.out.trans (hb.mono HB.out.size)
 clear hb
 go_wp2_with fail
 go_ret
 exact ⟨rfl, hb2⟩
theorem hc_30 (v : V) (x : X) (w : World) (h : Is w v x) (hk : v.k = 30) (hl : v.l.length ≤ 4194304) (hch : ∀ u ∈ v.l, u.l.length ≤ 4194304) : Calls Tryz.prog 38 #[x.v] w fun e w' => e = .returned (.bool (kids v)) ∧ Below w.heap.size w w' := by
 obtain ⟨ka, kc, la, lc, rfl, h1, h2, h3, h4⟩ := h.open
 have HC := Lib.hid fun w' g (hb : Below w.heap.size w w') (hg : g < w'.heap.size) (c0 : w'.cell? ⟨g, 0, none⟩ = some (.func (.func 66) #[] #[])) (c1 : w'.cell? ⟨g, 1, none⟩ = some (.func (.func 58) #[] #[])) (c2 : w'.cell? ⟨g, 2, none⟩ = some (.func (.func 63) #[] #[])) => areC3 ent_isTaker (on_isTaker v.l hch) ent_isExpr (on_isExpr v.l) ent_isBlock (on_isBlock v.l) (c := lc) hg c0 c1 c2 (h4.below hb) hl
 rw [kids_30 hk]
 have HB := Lib.hid (((below_alloc w (.cells #[.int .i64 30, .string v.nm, .int .i64 v.n, .string v.s, .slice ka v.ks.length kc, .slice la v.l.length lc] 25))).trans (below_alloc_le (by simp) (.cells #[.func (.func 66) #[] #[], .func (.func 58) #[] #[], .func (.func 63) #[] #[]] 29)))
 simp only [X.v]
 rw [hk]
 clear h h1 h2 h3 h4 hk hl
 generalize are [isTk, isE, isK 25] v.l = Q at *
 generalize v.nm = nm at *
 generalize v.n = n at *
 generalize v.s = s at *
 generalize v.ks.length = kn at *
 generalize v.l.length = ln at *
 go_enter Tryz.func38, Tryz.ntmps38
 go_wp2_with fail
 refine (HC.out _ _ HB.out (by simp) (by simp) (by simp) (by simp)).mono ?_
 rintro e w' ⟨rfl, hb⟩
 have hb2 := HB.out.trans (hb.mono HB.out.size)
 clear hb
 go_wp2_with fail
 go_ret
 exact ⟨rfl, hb2⟩
theorem hc_38 (v : V) (x : X) (w : World) (h : Is w v x) (hk : v.k = 38) (hl : v.l.length ≤ 4194304) : Calls Tryz.prog 38 #[x.v] w fun e w' => e = .returned (.bool (kids v)) ∧ Below w.heap.size w w' := by
 obtain ⟨ka, kc, la, lc, rfl, h1, h2, h3, h4⟩ := h.open
 have HC := Lib.hid fun w' g (hb : Below w.heap.size w w') (hg : g < w'.heap.size) (c0 : w'.cell? ⟨g, 0, none⟩ = some (.func (.func 62) #[] #[])) => areC1 ent_isInner (on_isInner v.l) (c := lc) hg c0 (h4.below hb) hl
 rw [kids_38 hk]
 have HB := Lib.hid (((below_alloc w (.cells #[.int .i64 38, .string v.nm, .int .i64 v.n, .string v.s, .slice ka v.ks.length kc, .slice la v.l.length lc] 25))).trans (below_alloc_le (by simp) (.cells #[.func (.func 62) #[] #[]] 29)))
 simp only [X.v]
 rw [hk]
 clear h h1 h2 h3 h4 hk hl
 generalize are [isIn] v.l = Q at *
 generalize v.nm = nm at *
 generalize v.n = n at *
 generalize v.s = s at *
 generalize v.ks.length = kn at *
 generalize v.l.length = ln at *
 go_enter Tryz.func38, Tryz.ntmps38
 go_wp2_with fail
 refine (HC.out _ _ HB.out (by simp) (by simp)).mono ?_
 rintro e w' ⟨rfl, hb⟩
 have hb2 := HB.out.trans (hb.mono HB.out.size)
 clear hb
 go_wp2_with fail
 go_ret
 exact ⟨rfl, hb2⟩
theorem kids_x {v : V} (h : ¬ v.k = 41 ∧ ¬ v.k = 10 ∧ ¬ v.k = 39 ∧ ¬ v.k = 7 ∧ ¬ v.k = 8 ∧ ¬ v.k = 13 ∧ ¬ v.k = 14 ∧ ¬ v.k = 9 ∧ ¬ v.k = 11 ∧ ¬ v.k = 15 ∧ ¬ v.k = 24 ∧ ¬ v.k = 34 ∧ ¬ v.k = 12 ∧ ¬ v.k = 17 ∧ ¬ v.k = 18 ∧ ¬ v.k = 21 ∧ ¬ v.k = 19 ∧ ¬ v.k = 16 ∧ ¬ v.k = 20 ∧ ¬ v.k = 22 ∧ ¬ v.k = 23 ∧ ¬ v.k = 33 ∧ ¬ v.k = 25 ∧ ¬ v.k = 26 ∧ ¬ v.k = 27 ∧ ¬ v.k = 28 ∧ ¬ v.k = 29 ∧ ¬ v.k = 30 ∧ ¬ v.k = 35 ∧ ¬ v.k = 36 ∧ ¬ v.k = 37 ∧ ¬ v.k = 38) : kids v = v.l.isEmpty := by
 unfold kids
 repeat rw [if_neg (by omega)]
theorem emp_len {α : Type} (l : List α) : l.isEmpty = decide (l.length = 0) := by cases l <;> simp
theorem hc_x (v : V) (x : X) (w : World) (h : Is w v x) (hk : ¬ v.k = 41 ∧ ¬ v.k = 10 ∧ ¬ v.k = 39 ∧ ¬ v.k = 7 ∧ ¬ v.k = 8 ∧ ¬ v.k = 13 ∧ ¬ v.k = 14 ∧ ¬ v.k = 9 ∧ ¬ v.k = 11 ∧ ¬ v.k = 15 ∧ ¬ v.k = 24 ∧ ¬ v.k = 34 ∧ ¬ v.k = 12 ∧ ¬ v.k = 17 ∧ ¬ v.k = 18 ∧ ¬ v.k = 21 ∧ ¬ v.k = 19 ∧ ¬ v.k = 16 ∧ ¬ v.k = 20 ∧ ¬ v.k = 22 ∧ ¬ v.k = 23 ∧ ¬ v.k = 33 ∧ ¬ v.k = 25 ∧ ¬ v.k = 26 ∧ ¬ v.k = 27 ∧ ¬ v.k = 28 ∧ ¬ v.k = 29 ∧ ¬ v.k = 30 ∧ ¬ v.k = 35 ∧ ¬ v.k = 36 ∧ ¬ v.k = 37 ∧ ¬ v.k = 38) : Calls Tryz.prog 38 #[x.v] w fun e w' => e = .returned (.bool (kids v)) ∧ Below w.heap.size w w' := by
 obtain ⟨ka, kc, la, lc, rfl, h1, h2, h3, h4⟩ := h.open
 have hbe : ∀ m : Int, ¬ v.k = m → (v.k == m) = false := fun m hm => by rw [beq_eq_false_iff_ne]; exact hm
 have b41 := hbe 41 (by omega)
 have b10 := hbe 10 (by omega)
 have b39 := hbe 39 (by omega)
 have b7 := hbe 7 (by omega)
 have b8 := hbe 8 (by omega)
 have b13 := hbe 13 (by omega)
 have b14 := hbe 14 (by omega)
 have b9 := hbe 9 (by omega)
 have b11 := hbe 11 (by omega)
 have b15 := hbe 15 (by omega)
 have b24 := hbe 24 (by omega)
 have b34 := hbe 34 (by omega)
 have b12 := hbe 12 (by omega)
 have b17 := hbe 17 (by omega)
 have b18 := hbe 18 (by omega)
 have b21 := hbe 21 (by omega)
 have b19 := hbe 19 (by omega)
 have b16 := hbe 16 (by omega)
 have b20 := hbe 20 (by omega)
 have b22 := hbe 22 (by omega)
 have b23 := hbe 23 (by omega)
 have b33 := hbe 33 (by omega)
 have b25 := hbe 25 (by omega)
 have b26 := hbe 26 (by omega)
 have b27 := hbe 27 (by omega)
 have b28 := hbe 28 (by omega)
 have b29 := hbe 29 (by omega)
 have b30 := hbe 30 (by omega)
 have b35 := hbe 35 (by omega)
 have b36 := hbe 36 (by omega)
 have b37 := hbe 37 (by omega)
 have b38 := hbe 38 (by omega)
 rw [kids_x hk, emp_len]
 simp only [X.v]
 clear h h1 h2 h3 h4 hk hbe
 generalize v.k = k at *
 generalize v.nm = nm at *
 generalize v.n = n at *
 generalize v.s = s at *
 generalize v.ks.length = kn at *
 generalize v.l.length = ln at *
 go_enter Tryz.func38, Tryz.ntmps38
 go_wp2_with fail
 go_ret
 exact ⟨ret_bool (beq_zero _), below_alloc w _⟩
theorem hc_13 (v : V) (x : X) (w : World) (h : Is w v x) (hk : v.k = 13) (hl : v.l.length ≤ 4194304) : Calls Tryz.prog 38 #[x.v] w fun e w' => e = .returned (.bool (kids v)) ∧ Below w.heap.size w w' := by
 obtain ⟨ka, kc, la, lc, rfl, h1, h2, h3, h4⟩ := h.open
 have HC := Lib.hid fun w' (hb : Below w.heap.size w w') => all_any _ isE ent_isExpr v.l (on_isExpr v.l) la lc w' (h4.below hb) hl
 have HV := Lib.hid (kids_13 hk)
 rw [emp_len] at HV
 have HB := Lib.hid (below_alloc w (.cells #[.int .i64 13, .string v.nm, .int .i64 v.n, .string v.s, .slice ka v.ks.length kc, .slice la v.l.length lc] 25))
 simp only [X.v]
 rw [hk]
 clear h h1 h2 h3 h4 hk hl
 rw [HV.out]
 generalize v.l.all isE = Q at *
 generalize v.nm = nm at *
 generalize v.n = n at *
 generalize v.s = s at *
 generalize v.ks.length = kn at *
 generalize v.l.length = ln at *
 go_enter Tryz.func38, Tryz.ntmps38
 go_wp2_with fail
 all_goals first
  | (go_ret; refine ⟨ret_bool ?_, below_alloc w _⟩)
  | (refine (HC.out _ HB.out).mono ?_
     rintro e w' ⟨rfl, hb⟩
     have hb2 := HB.out.trans (hb.mono HB.out.size)
     clear hb
     go_wp2_with fail
     go_ret
     refine ⟨ret_bool ?_, hb2⟩)
 all_goals clear HV
 all_goals simp_all
 all_goals omega
theorem hc_14 (v : V) (x : X) (w : World) (h : Is w v x) (hk : v.k = 14) (hl : v.l.length ≤ 4194304) : Calls Tryz.prog 38 #[x.v] w fun e w' => e = .returned (.bool (kids v)) ∧ Below w.heap.size w w' := by
 obtain ⟨ka, kc, la, lc, rfl, h1, h2, h3, h4⟩ := h.open
 have HC := Lib.hid fun w' (hb : Below w.heap.size w w') => all_any _ isE ent_isExpr v.l (on_isExpr v.l) la lc w' (h4.below hb) hl
 have HV := Lib.hid (kids_14 hk)
 rw [emp_len] at HV
 have HB := Lib.hid (below_alloc w (.cells #[.int .i64 14, .string v.nm, .int .i64 v.n, .string v.s, .slice ka v.ks.length kc, .slice la v.l.length lc] 25))
 simp only [X.v]
 rw [hk]
 clear h h1 h2 h3 h4 hk hl
 rw [HV.out]
 generalize v.l.all isE = Q at *
 generalize v.nm = nm at *
 generalize v.n = n at *
 generalize v.s = s at *
 generalize v.ks.length = kn at *
 generalize v.l.length = ln at *
 go_enter Tryz.func38, Tryz.ntmps38
 go_wp2_with fail
 all_goals first
  | (go_ret; refine ⟨ret_bool ?_, below_alloc w _⟩)
  | (refine (HC.out _ HB.out).mono ?_
     rintro e w' ⟨rfl, hb⟩
     have hb2 := HB.out.trans (hb.mono HB.out.size)
     clear hb
     go_wp2_with fail
     go_ret
     refine ⟨ret_bool ?_, hb2⟩)
 all_goals clear HV
 all_goals simp_all
 all_goals omega
theorem hc_22 (v : V) (x : X) (w : World) (h : Is w v x) (hk : v.k = 22) (hl : v.l.length ≤ 4194304) : Calls Tryz.prog 38 #[x.v] w fun e w' => e = .returned (.bool (kids v)) ∧ Below w.heap.size w w' := by
 obtain ⟨ka, kc, la, lc, rfl, h1, h2, h3, h4⟩ := h.open
 have HC := Lib.hid fun w' (hb : Below w.heap.size w w') => all_any _ (isK 23) ent_isDecl v.l (on_isDecl v.l) la lc w' (h4.below hb) hl
 have HV := Lib.hid (kids_22 hk)
 rw [emp_len] at HV
 have HB := Lib.hid (below_alloc w (.cells #[.int .i64 22, .string v.nm, .int .i64 v.n, .string v.s, .slice ka v.ks.length kc, .slice la v.l.length lc] 25))
 simp only [X.v]
 rw [hk]
 clear h h1 h2 h3 h4 hk hl
 rw [HV.out]
 generalize v.l.all (isK 23) = Q at *
 generalize v.nm = nm at *
 generalize v.n = n at *
 generalize v.s = s at *
 generalize v.ks.length = kn at *
 generalize v.l.length = ln at *
 go_enter Tryz.func38, Tryz.ntmps38
 go_wp2_with fail
 all_goals first
  | (go_ret; refine ⟨ret_bool ?_, below_alloc w _⟩)
  | (refine (HC.out _ HB.out).mono ?_
     rintro e w' ⟨rfl, hb⟩
     have hb2 := HB.out.trans (hb.mono HB.out.size)
     clear hb
     go_wp2_with fail
     go_ret
     refine ⟨ret_bool ?_, hb2⟩)
 all_goals clear HV
 all_goals simp_all
 all_goals omega
theorem hc_23 (v : V) (x : X) (w : World) (h : Is w v x) (hk : v.k = 23) (hl : v.l.length ≤ 4194304) : Calls Tryz.prog 38 #[x.v] w fun e w' => e = .returned (.bool (kids v)) ∧ Below w.heap.size w w' := by
 obtain ⟨ka, kc, la, lc, rfl, h1, h2, h3, h4⟩ := h.open
 have HC := Lib.hid fun w' g (hb : Below w.heap.size w w') (hg : g < w'.heap.size) (c0 : w'.cell? ⟨g, 0, none⟩ = some (.func (.func 58) #[] #[])) => areC1 ent_isExpr (on_isExpr v.l) (c := lc) hg c0 (h4.below hb) hl
 have HV := Lib.hid (kids_23 hk)
 rw [emp_len] at HV
 have HB := Lib.hid (below_alloc w (.cells #[.int .i64 23, .string v.nm, .int .i64 v.n, .string v.s, .slice ka v.ks.length kc, .slice la v.l.length lc] 25))
 have HB2 := Lib.hid (HB.out.trans (below_alloc_le (by simp) (.cells #[.func (.func 58) #[] #[]] 29)))
 simp only [X.v]
 rw [hk]
 clear h h1 h2 h3 h4 hk hl
 rw [HV.out]
 generalize are [isE] v.l = Q at *
 generalize v.nm = nm at *
 generalize v.n = n at *
 generalize v.s = s at *
 generalize v.ks.length = kn at *
 generalize v.l.length = ln at *
 go_enter Tryz.func38, Tryz.ntmps38
 go_wp2_with fail
 all_goals first
  | (go_ret; refine ⟨ret_bool ?_, below_alloc w _⟩)
  | (refine (HC.out _ _ HB2.out (by simp) (by simp)).mono ?_
     rintro e w' ⟨rfl, hb⟩
     have hb2 := HB2.out.trans (hb.mono HB2.out.size)
     clear hb
     go_wp2_with fail
     go_ret
     refine ⟨ret_bool ?_, hb2⟩)
 all_goals clear HV
 all_goals simp_all
theorem hc_33 (v : V) (x : X) (w : World) (h : Is w v x) (hk : v.k = 33) (hl : v.l.length ≤ 4194304) : Calls Tryz.prog 38 #[x.v] w fun e w' => e = .returned (.bool (kids v)) ∧ Below w.heap.size w w' := by
 obtain ⟨ka, kc, la, lc, rfl, h1, h2, h3, h4⟩ := h.open
 have HC := Lib.hid fun w' g (hb : Below w.heap.size w w') (hg : g < w'.heap.size) (c0 : w'.cell? ⟨g, 0, none⟩ = some (.func (.func 58) #[] #[])) => areC1 ent_isExpr (on_isExpr v.l) (c := lc) hg c0 (h4.below hb) hl
 have HV := Lib.hid (kids_33 hk)
 rw [emp_len] at HV
 have HB := Lib.hid (below_alloc w (.cells #[.int .i64 33, .string v.nm, .int .i64 v.n, .string v.s, .slice ka v.ks.length kc, .slice la v.l.length lc] 25))
 have HB2 := Lib.hid (HB.out.trans (below_alloc_le (by simp) (.cells #[.func (.func 58) #[] #[]] 29)))
 simp only [X.v]
 rw [hk]
 clear h h1 h2 h3 h4 hk hl
 rw [HV.out]
 generalize are [isE] v.l = Q at *
 generalize v.nm = nm at *
 generalize v.n = n at *
 generalize v.s = s at *
 generalize v.ks.length = kn at *
 generalize v.l.length = ln at *
 go_enter Tryz.func38, Tryz.ntmps38
 go_wp2_with fail
 all_goals first
  | (go_ret; refine ⟨ret_bool ?_, below_alloc w _⟩)
  | (refine (HC.out _ _ HB2.out (by simp) (by simp)).mono ?_
     rintro e w' ⟨rfl, hb⟩
     have hb2 := HB2.out.trans (hb.mono HB2.out.size)
     clear hb
     go_wp2_with fail
     go_ret
     refine ⟨ret_bool ?_, hb2⟩)
 all_goals clear HV
 all_goals simp_all
theorem hc_26 (v : V) (x : X) (w : World) (h : Is w v x) (hk : v.k = 26) (hl : v.l.length ≤ 4194304) : Calls Tryz.prog 38 #[x.v] w fun e w' => e = .returned (.bool (kids v)) ∧ Below w.heap.size w w' := by
 obtain ⟨ka, kc, la, lc, rfl, h1, h2, h3, h4⟩ := h.open
 have HC2 := Lib.hid fun w' g (hb : Below w.heap.size w w') (hg : g < w'.heap.size) (c0 : w'.cell? ⟨g, 0, none⟩ = some (.func (.func 58) #[] #[])) (c1 : w'.cell? ⟨g, 1, none⟩ = some (.func (.func 63) #[] #[])) => areC2 ent_isExpr (on_isExpr v.l) ent_isBlock (on_isBlock v.l) (c := lc) hg c0 c1 (h4.below hb) hl
 have HC3 := Lib.hid fun w' g (hb : Below w.heap.size w w') (hg : g < w'.heap.size) (c0 : w'.cell? ⟨g, 0, none⟩ = some (.func (.func 58) #[] #[])) (c1 : w'.cell? ⟨g, 1, none⟩ = some (.func (.func 63) #[] #[])) (c2 : w'.cell? ⟨g, 2, none⟩ = some (.func (.func 63) #[] #[])) => areC3 ent_isExpr (on_isExpr v.l) ent_isBlock (on_isBlock v.l) ent_isBlock (on_isBlock v.l) (c := lc) hg c0 c1 c2 (h4.below hb) hl
 have HV := Lib.hid (kids_26 hk)
 have HB := Lib.hid ((below_alloc w (.cells #[.int .i64 26, .string v.nm, .int .i64 v.n, .string v.s, .slice ka v.ks.length kc, .slice la v.l.length lc] 25)).trans (below_alloc_le (by simp) (.cells #[.func (.func 58) #[] #[], .func (.func 63) #[] #[]] 29)))
 simp only [X.v]
 rw [hk]
 clear h h1 h2 h3 h4 hk hl
 rw [HV.out]
 clear HV
 generalize are [isE, isK 25] v.l = P at *
 generalize are [isE, isK 25, isK 25] v.l = Q at *
 generalize v.nm = nm at *
 generalize v.n = n at *
 generalize v.s = s at *
 generalize v.ks.length = kn at *
 generalize v.l.length = ln at *
 go_enter Tryz.func38, Tryz.ntmps38
 go_wp2_with fail
 refine (HC2.out _ _ HB.out (by simp) (by simp) (by simp)).mono ?_
 rintro e w' ⟨rfl, hb⟩
 have hb2 := HB.out.trans (hb.mono HB.out.size)
 clear hb
 cases P
 ·go_wp2_with fail
  refine (HC3.out _ _ (hb2.trans (below_alloc_le hb2.size (.cells #[.func (.func 58) #[] #[], .func (.func 63) #[] #[], .func (.func 63) #[] #[]] 29))) (by simp) (by simp) (by simp) (by simp)).mono ?_
  rintro e w2 ⟨rfl, hb⟩
  have hb3 := (hb2.trans (below_alloc_le hb2.size (.cells #[.func (.func 58) #[] #[], .func (.func 63) #[] #[], .func (.func 63) #[] #[]] 29))).trans (hb.mono (by simp; exact Nat.le_succ_of_le hb2.size))
  clear hb
  go_wp2_with fail
  go_ret
  exact ⟨rfl, hb3⟩
 ·go_wp2_with fail
  go_ret
  exact ⟨rfl, hb2⟩
theorem row_or {w : World} {A B : Option Addr} {r : List V} (h : Row w B r) (hA : A = B ∨ r.length = 0) : Row w A r := by
 rcases hA with rfl | h0
 ·exact h
 ·exact .inl (List.eq_nil_of_length_eq_zero h0)
theorem hc_37 (v : V) (x : X) (w : World) (h : Is w v x) (hk : v.k = 37) (hl : v.l.length ≤ 4194304) (hch : ∀ u ∈ v.l, u.l.length ≤ 4194304) : Calls Tryz.prog 38 #[x.v] w fun e w' => e = .returned (.bool (kids v)) ∧ Below w.heap.size w w' := by
 obtain ⟨ka, kc, la, lc, rfl, h1, h2, h3, h4⟩ := h.open
 rcases hl0 : v.l with _ | ⟨d, r⟩
 ·have HV := Lib.hid (kids_37 hk)
  rw [hl0] at HV
  simp only [X.v]
  rw [hk, HV.out]
  clear h h1 h2 h3 h4 hk hl HV hl0 hch
  simp only [List.length_nil]
  generalize v.nm = nm at *
  generalize v.n = n at *
  generalize v.s = s at *
  generalize v.ks.length = kn at *
  go_enter Tryz.func38, Tryz.ntmps38
  go_wp2_with fail
  go_ret
  exact ⟨rfl, below_alloc w _⟩
 have HV := Lib.hid (kids_37 hk)
 rw [hl0] at HV h2 h4 hl hch
 dsimp only at HV
 simp only [X.v]
 rw [hk]
 obtain ⟨g, o, y, rfl, hg, hy, hya, hr⟩ := h4.cons
 have hlr : r.length ≤ 4194304 := by simp only [List.length_cons] at hl; omega
 have hchr : ∀ u ∈ r, u.l.length ≤ 4194304 := fun u hu => hch u (List.mem_cons_of_mem _ hu)
 have HC := Lib.hid fun w' (hb : Below w.heap.size w w') => isExprOrEmpty_any d y w' (Is.below hb _ _ hya)
 have HA := Lib.hid fun w' A c (hb : Below w.heap.size w w') (hA : A = some ⟨g, o + 6, none⟩ ∨ r.length = 0) => all_any _ isIn ent_isInner r (on_isInner r) A c w' (row_or (hr.below hb) hA) hlr
 have HB := Lib.hid (below_alloc w (.cells #[.int .i64 37, .string v.nm, .int .i64 v.n, .string v.s, .slice ka v.ks.length kc, .slice (some ⟨g, o, none⟩) (d :: r).length lc] 25))
 obtain ⟨c0, c1, c2, c3, c4, c5⟩ := hy.below hg HB.out
 obtain ⟨yk, ynm, yn, ys, yka, ykn, ykc, yla, yln, ylc⟩ := y
 dsimp only at c0 c1 c2 c3 c4 c5
 simp only [X.v] at HC
 simp only [List.length_cons] at *
 have hl1 : (0 : Int) < (r.length : Int) + 1 := by omega
 have hl2 : (r.length : Int) ≤ 4194304 := by omega
 have hl3 : (r.length : Int) + 1 ≤ (lc : Int) := by omega
 clear h h1 h2 h3 h4 hk hl hl0 hch hy hya hr hg hlr hchr
 rw [HV.out]
 clear HV
 generalize isEO d = P at *
 generalize r.all isIn = Q at *
 generalize v.nm = nm at *
 generalize v.n = n at *
 generalize v.s = s at *
 generalize v.ks.length = kn at *
 generalize r.length = ln at *
 go_enter Tryz.func38, Tryz.ntmps38
 go_wp2_with fail
 refine (HC.out _ HB.out).mono ?_
 rintro e w' ⟨rfl, hb⟩
 have hb2 := HB.out.trans (hb.mono HB.out.size)
 clear hb c0 c1 c2 c3 c4 c5
 cases P
 ·go_wp2_with fail
  go_ret
  exact ⟨rfl, hb2⟩
 go_wp2_with fail
 all_goals
  refine (HA.out _ _ _ hb2 (by first | exact .inl rfl | exact .inr (by omega))).mono ?_
  rintro e w2 ⟨rfl, hb⟩
  have hb3 := hb2.trans (hb.mono hb2.size)
  clear hb
  go_wp2_with fail
  go_ret
  exact ⟨rfl, hb3⟩
theorem le_one (N : Nat) : decide ((N : Int) ≤ 1) = decide (N ≤ 1) := by
 rw [Bool.eq_iff_iff, decide_eq_true_eq, decide_eq_true_eq]
 omega
theorem hc_36 (v : V) (x : X) (w : World) (h : Is w v x) (hk : v.k = 36) (hl : v.l.length ≤ 4194304) (hch : ∀ u ∈ v.l, u.l.length ≤ 4194304) : Calls Tryz.prog 38 #[x.v] w fun e w' => e = .returned (.bool (kids v)) ∧ Below w.heap.size w w' := by
 obtain ⟨ka, kc, la, lc, rfl, h1, h2, h3, h4⟩ := h.open
 rcases hl0 : v.l with _ | ⟨d, r⟩
 ·have HV := Lib.hid (kids_36 hk)
  rw [hl0] at HV
  simp only [X.v]
  rw [hk, HV.out]
  clear h h1 h2 h3 h4 hk hl HV hl0 hch
  simp only [List.length_nil]
  generalize v.nm = nm at *
  generalize v.n = n at *
  generalize v.s = s at *
  generalize v.ks.length = kn at *
  go_enter Tryz.func38, Tryz.ntmps38
  go_wp2_with fail
  go_ret
  exact ⟨rfl, below_alloc w _⟩
 have HV := Lib.hid (kids_36 hk)
 rw [hl0] at HV h2 h4 hl hch
 dsimp only at HV
 simp only [X.v]
 rw [hk]
 obtain ⟨g, o, y, rfl, hg, hy, hya, hr⟩ := h4.cons
 have hlr : r.length ≤ 4194304 := by simp only [List.length_cons] at hl; omega
 have hchr : ∀ u ∈ r, u.l.length ≤ 4194304 := fun u hu => hch u (List.mem_cons_of_mem _ hu)
 have HC := Lib.hid fun w' (hb : Below w.heap.size w w') => isExpr_any d y w' (Is.below hb _ _ hya)
 have HA := Lib.hid fun w' A c (hb : Below w.heap.size w w') (hA : A = some ⟨g, o + 6, none⟩ ∨ r.length = 0) => all_any _ (isK 37) ent_isCase r (on_isCase r) A c w' (row_or (hr.below hb) hA) hlr
 have HN := Lib.hid fun w' A c (hb : Below w.heap.size w w') (hA : A = some ⟨g, o + 6, none⟩ ∨ r.length = 0) => count_any _ isDf ent_isDefault r (on_isDefault r hchr) A c w' (row_or (hr.below hb) hA) hlr
 have HB := Lib.hid (below_alloc w (.cells #[.int .i64 36, .string v.nm, .int .i64 v.n, .string v.s, .slice ka v.ks.length kc, .slice (some ⟨g, o, none⟩) (d :: r).length lc] 25))
 obtain ⟨c0, c1, c2, c3, c4, c5⟩ := hy.below hg HB.out
 obtain ⟨yk, ynm, yn, ys, yka, ykn, ykc, yla, yln, ylc⟩ := y
 dsimp only at c0 c1 c2 c3 c4 c5
 simp only [X.v] at HC
 simp only [List.length_cons] at *
 have hl1 : (0 : Int) < (r.length : Int) + 1 := by omega
 have hl2 : (r.length : Int) ≤ 4194304 := by omega
 have hl3 : (r.length : Int) + 1 ≤ (lc : Int) := by omega
 clear h h1 h2 h3 h4 hk hl hl0 hch hy hya hr hg hlr hchr
 rw [HV.out]
 clear HV
 generalize isE d = P at *
 generalize r.all (isK 37) = Q at *
 generalize r.countP isDf = N at *
 generalize v.nm = nm at *
 generalize v.n = n at *
 generalize v.s = s at *
 generalize v.ks.length = kn at *
 generalize r.length = ln at *
 go_enter Tryz.func38, Tryz.ntmps38
 go_wp2_with fail
 refine (HC.out _ HB.out).mono ?_
 rintro e w' ⟨rfl, hb⟩
 have hb2 := HB.out.trans (hb.mono HB.out.size)
 clear hb c0 c1 c2 c3 c4 c5
 cases P
 ·go_wp2_with fail
  go_ret
  exact ⟨rfl, hb2⟩
 cases Q
 ·go_wp2_with fail
  all_goals
   refine (HA.out _ _ _ hb2 (by first | exact .inl rfl | exact .inr (by omega))).mono ?_
   rintro e w2 ⟨rfl, hb⟩
   have hb3 := hb2.trans (hb.mono hb2.size)
   clear hb
   go_wp2_with fail
   go_ret
   exact ⟨rfl, hb3⟩
 ·go_wp2_with fail
  all_goals
   refine (HA.out _ _ _ hb2 (by first | exact .inl rfl | exact .inr (by omega))).mono ?_
   rintro e w2 ⟨rfl, hb⟩
   have hb3 := hb2.trans (hb.mono hb2.size)
   clear hb
   go_wp2_with fail
   refine (HN.out _ _ _ hb3 (by first | exact .inl rfl | exact .inr (by omega))).mono ?_
   rintro e w3 ⟨rfl, hb⟩
   have hb4 := hb3.trans (hb.mono hb3.size)
   clear hb
   go_wp2_with fail
   go_ret
   exact ⟨ret_bool (le_one _), hb4⟩
theorem kids_35a {v : V} (h : v.k = 35) (hl : ¬ v.l.length = 3) : kids v = false := by
 rw [kids_35 h, are_len _ _ (by simpa using hl), Bool.false_and]
theorem kids_35b {v a b c : V} (h : v.k = 35) (hl : v.l = [a, b, c]) : kids v = (are [isK 25, isBO, isBO] v.l && (isK 25 b || isK 25 c)) := by
 rw [kids_35 h, hl]
theorem hc_35a (v : V) (x : X) (w : World) (h : Is w v x) (hk : v.k = 35) (hl : v.l.length ≤ 4194304) (h3n : ¬ v.l.length = 3) : Calls Tryz.prog 38 #[x.v] w fun e w' => e = .returned (.bool (kids v)) ∧ Below w.heap.size w w' := by
 obtain ⟨ka, kc, la, lc, rfl, h1, h2, h3, h4⟩ := h.open
 have HC := Lib.hid fun w' g (hb : Below w.heap.size w w') (hg : g < w'.heap.size) (c0 : w'.cell? ⟨g, 0, none⟩ = some (.func (.func 63) #[] #[])) (c1 : w'.cell? ⟨g, 1, none⟩ = some (.func (.func 67) #[] #[])) (c2 : w'.cell? ⟨g, 2, none⟩ = some (.func (.func 67) #[] #[])) => areC3 ent_isBlock (on_isBlock v.l) ent_isBlockOrEmpty (on_isBlockOrEmpty v.l) ent_isBlockOrEmpty (on_isBlockOrEmpty v.l) (c := lc) hg c0 c1 c2 (h4.below hb) hl
 have HV := Lib.hid (kids_35a hk h3n)
 have hA : are [isK 25, isBO, isBO] v.l = false := are_len _ _ (by simpa using h3n)
 rw [hA] at HC
 have HB := Lib.hid ((below_alloc w (.cells #[.int .i64 35, .string v.nm, .int .i64 v.n, .string v.s, .slice ka v.ks.length kc, .slice la v.l.length lc] 25)).trans (below_alloc_le (by simp) (.cells #[.func (.func 63) #[] #[], .func (.func 67) #[] #[], .func (.func 67) #[] #[]] 29)))
 simp only [X.v]
 rw [hk, HV.out]
 clear h h1 h2 h3 h4 hk hl HV hA h3n
 generalize v.nm = nm at *
 generalize v.n = n at *
 generalize v.s = s at *
 generalize v.ks.length = kn at *
 generalize v.l.length = ln at *
 go_enter Tryz.func38, Tryz.ntmps38
 go_wp2_with fail
 refine (HC.out _ _ HB.out (by simp) (by simp) (by simp) (by simp)).mono ?_
 rintro e w' ⟨rfl, hb⟩
 have hb2 := HB.out.trans (hb.mono HB.out.size)
 clear hb
 go_wp2_with fail
 go_ret
 exact ⟨rfl, hb2⟩
theorem hc_35b (v : V) (x : X) (w : World) (h : Is w v x) (hk : v.k = 35) (hl : v.l.length ≤ 4194304) (a b c : V) (hl3 : v.l = [a, b, c]) : Calls Tryz.prog 38 #[x.v] w fun e w' => e = .returned (.bool (kids v)) ∧ Below w.heap.size w w' := by
 obtain ⟨ka, kc, la, lc, rfl, h1, h2, h3, h4⟩ := h.open
 have HC := Lib.hid fun w' g (hb : Below w.heap.size w w') (hg : g < w'.heap.size) (c0 : w'.cell? ⟨g, 0, none⟩ = some (.func (.func 63) #[] #[])) (c1 : w'.cell? ⟨g, 1, none⟩ = some (.func (.func 67) #[] #[])) (c2 : w'.cell? ⟨g, 2, none⟩ = some (.func (.func 67) #[] #[])) => areC3 ent_isBlock (on_isBlock v.l) ent_isBlockOrEmpty (on_isBlockOrEmpty v.l) ent_isBlockOrEmpty (on_isBlockOrEmpty v.l) (c := lc) hg c0 c1 c2 (h4.below hb) hl
 have HV := Lib.hid (kids_35b hk hl3)
 have HB := Lib.hid ((below_alloc w (.cells #[.int .i64 35, .string v.nm, .int .i64 v.n, .string v.s, .slice ka v.ks.length kc, .slice la v.l.length lc] 25)).trans (below_alloc_le (by simp) (.cells #[.func (.func 63) #[] #[], .func (.func 67) #[] #[], .func (.func 67) #[] #[]] 29)))
 simp only [X.v]
 rw [hk, HV.out]
 clear HV
 generalize are [isK 25, isBO, isBO] v.l = P at *
 have hln : v.l.length = 3 := by rw [hl3]; rfl
 rw [hl3] at h4
 obtain ⟨g, o, -, rfl, hg, -, -, hr1⟩ := h4.cons
 obtain ⟨g2, o2, z, e2, -, hz, hza, hr2⟩ := hr1.cons
 cases e2
 obtain ⟨g3, o3, u, e3, -, hu0, hua, -⟩ := hr2.cons
 cases e3
 have hu : At w g (o + 12) u := hu0
 have HE := Lib.hid fun w' (hb : Below w.heap.size w w') => isBlock_any b z w' (Is.below hb _ _ hza)
 have HF := Lib.hid fun w' (hb : Below w.heap.size w w') => isBlock_any c u w' (Is.below hb _ _ hua)
 have HZ := Lib.hid fun w' (hb : Below w.heap.size w w') => hz.below hg hb
 have HU := Lib.hid fun w' (hb : Below w.heap.size w w') => hu.below hg hb
 clear h h1 h2 h3 h4 hk hl hl3 hz hza hu hu0 hua hg hr1 hr2
 obtain ⟨zk, znm, zn, zs, zka, zkn, zkc, zla, zln, zlc⟩ := z
 obtain ⟨uk, unm, un, us, uka, ukn, ukc, ula, uln, ulc⟩ := u
 simp only [X.v] at HE HF
 generalize isK 25 b = Q at *
 generalize isK 25 c = R at *
 generalize v.nm = nm at *
 generalize v.n = n at *
 generalize v.s = s at *
 generalize v.ks.length = kn at *
 generalize v.l.length = ln at *
 subst hln
 go_enter Tryz.func38, Tryz.ntmps38
 go_wp2_with fail
 refine (HC.out _ _ HB.out (by simp) (by simp) (by simp) (by simp)).mono ?_
 rintro e w' ⟨rfl, hb⟩
 have hb2 := HB.out.trans (hb.mono HB.out.size)
 clear hb
 cases P
 ·go_wp2_with fail
  go_ret
  exact ⟨rfl, hb2⟩
 obtain ⟨c0, c1, c2, c3, c4, c5⟩ := HZ.out w' hb2
 obtain ⟨d0, d1, d2, d3, d4, d5⟩ := HU.out w' hb2
 dsimp only at c0 c1 c2 c3 c4 c5 d0 d1 d2 d3 d4 d5
 go_wp2_with fail
 refine (HE.out _ hb2).mono ?_
 rintro e w2 ⟨rfl, hb⟩
 have hb3 := hb2.trans (hb.mono hb2.size)
 clear hb c0 c1 c2 c3 c4 c5 d0 d1 d2 d3 d4 d5
 obtain ⟨d0, d1, d2, d3, d4, d5⟩ := (HU.out w2 hb3).six
 cases Q
 ·go_wp2_with fail
  refine (HF.out _ hb3).mono ?_
  rintro e w3 ⟨rfl, hb⟩
  have hb4 := hb3.trans (hb.mono hb3.size)
  clear hb d0 d1 d2 d3 d4 d5
  go_wp2_with fail
  go_ret
  exact ⟨rfl, hb4⟩
 ·go_wp2_with fail
  go_ret
  exact ⟨rfl, hb3⟩
theorem hc_35 (v : V) (x : X) (w : World) (h : Is w v x) (hk : v.k = 35) (hl : v.l.length ≤ 4194304) : Calls Tryz.prog 38 #[x.v] w fun e w' => e = .returned (.bool (kids v)) ∧ Below w.heap.size w w' := by
 rcases hl3 : v.l with _ | ⟨a, _ | ⟨b, _ | ⟨c, _ | ⟨d, r⟩⟩⟩⟩
 ·exact hc_35a v x w h hk hl (by rw [hl3]; simp)
 ·exact hc_35a v x w h hk hl (by rw [hl3]; simp)
 ·exact hc_35a v x w h hk hl (by rw [hl3]; simp)
 ·exact hc_35b v x w h hk hl a b c hl3
 ·exact hc_35a v x w h hk hl (by rw [hl3]; simp)
def Small2 (v : V) : Prop := Small v ∧ ∀ u ∈ v.l, u.l.length ≤ 4194304
theorem hasChildren_any (v : V) (x : X) (w : World) (h : Is w v x) (hs : Small2 v) : Calls Tryz.prog 38 #[x.v] w fun e w' => e = .returned (.bool (kids v)) ∧ Below w.heap.size w w' := by
 obtain ⟨⟨-, -, -, -, s5⟩, s6⟩ := hs
 by_cases h41 : v.k = 41
 ·exact hc_41 v x w h h41 s5
 by_cases h10 : v.k = 10
 ·exact hc_10 v x w h h10 s5
 by_cases h39 : v.k = 39
 ·exact hc_39 v x w h h39 s5
 by_cases h7 : v.k = 7
 ·exact hc_7 v x w h h7 s5
 by_cases h8 : v.k = 8
 ·exact hc_8 v x w h h8 s5
 by_cases h13 : v.k = 13
 ·exact hc_13 v x w h h13 s5
 by_cases h14 : v.k = 14
 ·exact hc_14 v x w h h14 s5
 by_cases h9 : v.k = 9
 ·exact hc_9 v x w h h9 s5
 by_cases h11 : v.k = 11
 ·exact hc_11 v x w h h11 s5
 by_cases h15 : v.k = 15
 ·exact hc_15 v x w h h15 s5
 by_cases h24 : v.k = 24
 ·exact hc_24 v x w h h24 s5
 by_cases h34 : v.k = 34
 ·exact hc_34 v x w h h34 s5
 by_cases h12 : v.k = 12
 ·exact hc_12 v x w h h12 s5
 by_cases h17 : v.k = 17
 ·exact hc_17 v x w h h17 s5
 by_cases h18 : v.k = 18
 ·exact hc_18 v x w h h18 s5
 by_cases h21 : v.k = 21
 ·exact hc_21 v x w h h21 s5
 by_cases h19 : v.k = 19
 ·exact hc_19 v x w h h19 s5
 by_cases h16 : v.k = 16
 ·exact hc_16 v x w h h16 s5
 by_cases h20 : v.k = 20
 ·exact hc_20 v x w h h20 s5
 by_cases h22 : v.k = 22
 ·exact hc_22 v x w h h22 s5
 by_cases h23 : v.k = 23
 ·exact hc_23 v x w h h23 s5
 by_cases h33 : v.k = 33
 ·exact hc_33 v x w h h33 s5
 by_cases h25 : v.k = 25
 ·exact hc_25 v x w h h25 s5
 by_cases h26 : v.k = 26
 ·exact hc_26 v x w h h26 s5
 by_cases h27 : v.k = 27
 ·exact hc_27 v x w h h27 s5
 by_cases h28 : v.k = 28
 ·exact hc_28 v x w h h28 s5
 by_cases h29 : v.k = 29
 ·exact hc_29 v x w h h29 s5
 by_cases h30 : v.k = 30
 ·exact hc_30 v x w h h30 s5 s6
 by_cases h35 : v.k = 35
 ·exact hc_35 v x w h h35 s5
 by_cases h36 : v.k = 36
 ·exact hc_36 v x w h h36 s5 s6
 by_cases h37 : v.k = 37
 ·exact hc_37 v x w h h37 s5 s6
 by_cases h38 : v.k = 38
 ·exact hc_38 v x w h h38 s5
 exact hc_x v x w h (by simp only [h41, h10, h39, h7, h8, h13, h14, h9, h11, h15, h24, h34, h12, h17, h18, h21, h19, h16, h20, h22, h23, h33, h25, h26, h27, h28, h29, h30, h35, h36, h37, h38, not_false_eq_true, and_self])
theorem isRight_any (v : V) (x : X) (w : World) (h : Is w v x) (hs : Small2 v) : Calls Tryz.prog 27 #[x.v] w fun e w' => e = .returned (.bool (right v)) ∧ Below w.heap.size w w' := by
 have HF := Lib.hid fun w' (hb : Below w.heap.size w w') => hasFields_any v x w' (Is.below hb _ _ h) hs.1
 have HK := Lib.hid fun w' (hb : Below w.heap.size w w') => hasChildren_any v x w' (Is.below hb _ _ h) hs
 have HV : Hid (right v = (fields (ctch v) v && kids v)) := Lib.hid rfl
 rw [HV.out]
 clear HV
 generalize fields (ctch v) v = P at *
 generalize kids v = Q at *
 clear h hs
 obtain ⟨k, nm, n, s, ka, kn, kc, la, ln, lc⟩ := x
 simp only [X.v] at *
 have HB := Lib.hid (below_alloc w (.cells #[.int .i64 k, .string nm, .int .i64 n, .string s, .slice ka kn kc, .slice la ln lc] 25))
 go_enter Tryz.func27, Tryz.ntmps27
 go_wp2_with fail
 refine (HF.out _ HB.out).mono ?_
 rintro e w' ⟨rfl, hb⟩
 have hb2 := HB.out.trans (hb.mono HB.out.size)
 have c0 : w'.cell? ⟨w.heap.size, 0, none⟩ = some (.int .i64 k) := (hb.cell (p := ⟨w.heap.size, 0, none⟩) (by simp)).trans (by simp)
 have c1 : w'.cell? ⟨w.heap.size, 1, none⟩ = some (.string nm) := (hb.cell (p := ⟨w.heap.size, 1, none⟩) (by simp)).trans (by simp)
 have c2 : w'.cell? ⟨w.heap.size, 2, none⟩ = some (.int .i64 n) := (hb.cell (p := ⟨w.heap.size, 2, none⟩) (by simp)).trans (by simp)
 have c3 : w'.cell? ⟨w.heap.size, 3, none⟩ = some (.string s) := (hb.cell (p := ⟨w.heap.size, 3, none⟩) (by simp)).trans (by simp)
 have c4 : w'.cell? ⟨w.heap.size, 4, none⟩ = some (.slice ka kn kc) := (hb.cell (p := ⟨w.heap.size, 4, none⟩) (by simp)).trans (by simp)
 have c5 : w'.cell? ⟨w.heap.size, 5, none⟩ = some (.slice la ln lc) := (hb.cell (p := ⟨w.heap.size, 5, none⟩) (by simp)).trans (by simp)
 clear hb
 cases P
 ·go_wp2_with fail
  go_ret
  exact ⟨rfl, hb2⟩
 ·go_wp2_with fail
  refine (HK.out _ hb2).mono ?_
  rintro e w2 ⟨rfl, hb⟩
  have hb3 := hb2.trans (hb.mono hb2.size)
  clear hb c0 c1 c2 c3 c4 c5
  go_wp2_with fail
  go_ret
  exact ⟨rfl, hb3⟩
end Go.Proofs.YtllpgoaanbiodaaGreatDoor.R
