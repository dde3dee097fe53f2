/-
  Laid by wip/scope/lay.py out of wip/tree: Hf Hg.
  isOperator, hasFields, by contract. (gen_f.py)
  hasFields, kind for kind. (gen_h.py)
-/
import Derived.Test.YtgehgccgologpaaKd
import Derived.Test.YtgehgccgologpaaS
import Derived.BigQuiet
import Derived.Deep.QuietTactic
import Derived.Deep.Draws
import Derived.Deep.RegionHeld3
namespace Go.Proofs.Ytgehgccgologpaa.R
open Go.RowKit Go.Proofs.Ytgehgccgologpaa Go.Proofs.Ytgehgccgologpaa.T
theorem hitOp {k : Int} {s : ByteArray} {l : Bs} (h : (s.toList == l) = true) (hl : opOk k l = true) : opOk k (bl s) = true := by
  rw [show bl s = s.toList from (Lib.toList_data s).symm, eq_of_beq h]; exact hl
theorem of_bl' {s : ByteArray} {l : Bs} (h : bl s = l) : s = ⟨l.toArray⟩ := by subst h; rfl
theorem opl_bi (s : Bs) : opOk 17 s = decide (5 ≤ opl s) := by
  have h : opOk 17 s = biOps.contains s := rfl
  rw [h, Bool.eq_iff_iff, List.contains_iff_mem, decide_eq_true_eq]
  unfold opl
  constructor
  · intro hm
    unfold biOps at hm
    simp only [List.mem_cons, List.not_mem_nil, or_false] at hm
    rcases hm with hm | hm | hm | hm | hm | hm | hm | hm | hm | hm | hm | hm | hm | hm | hm <;> (rw [hm]; decide)
  · intro h5
    unfold biOps
    simp only [List.mem_cons, List.not_mem_nil, or_false]
    split at h5
    · omega
    · split at h5
      · omega
      · split at h5
        · rename_i hm; rcases hm with hm | hm | hm | hm <;> simp [hm]
        · split at h5
          · rename_i hm; rcases hm with hm | hm | hm | hm | hm | hm <;> simp [hm]
          · split at h5
            · rename_i hm; rcases hm with hm | hm <;> simp [hm]
            · split at h5
              · rename_i hm; rcases hm with hm | hm | hm <;> simp [hm]
              · omega
set_option maxRecDepth 8000 in
set_option maxHeartbeats 2000000 in
theorem oper_15 (x : X) (w : World) (hk : x.k = 15) : Calls Try.prog 91 #[x.v] w fun e w' => e = .returned (.bool (opOk 15 (bl x.nm))) ∧ Below w.heap.size w w' := by
  obtain ⟨k, nm, n, s, ka, kn, kc, la, ln, lc⟩ := x
  simp only [X.v] at *
  subst hk
  have HB := Lib.hid (below_alloc w (.cells #[.int .i64 15, .string nm, .int .i64 n, .string s, .slice ka kn kc, .slice la ln lc] 25))
  go_enter Try.func91, Try.ntmps91
  go_wp2
  all_goals first
    | (exfalso; exact noBoth (by assumption) (by assumption))
    | (go_ret; exact ⟨ret_bool (hitOp (by assumption) (by decide +kernel)).symm, HB.out⟩)
    | (go_ret; exact ⟨ret_bool (by symm; rw [show bl nm = nm.toList from (Lib.toList_data nm).symm]; simp only [opOk, ops, unOps, List.contains_cons, List.contains_nil, *, Bool.or_false, Int.reduceEq, if_true, if_false]), HB.out⟩)
    | (go_ret; exact ⟨ret_bool (by symm; rw [show bl nm = nm.toList from (Lib.toList_data nm).symm]; show unOps.contains _ = _; simp only [unOps, List.contains_cons, List.contains_nil, *, Bool.or_false, Bool.or_true, Bool.false_or, Bool.true_or]), HB.out⟩)
set_option maxRecDepth 8000 in
set_option maxHeartbeats 2000000 in
theorem oper_20 (x : X) (w : World) (hk : x.k = 20) : Calls Try.prog 91 #[x.v] w fun e w' => e = .returned (.bool (opOk 20 (bl x.nm))) ∧ Below w.heap.size w w' := by
  obtain ⟨k, nm, n, s, ka, kn, kc, la, ln, lc⟩ := x
  simp only [X.v] at *
  subst hk
  have HB := Lib.hid (below_alloc w (.cells #[.int .i64 20, .string nm, .int .i64 n, .string s, .slice ka kn kc, .slice la ln lc] 25))
  go_enter Try.func91, Try.ntmps91
  go_wp2
  all_goals first
    | (exfalso; exact noBoth (by assumption) (by assumption))
    | (go_ret; exact ⟨ret_bool (hitOp (by assumption) (by decide +kernel)).symm, HB.out⟩)
    | (go_ret; exact ⟨ret_bool (by symm; rw [show bl nm = nm.toList from (Lib.toList_data nm).symm]; simp only [opOk, ops, asOps, List.contains_cons, List.contains_nil, *, Bool.or_false, Int.reduceEq, if_true, if_false]), HB.out⟩)
    | (go_ret; exact ⟨ret_bool (by symm; rw [show bl nm = nm.toList from (Lib.toList_data nm).symm]; show asOps.contains _ = _; simp only [asOps, List.contains_cons, List.contains_nil, *, Bool.or_false, Bool.or_true, Bool.false_or, Bool.true_or]), HB.out⟩)
set_option maxRecDepth 8000 in
theorem oper_16 (x : X) (w : World) (hk : x.k = 16) : Calls Try.prog 91 #[x.v] w fun e w' => e = .returned (.bool (opOk 16 (bl x.nm))) ∧ Below w.heap.size w w' := by
  obtain ⟨k, nm, n, s, ka, kn, kc, la, ln, lc⟩ := x
  simp only [X.v] at *
  subst hk
  have HB := Lib.hid (below_alloc w (.cells #[.int .i64 16, .string nm, .int .i64 n, .string s, .slice ka kn kc, .slice la ln lc] 25))
  by_cases h1 : bl nm = [43, 43]
  · have hv : opOk 16 (bl nm) = true := by rw [h1]; rfl
    rw [hv]
    obtain rfl := of_bl' h1
    clear hv h1
    go_enter Try.func91, Try.ntmps91
    go_wp2_with fail
    go_ret
    exact ⟨rfl, HB.out⟩
  · by_cases h2 : bl nm = [45, 45]
    · have hv : opOk 16 (bl nm) = true := by rw [h2]; rfl
      rw [hv]
      obtain rfl := of_bl' h2
      clear hv h2 h1
      go_enter Try.func91, Try.ntmps91
      go_wp2_with fail
      go_ret
      exact ⟨rfl, HB.out⟩
    · have hv : opOk 16 (bl nm) = false := by
        show (upOps).contains _ = false
        rw [Bool.eq_false_iff]
        intro h
        rw [List.contains_iff_mem] at h
        unfold upOps at h
        simp only [List.mem_cons, List.not_mem_nil, or_false] at h
        rcases h with h | h
        · first | exact h1 h | exact h2 h
        · first | exact h1 h | exact h2 h
      rw [hv]
      have b1 : (nm.toList == [43, 43]) = false := by
        rw [Lib.toList_data, beq_eq_false_iff_ne]
        exact h1
      have b2 : (nm.toList == [45, 45]) = false := by
        rw [Lib.toList_data, beq_eq_false_iff_ne]
        exact h2
      clear hv h1 h2
      go_enter Try.func91, Try.ntmps91
      go_wp2_with fail
      go_ret
      exact ⟨rfl, HB.out⟩
set_option maxRecDepth 8000 in
theorem oper_18 (x : X) (w : World) (hk : x.k = 18) : Calls Try.prog 91 #[x.v] w fun e w' => e = .returned (.bool (opOk 18 (bl x.nm))) ∧ Below w.heap.size w w' := by
  obtain ⟨k, nm, n, s, ka, kn, kc, la, ln, lc⟩ := x
  simp only [X.v] at *
  subst hk
  have HB := Lib.hid (below_alloc w (.cells #[.int .i64 18, .string nm, .int .i64 n, .string s, .slice ka kn kc, .slice la ln lc] 25))
  by_cases h1 : bl nm = [38, 38]
  · have hv : opOk 18 (bl nm) = true := by rw [h1]; rfl
    rw [hv]
    obtain rfl := of_bl' h1
    clear hv h1
    go_enter Try.func91, Try.ntmps91
    go_wp2_with fail
    go_ret
    exact ⟨rfl, HB.out⟩
  · by_cases h2 : bl nm = [124, 124]
    · have hv : opOk 18 (bl nm) = true := by rw [h2]; rfl
      rw [hv]
      obtain rfl := of_bl' h2
      clear hv h2 h1
      go_enter Try.func91, Try.ntmps91
      go_wp2_with fail
      go_ret
      exact ⟨rfl, HB.out⟩
    · have hv : opOk 18 (bl nm) = false := by
        show (loOps).contains _ = false
        rw [Bool.eq_false_iff]
        intro h
        rw [List.contains_iff_mem] at h
        unfold loOps at h
        simp only [List.mem_cons, List.not_mem_nil, or_false] at h
        rcases h with h | h
        · first | exact h1 h | exact h2 h
        · first | exact h1 h | exact h2 h
      rw [hv]
      have b1 : (nm.toList == [38, 38]) = false := by
        rw [Lib.toList_data, beq_eq_false_iff_ne]
        exact h1
      have b2 : (nm.toList == [124, 124]) = false := by
        rw [Lib.toList_data, beq_eq_false_iff_ne]
        exact h2
      clear hv h1 h2
      go_enter Try.func91, Try.ntmps91
      go_wp2_with fail
      go_ret
      exact ⟨rfl, HB.out⟩
set_option maxRecDepth 8000 in
theorem oper_17 (x : X) (w : World) (hk : x.k = 17) : Calls Try.prog 91 #[x.v] w fun e w' => e = .returned (.bool (opOk 17 (bl x.nm))) ∧ Below w.heap.size w w' := by
  have HO := Lib.hid fun w => opLevel_any x.nm w
  have HV := Lib.hid (opl_bi (bl x.nm))
  have h8 := opl_le (bl x.nm)
  obtain ⟨k, nm, n, s, ka, kn, kc, la, ln, lc⟩ := x
  simp only [X.v] at *
  subst hk
  have HB := Lib.hid (below_alloc w (.cells #[.int .i64 17, .string nm, .int .i64 n, .string s, .slice ka kn kc, .slice la ln lc] 25))
  rw [HV.out]
  generalize opl (bl nm) = L at *
  clear HV
  by_cases h5 : 5 ≤ L
  · have h5' : decide ((5 : Int) ≤ (L : Int)) = true := decide_eq_true (by omega)
    rw [decide_eq_true h5]
    clear h5
    go_enter Try.func91, Try.ntmps91
    go_wp2_with fail
    refine (HO.out _).mono ?_
    rintro e w' ⟨rfl, rfl⟩
    go_wp2_with fail
    go_ret
    exact ⟨rfl, HB.out⟩
  · have h5' : decide ((5 : Int) ≤ (L : Int)) = false := decide_eq_false (by omega)
    rw [decide_eq_false h5]
    clear h5
    go_enter Try.func91, Try.ntmps91
    go_wp2_with fail
    refine (HO.out _).mono ?_
    rintro e w' ⟨rfl, rfl⟩
    go_wp2_with fail
    go_ret
    exact ⟨rfl, HB.out⟩
end Go.Proofs.Ytgehgccgologpaa.R
namespace Go.Proofs.Ytgehgccgologpaa.R
open Go.RowKit Go.Proofs.Ytgehgccgologpaa Go.Proofs.Ytgehgccgologpaa.T
theorem beq_zero (n : Nat) : ((n : Int) == 0) = decide (n = 0) := by
  rw [Bool.eq_iff_iff, beq_iff_eq, decide_eq_true_eq]
  omega
theorem isBit_any (n : Int) (w : World) : Calls Try.prog 85 #[.int .i64 n] w fun e w' => e = .returned (.bool (decide (n = 0 ∨ n = 1))) ∧ w = w' := by
  by_cases h0 : n = 0
  · subst h0
    go_enter Try.func85, Try.ntmps85
    go_wp2_with fail
    go_ret
    exact ⟨rfl, rfl⟩
  · by_cases h1 : n = 1
    · subst h1
      go_enter Try.func85, Try.ntmps85
      go_wp2_with fail
      go_ret
      exact ⟨rfl, rfl⟩
    · have b0 : (n == 0) = false := by rw [beq_eq_false_iff_ne]; exact h0
      have b1 : (n == 1) = false := by rw [beq_eq_false_iff_ne]; exact h1
      have HV : Hid (decide (n = 0 ∨ n = 1) = false) := decide_eq_false (by omega)
      rw [HV.out]
      clear h0 h1 HV
      go_enter Try.func85, Try.ntmps85
      go_wp2_with fail
      go_ret
      exact ⟨rfl, rfl⟩
theorem fields_x {v : V} {c : Bool} (h : ¬ v.k = 1 ∧ ¬ v.k = 6 ∧ ¬ v.k = 2 ∧ ¬ v.k = 9 ∧ ¬ v.k = 3 ∧ ¬ v.k = 23 ∧ ¬ v.k = 38 ∧ ¬ v.k = 11 ∧ ¬ v.k = 31 ∧ ¬ v.k = 32 ∧ ¬ v.k = 10 ∧ ¬ v.k = 39 ∧ ¬ v.k = 35 ∧ ¬ v.k = 16 ∧ ¬ v.k = 15 ∧ ¬ v.k = 17 ∧ ¬ v.k = 18 ∧ ¬ v.k = 20) : fields c v = (decide (v.nm.size = 0) && (decide (v.n = 0) && (decide (v.s.size = 0) && v.ks.isEmpty))) := by
  unfold fields nmOk numOk txOk nsOk
  repeat rw [if_neg (by omega)]
set_option maxRecDepth 8000 in
set_option maxHeartbeats 2000000 in
theorem hf_x (v : V) (x : X) (w : World) (h : Is w v x) (hk : ¬ v.k = 1 ∧ ¬ v.k = 6 ∧ ¬ v.k = 2 ∧ ¬ v.k = 9 ∧ ¬ v.k = 3 ∧ ¬ v.k = 23 ∧ ¬ v.k = 38 ∧ ¬ v.k = 11 ∧ ¬ v.k = 31 ∧ ¬ v.k = 32 ∧ ¬ v.k = 10 ∧ ¬ v.k = 39 ∧ ¬ v.k = 35 ∧ ¬ v.k = 16 ∧ ¬ v.k = 15 ∧ ¬ v.k = 17 ∧ ¬ v.k = 18 ∧ ¬ v.k = 20) : Calls Try.prog 65 #[x.v] w fun e w' => e = .returned (.bool (fields (ctch v) v)) ∧ Below w.heap.size w w' := by
  obtain ⟨ka, kc, la, lc, rfl, h1, h2, h3, h4⟩ := h.open
  have HV := Lib.hid (fields_x (c := ctch v) hk)
  have HTn := Lib.hid (toList_nil v.nm)
  have HTs := Lib.hid (toList_nil v.s)
  have HE : Hid (v.ks.isEmpty = decide (v.ks.length = 0)) := by
    show _ = _
    cases v.ks <;> simp
  simp only [X.v] at *
  have hbe : ∀ m : Int, ¬ v.k = m → (v.k == m) = false := fun m hm => by rw [beq_eq_false_iff_ne]; exact hm
  have b1 := hbe 1 (by omega)
  have b6 := hbe 6 (by omega)
  have b2 := hbe 2 (by omega)
  have b9 := hbe 9 (by omega)
  have b3 := hbe 3 (by omega)
  have b23 := hbe 23 (by omega)
  have b38 := hbe 38 (by omega)
  have b11 := hbe 11 (by omega)
  have b31 := hbe 31 (by omega)
  have b32 := hbe 32 (by omega)
  have b10 := hbe 10 (by omega)
  have b39 := hbe 39 (by omega)
  have b35 := hbe 35 (by omega)
  have b16 := hbe 16 (by omega)
  have b15 := hbe 15 (by omega)
  have b17 := hbe 17 (by omega)
  have b18 := hbe 18 (by omega)
  have b20 := hbe 20 (by omega)
  rw [HE.out] at HV
  clear h h1 h2 h3 h4 hk HE hbe
  generalize v.k = k at *
  generalize v.nm = nm at *
  generalize v.n = n at *
  generalize v.s = s at *
  generalize v.ks.length = kn at *
  generalize v.l.length = ln at *
  go_enter Try.func65, Try.ntmps65
  go_wp2_with fail
  go_quiet (fail)
  go_wp2_with fail
  all_goals go_ret
  all_goals refine ⟨ret_bool ?_, (below_alloc w _).trans (below_drewN _ _ _)⟩
  all_goals clear b1 b6 b2 b9 b3 b23 b38 b11 b31 b32 b10 b39 b35 b16 b15 b17 b18 b20
  all_goals rw [HV.out]
  all_goals have hTn := HTn.out
  all_goals have hTs := HTs.out
  all_goals simp_all
  all_goals exact beq_zero _
set_option maxRecDepth 8000 in
set_option maxHeartbeats 2000000 in
theorem hf_3 (v : V) (x : X) (w : World) (h : Is w v x) (hk : v.k = 3) (hsz : v.nm.size ≤ 4194304) : Calls Try.prog 65 #[x.v] w fun e w' => e = .returned (.bool (fields (ctch v) v)) ∧ Below w.heap.size w w' := by
  obtain ⟨ka, kc, la, lc, rfl, h1, h2, h3, h4⟩ := h.open
  have HV : Hid (fields (ctch v) v = (isNm v.nm && (decide (v.n = 0) && (decide (v.s.size = 0) && v.ks.isEmpty)))) := by
    show _ = _
    unfold fields
    rw [nm_3 hk]
    unfold numOk txOk nsOk
    rw [hk]
    rfl
  have HTn := Lib.hid (toList_nil v.nm)
  have HTs := Lib.hid (toList_nil v.s)
  have HE : Hid (v.ks.isEmpty = decide (v.ks.length = 0)) := by
    show _ = _
    cases v.ks <;> simp
  simp only [X.v] at *
  rw [hk] at *
  have HC := Lib.hid fun w => isName_any v.nm w hsz
  try rw [HE.out] at HV
  clear h h1 h2 h3 h4 hk HE hsz
  generalize isNm v.nm = P at *
  generalize v.nm = nm at *
  generalize v.n = n at *
  generalize v.s = s at *
  generalize v.ks.length = kn at *
  generalize v.l.length = ln at *
  go_enter Try.func65, Try.ntmps65
  go_wp2_with fail
  go_quiet (fail)
  go_wp2_with fail
  all_goals
    refine (HC.out _).mono ?_
    rintro e w' ⟨rfl, rfl⟩
    go_wp2_with fail
  all_goals go_ret
  all_goals refine ⟨ret_bool ?_, (below_alloc w _).trans (below_drewN _ _ _)⟩
  all_goals rw [HV.out]
  all_goals have hTn := HTn.out
  all_goals have hTs := HTs.out
  all_goals clear hTn HTn
  all_goals simp_all
  all_goals exact beq_zero _
set_option maxRecDepth 8000 in
set_option maxHeartbeats 2000000 in
theorem hf_23 (v : V) (x : X) (w : World) (h : Is w v x) (hk : v.k = 23) (hsz : v.nm.size ≤ 4194304) : Calls Try.prog 65 #[x.v] w fun e w' => e = .returned (.bool (fields (ctch v) v)) ∧ Below w.heap.size w w' := by
  obtain ⟨ka, kc, la, lc, rfl, h1, h2, h3, h4⟩ := h.open
  have HV : Hid (fields (ctch v) v = (isNm v.nm && (decide (v.n = 0) && (decide (v.s.size = 0) && v.ks.isEmpty)))) := by
    show _ = _
    unfold fields
    rw [nm_23 hk]
    unfold numOk txOk nsOk
    rw [hk]
    rfl
  have HTn := Lib.hid (toList_nil v.nm)
  have HTs := Lib.hid (toList_nil v.s)
  have HE : Hid (v.ks.isEmpty = decide (v.ks.length = 0)) := by
    show _ = _
    cases v.ks <;> simp
  simp only [X.v] at *
  rw [hk] at *
  have HC := Lib.hid fun w => isName_any v.nm w hsz
  try rw [HE.out] at HV
  clear h h1 h2 h3 h4 hk HE hsz
  generalize isNm v.nm = P at *
  generalize v.nm = nm at *
  generalize v.n = n at *
  generalize v.s = s at *
  generalize v.ks.length = kn at *
  generalize v.l.length = ln at *
  go_enter Try.func65, Try.ntmps65
  go_wp2_with fail
  go_quiet (fail)
  go_wp2_with fail
  all_goals
    refine (HC.out _).mono ?_
    rintro e w' ⟨rfl, rfl⟩
    go_wp2_with fail
  all_goals go_ret
  all_goals refine ⟨ret_bool ?_, (below_alloc w _).trans (below_drewN _ _ _)⟩
  all_goals rw [HV.out]
  all_goals have hTn := HTn.out
  all_goals have hTs := HTs.out
  all_goals clear hTn HTn
  all_goals simp_all
  all_goals exact beq_zero _
set_option maxRecDepth 8000 in
set_option maxHeartbeats 2000000 in
theorem hf_38 (v : V) (x : X) (w : World) (h : Is w v x) (hk : v.k = 38) (hsz : v.nm.size ≤ 4194304) : Calls Try.prog 65 #[x.v] w fun e w' => e = .returned (.bool (fields (ctch v) v)) ∧ Below w.heap.size w w' := by
  obtain ⟨ka, kc, la, lc, rfl, h1, h2, h3, h4⟩ := h.open
  have HV : Hid (fields (ctch v) v = (isNm v.nm && (decide (v.n = 0) && (decide (v.s.size = 0) && v.ks.isEmpty)))) := by
    show _ = _
    unfold fields
    rw [nm_38 hk]
    unfold numOk txOk nsOk
    rw [hk]
    rfl
  have HTn := Lib.hid (toList_nil v.nm)
  have HTs := Lib.hid (toList_nil v.s)
  have HE : Hid (v.ks.isEmpty = decide (v.ks.length = 0)) := by
    show _ = _
    cases v.ks <;> simp
  simp only [X.v] at *
  rw [hk] at *
  have HC := Lib.hid fun w => isName_any v.nm w hsz
  try rw [HE.out] at HV
  clear h h1 h2 h3 h4 hk HE hsz
  generalize isNm v.nm = P at *
  generalize v.nm = nm at *
  generalize v.n = n at *
  generalize v.s = s at *
  generalize v.ks.length = kn at *
  generalize v.l.length = ln at *
  go_enter Try.func65, Try.ntmps65
  go_wp2_with fail
  go_quiet (fail)
  go_wp2_with fail
  all_goals
    refine (HC.out _).mono ?_
    rintro e w' ⟨rfl, rfl⟩
    go_wp2_with fail
  all_goals go_ret
  all_goals refine ⟨ret_bool ?_, (below_alloc w _).trans (below_drewN _ _ _)⟩
  all_goals rw [HV.out]
  all_goals have hTn := HTn.out
  all_goals have hTs := HTs.out
  all_goals clear hTn HTn
  all_goals simp_all
  all_goals exact beq_zero _
set_option maxRecDepth 8000 in
set_option maxHeartbeats 2000000 in
theorem hf_11 (v : V) (x : X) (w : World) (h : Is w v x) (hk : v.k = 11) (hsz : v.nm.size ≤ 4194304) : Calls Try.prog 65 #[x.v] w fun e w' => e = .returned (.bool (fields (ctch v) v)) ∧ Below w.heap.size w w' := by
  obtain ⟨ka, kc, la, lc, rfl, h1, h2, h3, h4⟩ := h.open
  have HV : Hid (fields (ctch v) v = (isI (bl v.nm) && (decide (v.n = 0) && (decide (v.s.size = 0) && v.ks.isEmpty)))) := by
    show _ = _
    unfold fields
    rw [nm_11 hk]
    unfold numOk txOk nsOk
    rw [hk]
    rfl
  have HTn := Lib.hid (toList_nil v.nm)
  have HTs := Lib.hid (toList_nil v.s)
  have HE : Hid (v.ks.isEmpty = decide (v.ks.length = 0)) := by
    show _ = _
    cases v.ks <;> simp
  simp only [X.v] at *
  rw [hk] at *
  have HC := Lib.hid fun w => isIdent_any v.nm w (by omega)
  try rw [HE.out] at HV
  clear h h1 h2 h3 h4 hk HE hsz
  generalize isI (bl v.nm) = P at *
  generalize v.nm = nm at *
  generalize v.n = n at *
  generalize v.s = s at *
  generalize v.ks.length = kn at *
  generalize v.l.length = ln at *
  go_enter Try.func65, Try.ntmps65
  go_wp2_with fail
  go_quiet (fail)
  go_wp2_with fail
  all_goals
    refine (HC.out _).mono ?_
    rintro e w' ⟨rfl, rfl⟩
    go_wp2_with fail
  all_goals go_ret
  all_goals refine ⟨ret_bool ?_, (below_alloc w _).trans (below_drewN _ _ _)⟩
  all_goals rw [HV.out]
  all_goals have hTn := HTn.out
  all_goals have hTs := HTs.out
  all_goals clear hTn HTn
  all_goals simp_all
  all_goals exact beq_zero _
set_option maxRecDepth 8000 in
set_option maxHeartbeats 2000000 in
theorem hf_2 (v : V) (x : X) (w : World) (h : Is w v x) (hk : v.k = 2) (hsz : v.s.size ≤ 4194304) : Calls Try.prog 65 #[x.v] w fun e w' => e = .returned (.bool (fields (ctch v) v)) ∧ Below w.heap.size w w' := by
  obtain ⟨ka, kc, la, lc, rfl, h1, h2, h3, h4⟩ := h.open
  have HV : Hid (fields (ctch v) v = (decide (v.nm.size = 0) && (decide (v.n = 0) && (decide (v.s.size % 2 = 0) && v.ks.isEmpty)))) := by
    show _ = _
    unfold fields
    rw [nm_2 hk]
    unfold numOk txOk nsOk
    rw [hk]
    rfl
  have HTn := Lib.hid (toList_nil v.nm)
  have HTs := Lib.hid (toList_nil v.s)
  have HE : Hid (v.ks.isEmpty = decide (v.ks.length = 0)) := by
    show _ = _
    cases v.ks <;> simp
  simp only [X.v] at *
  rw [hk] at *
  have HC := Lib.hid fun w => check_any v.s w (by unfold maxLen; omega)
  try rw [HE.out] at HV
  clear h h1 h2 h3 h4 hk HE hsz
  generalize decide (v.s.size % 2 = 0) = P at *
  generalize v.nm = nm at *
  generalize v.n = n at *
  generalize v.s = s at *
  generalize v.ks.length = kn at *
  generalize v.l.length = ln at *
  go_enter Try.func65, Try.ntmps65
  go_wp2_with fail
  go_quiet (fail)
  go_wp2_with fail
  all_goals
    refine (HC.out _).mono ?_
    rintro e w' ⟨rfl, rfl⟩
    go_wp2_with fail
  all_goals go_ret
  all_goals refine ⟨ret_bool ?_, (below_alloc w _).trans (below_drewN _ _ _)⟩
  all_goals rw [HV.out]
  all_goals have hTn := HTn.out
  all_goals have hTs := HTs.out
  all_goals clear hTs HTs
  all_goals simp_all
  all_goals exact beq_zero _
set_option maxRecDepth 8000 in
set_option maxHeartbeats 2000000 in
theorem hf_9 (v : V) (x : X) (w : World) (h : Is w v x) (hk : v.k = 9) (hsz : v.s.size ≤ 4194304) : Calls Try.prog 65 #[x.v] w fun e w' => e = .returned (.bool (fields (ctch v) v)) ∧ Below w.heap.size w w' := by
  obtain ⟨ka, kc, la, lc, rfl, h1, h2, h3, h4⟩ := h.open
  have HV : Hid (fields (ctch v) v = (decide (v.nm.size = 0) && (decide (v.n = 0) && (decide (v.s.size % 2 = 0) && v.ks.isEmpty)))) := by
    show _ = _
    unfold fields
    rw [nm_9 hk]
    unfold numOk txOk nsOk
    rw [hk]
    rfl
  have HTn := Lib.hid (toList_nil v.nm)
  have HTs := Lib.hid (toList_nil v.s)
  have HE : Hid (v.ks.isEmpty = decide (v.ks.length = 0)) := by
    show _ = _
    cases v.ks <;> simp
  simp only [X.v] at *
  rw [hk] at *
  have HC := Lib.hid fun w => check_any v.s w (by unfold maxLen; omega)
  try rw [HE.out] at HV
  clear h h1 h2 h3 h4 hk HE hsz
  generalize decide (v.s.size % 2 = 0) = P at *
  generalize v.nm = nm at *
  generalize v.n = n at *
  generalize v.s = s at *
  generalize v.ks.length = kn at *
  generalize v.l.length = ln at *
  go_enter Try.func65, Try.ntmps65
  go_wp2_with fail
  go_quiet (fail)
  go_wp2_with fail
  all_goals
    refine (HC.out _).mono ?_
    rintro e w' ⟨rfl, rfl⟩
    go_wp2_with fail
  all_goals go_ret
  all_goals refine ⟨ret_bool ?_, (below_alloc w _).trans (below_drewN _ _ _)⟩
  all_goals rw [HV.out]
  all_goals have hTn := HTn.out
  all_goals have hTs := HTs.out
  all_goals clear hTs HTs
  all_goals simp_all
  all_goals exact beq_zero _
set_option maxRecDepth 8000 in
set_option maxHeartbeats 2000000 in
theorem hf_6 (v : V) (x : X) (w : World) (h : Is w v x) (hk : v.k = 6) : Calls Try.prog 65 #[x.v] w fun e w' => e = .returned (.bool (fields (ctch v) v)) ∧ Below w.heap.size w w' := by
  obtain ⟨ka, kc, la, lc, rfl, h1, h2, h3, h4⟩ := h.open
  have HV : Hid (fields (ctch v) v = (decide (v.nm.size = 0) && (decide (v.n = 0 ∨ v.n = 1) && (decide (v.s.size = 0) && v.ks.isEmpty)))) := by
    show _ = _
    unfold fields
    rw [nm_6 hk]
    unfold numOk txOk nsOk
    rw [hk]
    rfl
  have HTn := Lib.hid (toList_nil v.nm)
  have HTs := Lib.hid (toList_nil v.s)
  have HE : Hid (v.ks.isEmpty = decide (v.ks.length = 0)) := by
    show _ = _
    cases v.ks <;> simp
  simp only [X.v] at *
  rw [hk] at *
  have HC := Lib.hid fun w => isBit_any v.n w
  try rw [HE.out] at HV
  clear h h1 h2 h3 h4 hk HE
  generalize decide (v.n = 0 ∨ v.n = 1) = P at *
  generalize v.nm = nm at *
  generalize v.n = n at *
  generalize v.s = s at *
  generalize v.ks.length = kn at *
  generalize v.l.length = ln at *
  go_enter Try.func65, Try.ntmps65
  go_wp2_with fail
  go_quiet (fail)
  go_wp2_with fail
  all_goals
    refine (HC.out _).mono ?_
    rintro e w' ⟨rfl, rfl⟩
    go_wp2_with fail
  all_goals go_ret
  all_goals refine ⟨ret_bool ?_, (below_alloc w _).trans (below_drewN _ _ _)⟩
  all_goals rw [HV.out]
  all_goals have hTn := HTn.out
  all_goals have hTs := HTs.out
  all_goals simp_all
  all_goals exact beq_zero _
set_option maxRecDepth 8000 in
set_option maxHeartbeats 2000000 in
theorem hf_1 (v : V) (x : X) (w : World) (h : Is w v x) (hk : v.k = 1) : Calls Try.prog 65 #[x.v] w fun e w' => e = .returned (.bool (fields (ctch v) v)) ∧ Below w.heap.size w w' := by
  obtain ⟨ka, kc, la, lc, rfl, h1, h2, h3, h4⟩ := h.open
  have HV : Hid (fields (ctch v) v = (decide (v.nm.size = 0) && ((decide (0 ≤ v.n) && decide (v.n ≤ 9007199254740991)) && (decide (v.s.size = 0) && v.ks.isEmpty)))) := by
    show _ = _
    unfold fields
    rw [nm_1 hk]
    unfold numOk txOk nsOk
    rw [hk]
    simp only [if_true, Bool.decide_and]
    rfl
  have HTn := Lib.hid (toList_nil v.nm)
  have HTs := Lib.hid (toList_nil v.s)
  have HE : Hid (v.ks.isEmpty = decide (v.ks.length = 0)) := by
    show _ = _
    cases v.ks <;> simp
  simp only [X.v] at *
  rw [hk] at *
  try rw [HE.out] at HV
  clear h h1 h2 h3 h4 hk HE
  generalize v.nm = nm at *
  generalize v.n = n at *
  generalize v.s = s at *
  generalize v.ks.length = kn at *
  generalize v.l.length = ln at *
  go_enter Try.func65, Try.ntmps65
  go_wp2_with fail
  go_quiet (fail)
  go_wp2_with fail
  all_goals go_ret
  all_goals refine ⟨ret_bool ?_, (below_alloc w _).trans (below_drewN _ _ _)⟩
  all_goals rw [HV.out]
  all_goals have hTn := HTn.out
  all_goals have hTs := HTs.out
  all_goals simp_all
  all_goals first | exact beq_zero _ | (intros; omega)
end Go.Proofs.Ytgehgccgologpaa.R
