/-
  Laid by wip/scope/lay.py out of wip/tree: Hh.
  hasFields, kind for kind: names, functions, try, operators. (gen_h.py)
-/
import Derived.Test.YtgehgccgologpaaHg
import Derived.Test.YtgehgccgologpaaKd
namespace Go.Proofs.Ytgehgccgologpaa.R
open Go.RowKit Go.Proofs.Ytgehgccgologpaa Go.Proofs.Ytgehgccgologpaa.T
theorem qadd {P : Program} {f : FuncId} {xs : Array Value} {w : World} {i j : Nat} {v : Value} (h : Calls P f xs (w.drewN (i + j)) fun e w' => e = .returned v ∧ w.drewN (i + j) = w') :
    Calls P f xs (w.drewN (i + j)) fun e w' => e = .returned v ∧ ∃ m, w' = w.drewN (i + m) := by
  refine h.mono ?_
  rintro e w' ⟨rfl, rfl⟩
  exact ⟨rfl, j, rfl⟩
set_option maxRecDepth 8000 in
set_option maxHeartbeats 2000000 in
theorem hf_31 (v : V) (x : X) (w : World) (h : Is w v x) (hk : v.k = 31) (hsz : v.nm.size ≤ 4194304) : Calls Try.prog 65 #[x.v] w fun e w' => e = .returned (.bool (fields (ctch v) v)) ∧ Below w.heap.size w w' := by
  obtain ⟨ka, kc, la, lc, rfl, h1, h2, h3, h4⟩ := h.open
  have HV : Hid (fields (ctch v) v = ((decide (v.nm.size = 0) || isNm v.nm) && (decide (v.n = 0) && (decide (v.s.size = 0) && v.ks.isEmpty)))) := by
    show _ = _
    unfold fields
    rw [nm_31 hk]
    unfold numOk txOk nsOk
    rw [hk]
    rfl
  have HTn := Lib.hid (toList_nil v.nm)
  have HTs := Lib.hid (toList_nil v.s)
  have HE : Hid (v.ks.isEmpty = decide (v.ks.length = 0)) := by
    show _ = _
    cases v.ks <;> simp
  simp only [X.v] at *
  rw [hk] at *
  have HC := Lib.hid fun w => isName_any v.nm w hsz
  try rw [HE.out] at HV
  clear h h1 h2 h3 h4 hk HE hsz
  generalize isNm v.nm = P at *
  generalize v.nm = nm at *
  generalize v.n = n at *
  generalize v.s = s at *
  generalize v.ks.length = kn at *
  generalize v.l.length = ln at *
  go_enter Try.func65, Try.ntmps65
  go_wp2_with fail
  go_quiet (fail)
  go_wp2_with fail
  all_goals first
    | (go_ret; refine ⟨ret_bool ?_, (below_alloc w _).trans (below_drewN _ _ _)⟩)
    | (refine (HC.out _).mono ?_
       rintro e w' ⟨rfl, rfl⟩
       go_wp2_with fail
       all_goals go_ret
       all_goals refine ⟨ret_bool ?_, (below_alloc w _).trans (below_drewN _ _ _)⟩)
  all_goals rw [HV.out]
  all_goals have hTn := HTn.out
  all_goals have hTs := HTs.out
  all_goals simp_all
  all_goals first | exact beq_zero _ | (intros; omega)
set_option maxRecDepth 8000 in
set_option maxHeartbeats 2000000 in
theorem hf_32 (v : V) (x : X) (w : World) (h : Is w v x) (hk : v.k = 32) (hsz : v.nm.size ≤ 4194304) : Calls Try.prog 65 #[x.v] w fun e w' => e = .returned (.bool (fields (ctch v) v)) ∧ Below w.heap.size w w' := by
  obtain ⟨ka, kc, la, lc, rfl, h1, h2, h3, h4⟩ := h.open
  have HV : Hid (fields (ctch v) v = ((decide (v.nm.size = 0) || isNm v.nm) && (decide (v.n = 0) && (decide (v.s.size = 0) && v.ks.isEmpty)))) := by
    show _ = _
    unfold fields
    rw [nm_32 hk]
    unfold numOk txOk nsOk
    rw [hk]
    rfl
  have HTn := Lib.hid (toList_nil v.nm)
  have HTs := Lib.hid (toList_nil v.s)
  have HE : Hid (v.ks.isEmpty = decide (v.ks.length = 0)) := by
    show _ = _
    cases v.ks <;> simp
  simp only [X.v] at *
  rw [hk] at *
  have HC := Lib.hid fun w => isName_any v.nm w hsz
  try rw [HE.out] at HV
  clear h h1 h2 h3 h4 hk HE hsz
  generalize isNm v.nm = P at *
  generalize v.nm = nm at *
  generalize v.n = n at *
  generalize v.s = s at *
  generalize v.ks.length = kn at *
  generalize v.l.length = ln at *
  go_enter Try.func65, Try.ntmps65
  go_wp2_with fail
  go_quiet (fail)
  go_wp2_with fail
  all_goals first
    | (go_ret; refine ⟨ret_bool ?_, (below_alloc w _).trans (below_drewN _ _ _)⟩)
    | (refine (HC.out _).mono ?_
       rintro e w' ⟨rfl, rfl⟩
       go_wp2_with fail
       all_goals go_ret
       all_goals refine ⟨ret_bool ?_, (below_alloc w _).trans (below_drewN _ _ _)⟩)
  all_goals rw [HV.out]
  all_goals have hTn := HTn.out
  all_goals have hTs := HTs.out
  all_goals simp_all
  all_goals first | exact beq_zero _ | (intros; omega)
set_option maxRecDepth 8000 in
set_option maxHeartbeats 2000000 in
theorem hf_15 (v : V) (x : X) (w : World) (h : Is w v x) (hk : v.k = 15) : Calls Try.prog 65 #[x.v] w fun e w' => e = .returned (.bool (fields (ctch v) v)) ∧ Below w.heap.size w w' := by
  obtain ⟨ka, kc, la, lc, rfl, h1, h2, h3, h4⟩ := h.open
  have HV : Hid (fields (ctch v) v = (opOk 15 (bl v.nm) && (decide (v.n = 0) && (decide (v.s.size = 0) && v.ks.isEmpty)))) := by
    show _ = _
    unfold fields
    rw [nm_15 hk]
    unfold numOk txOk nsOk
    rw [hk]
    rfl
  have HTn := Lib.hid (toList_nil v.nm)
  have HTs := Lib.hid (toList_nil v.s)
  have HE : Hid (v.ks.isEmpty = decide (v.ks.length = 0)) := by
    show _ = _
    cases v.ks <;> simp
  simp only [X.v] at *
  rw [hk] at *
  have HC := Lib.hid fun (x : X) (w : World) (h : x.k = 15) => oper_15 x w h
  simp only [X.v] at HC
  try rw [HE.out] at HV
  clear h h1 h2 h3 h4 hk HE
  generalize v.nm = nm at *
  generalize v.n = n at *
  generalize v.s = s at *
  generalize v.ks.length = kn at *
  generalize v.l.length = ln at *
  go_enter Try.func65, Try.ntmps65
  go_wp2_with fail
  go_quiet (fail)
  go_wp2_with fail
  refine (HC.out ⟨15, nm, n, s, ka, kn, kc, la, ln, lc⟩ _ rfl).mono ?_
  rintro e w' ⟨rfl, hb⟩
  have hb2 := ((below_alloc w _).trans (below_drewN _ _ _)).trans (hb.mono (by simp))
  clear hb
  generalize opOk 15 (bl nm) = P at *
  go_wp2_with fail
  all_goals go_ret
  all_goals refine ⟨ret_bool ?_, hb2⟩
  all_goals rw [HV.out]
  all_goals have hTn := HTn.out
  all_goals have hTs := HTs.out
  all_goals clear hTn HTn
  all_goals simp_all
  all_goals first | exact beq_zero _ | (intros; omega)
set_option maxRecDepth 8000 in
set_option maxHeartbeats 2000000 in
theorem hf_17 (v : V) (x : X) (w : World) (h : Is w v x) (hk : v.k = 17) : Calls Try.prog 65 #[x.v] w fun e w' => e = .returned (.bool (fields (ctch v) v)) ∧ Below w.heap.size w w' := by
  obtain ⟨ka, kc, la, lc, rfl, h1, h2, h3, h4⟩ := h.open
  have HV : Hid (fields (ctch v) v = (opOk 17 (bl v.nm) && (decide (v.n = 0) && (decide (v.s.size = 0) && v.ks.isEmpty)))) := by
    show _ = _
    unfold fields
    rw [nm_17 hk]
    unfold numOk txOk nsOk
    rw [hk]
    rfl
  have HTn := Lib.hid (toList_nil v.nm)
  have HTs := Lib.hid (toList_nil v.s)
  have HE : Hid (v.ks.isEmpty = decide (v.ks.length = 0)) := by
    show _ = _
    cases v.ks <;> simp
  simp only [X.v] at *
  rw [hk] at *
  have HC := Lib.hid fun (x : X) (w : World) (h : x.k = 17) => oper_17 x w h
  simp only [X.v] at HC
  try rw [HE.out] at HV
  clear h h1 h2 h3 h4 hk HE
  generalize v.nm = nm at *
  generalize v.n = n at *
  generalize v.s = s at *
  generalize v.ks.length = kn at *
  generalize v.l.length = ln at *
  go_enter Try.func65, Try.ntmps65
  go_wp2_with fail
  go_quiet (fail)
  go_wp2_with fail
  refine (HC.out ⟨17, nm, n, s, ka, kn, kc, la, ln, lc⟩ _ rfl).mono ?_
  rintro e w' ⟨rfl, hb⟩
  have hb2 := ((below_alloc w _).trans (below_drewN _ _ _)).trans (hb.mono (by simp))
  clear hb
  generalize opOk 17 (bl nm) = P at *
  go_wp2_with fail
  all_goals go_ret
  all_goals refine ⟨ret_bool ?_, hb2⟩
  all_goals rw [HV.out]
  all_goals have hTn := HTn.out
  all_goals have hTs := HTs.out
  all_goals clear hTn HTn
  all_goals simp_all
  all_goals first | exact beq_zero _ | (intros; omega)
set_option maxRecDepth 8000 in
set_option maxHeartbeats 2000000 in
theorem hf_18 (v : V) (x : X) (w : World) (h : Is w v x) (hk : v.k = 18) : Calls Try.prog 65 #[x.v] w fun e w' => e = .returned (.bool (fields (ctch v) v)) ∧ Below w.heap.size w w' := by
  obtain ⟨ka, kc, la, lc, rfl, h1, h2, h3, h4⟩ := h.open
  have HV : Hid (fields (ctch v) v = (opOk 18 (bl v.nm) && (decide (v.n = 0) && (decide (v.s.size = 0) && v.ks.isEmpty)))) := by
    show _ = _
    unfold fields
    rw [nm_18 hk]
    unfold numOk txOk nsOk
    rw [hk]
    rfl
  have HTn := Lib.hid (toList_nil v.nm)
  have HTs := Lib.hid (toList_nil v.s)
  have HE : Hid (v.ks.isEmpty = decide (v.ks.length = 0)) := by
    show _ = _
    cases v.ks <;> simp
  simp only [X.v] at *
  rw [hk] at *
  have HC := Lib.hid fun (x : X) (w : World) (h : x.k = 18) => oper_18 x w h
  simp only [X.v] at HC
  try rw [HE.out] at HV
  clear h h1 h2 h3 h4 hk HE
  generalize v.nm = nm at *
  generalize v.n = n at *
  generalize v.s = s at *
  generalize v.ks.length = kn at *
  generalize v.l.length = ln at *
  go_enter Try.func65, Try.ntmps65
  go_wp2_with fail
  go_quiet (fail)
  go_wp2_with fail
  refine (HC.out ⟨18, nm, n, s, ka, kn, kc, la, ln, lc⟩ _ rfl).mono ?_
  rintro e w' ⟨rfl, hb⟩
  have hb2 := ((below_alloc w _).trans (below_drewN _ _ _)).trans (hb.mono (by simp))
  clear hb
  generalize opOk 18 (bl nm) = P at *
  go_wp2_with fail
  all_goals go_ret
  all_goals refine ⟨ret_bool ?_, hb2⟩
  all_goals rw [HV.out]
  all_goals have hTn := HTn.out
  all_goals have hTs := HTs.out
  all_goals clear hTn HTn
  all_goals simp_all
  all_goals first | exact beq_zero _ | (intros; omega)
set_option maxRecDepth 8000 in
set_option maxHeartbeats 2000000 in
theorem hf_20 (v : V) (x : X) (w : World) (h : Is w v x) (hk : v.k = 20) : Calls Try.prog 65 #[x.v] w fun e w' => e = .returned (.bool (fields (ctch v) v)) ∧ Below w.heap.size w w' := by
  obtain ⟨ka, kc, la, lc, rfl, h1, h2, h3, h4⟩ := h.open
  have HV : Hid (fields (ctch v) v = (opOk 20 (bl v.nm) && (decide (v.n = 0) && (decide (v.s.size = 0) && v.ks.isEmpty)))) := by
    show _ = _
    unfold fields
    rw [nm_20 hk]
    unfold numOk txOk nsOk
    rw [hk]
    rfl
  have HTn := Lib.hid (toList_nil v.nm)
  have HTs := Lib.hid (toList_nil v.s)
  have HE : Hid (v.ks.isEmpty = decide (v.ks.length = 0)) := by
    show _ = _
    cases v.ks <;> simp
  simp only [X.v] at *
  rw [hk] at *
  have HC := Lib.hid fun (x : X) (w : World) (h : x.k = 20) => oper_20 x w h
  simp only [X.v] at HC
  try rw [HE.out] at HV
  clear h h1 h2 h3 h4 hk HE
  generalize v.nm = nm at *
  generalize v.n = n at *
  generalize v.s = s at *
  generalize v.ks.length = kn at *
  generalize v.l.length = ln at *
  go_enter Try.func65, Try.ntmps65
  go_wp2_with fail
  go_quiet (fail)
  go_wp2_with fail
  refine (HC.out ⟨20, nm, n, s, ka, kn, kc, la, ln, lc⟩ _ rfl).mono ?_
  rintro e w' ⟨rfl, hb⟩
  have hb2 := ((below_alloc w _).trans (below_drewN _ _ _)).trans (hb.mono (by simp))
  clear hb
  generalize opOk 20 (bl nm) = P at *
  go_wp2_with fail
  all_goals go_ret
  all_goals refine ⟨ret_bool ?_, hb2⟩
  all_goals rw [HV.out]
  all_goals have hTn := HTn.out
  all_goals have hTs := HTs.out
  all_goals clear hTn HTn
  all_goals simp_all
  all_goals first | exact beq_zero _ | (intros; omega)
set_option maxRecDepth 8000 in
set_option maxHeartbeats 2000000 in
theorem hf_39 (v : V) (x : X) (w : World) (h : Is w v x) (hk : v.k = 39) (hsz : v.nm.size ≤ 4194304) (hkl : v.ks.length ≤ 4194304) (hks : ∀ k ∈ v.ks, k.size ≤ 4194304) : Calls Try.prog 65 #[x.v] w fun e w' => e = .returned (.bool (fields (ctch v) v)) ∧ Below w.heap.size w w' := by
  obtain ⟨ka, kc, la, lc, rfl, h1, h2, h3, h4⟩ := h.open
  have HV : Hid (fields (ctch v) v = (isNm v.nm && (decide (v.n = 0) && (decide (v.s.size = 0) && v.ks.all isNm)))) := by
    show _ = _
    unfold fields
    rw [nm_39 hk]
    unfold numOk txOk nsOk
    rw [hk]
    rfl
  have HTn := Lib.hid (toList_nil v.nm)
  have HTs := Lib.hid (toList_nil v.s)
  have HE : Hid (v.ks.isEmpty = decide (v.ks.length = 0)) := by
    show _ = _
    cases v.ks <;> simp
  simp only [X.v] at *
  rw [hk] at *
  have HC := Lib.hid fun w => isName_any v.nm w hsz
  have HS := Lib.hid fun w' (hb : Below w.heap.size w w') => allS_any v.ks ka kc w' (StrsB.below h3 hb) hkl hks
  have HB := Lib.hid fun n m => (below_alloc w (.cells #[.int .i64 39, .string v.nm, .int .i64 v.n, .string v.s, .slice ka v.ks.length kc, .slice la v.l.length lc] 25)).trans (below_drewN w.heap.size _ (n + m))
  try rw [HE.out] at HV
  clear h h1 h2 h3 h4 hk HE hsz hkl hks
  generalize isNm v.nm = P at *
  generalize v.ks.all isNm = Q at *
  generalize v.nm = nm at *
  generalize v.n = n at *
  generalize v.s = s at *
  generalize v.ks.length = kn at *
  generalize v.l.length = ln at *
  go_enter Try.func65, Try.ntmps65
  go_wp2_with fail
  go_quiet (fail)
  go_wp2_with fail
  go_quiet (first | (go_at_call 87; exact qadd (HC.out _)) | (go_at_call 89; exact qadd (HS.out _ (HB.out _ _))))
  go_wp2_with fail
  all_goals go_ret
  all_goals refine ⟨ret_bool ?_, (below_alloc w _).trans (below_drewN _ _ _)⟩
  all_goals rw [HV.out]
  all_goals have hTn := HTn.out
  all_goals have hTs := HTs.out
  all_goals simp_all
  all_goals first | exact beq_zero _ | (intros; omega)
set_option maxRecDepth 8000 in
set_option maxHeartbeats 2000000 in
theorem hf_10a (v : V) (x : X) (w : World) (h : Is w v x) (hk : v.k = 10) (hz : v.nm.size = 0) (hkl : v.ks.length ≤ 4194304) (hks : ∀ k ∈ v.ks, k.size ≤ 4194304) : Calls Try.prog 65 #[x.v] w fun e w' => e = .returned (.bool (fields (ctch v) v)) ∧ Below w.heap.size w w' := by
  obtain ⟨ka, kc, la, lc, rfl, h1, h2, h3, h4⟩ := h.open
  have HV : Hid (fields (ctch v) v = ((decide (v.nm.size = 0) || isNm v.nm) && (decide (v.n = 0) && (decide (v.s.size = 0) && v.ks.all isNm)))) := by
    show _ = _
    unfold fields
    rw [nm_10 hk]
    unfold numOk txOk nsOk
    rw [hk]
    rfl
  have HTn := Lib.hid (toList_nil v.nm)
  have HTs := Lib.hid (toList_nil v.s)
  have HE : Hid (v.ks.isEmpty = decide (v.ks.length = 0)) := by
    show _ = _
    cases v.ks <;> simp
  simp only [X.v] at *
  rw [hk] at *
  have hE := (toList_nil v.nm).2 hz
  rw [hz] at HV
  have HS := Lib.hid fun w' (hb : Below w.heap.size w w') => allS_any v.ks ka kc w' (StrsB.below h3 hb) hkl hks
  have HB := Lib.hid fun n m => (below_alloc w (.cells #[.int .i64 10, .string v.nm, .int .i64 v.n, .string v.s, .slice ka v.ks.length kc, .slice la v.l.length lc] 25)).trans (below_drewN w.heap.size _ (n + m))
  try rw [HE.out] at HV
  clear h h1 h2 h3 h4 hk HE hz hkl hks
  generalize isNm v.nm = P at *
  generalize v.ks.all isNm = Q at *
  generalize v.nm = nm at *
  generalize v.n = n at *
  generalize v.s = s at *
  generalize v.ks.length = kn at *
  generalize v.l.length = ln at *
  go_enter Try.func65, Try.ntmps65
  go_wp2_with fail
  go_quiet (fail)
  go_wp2_with fail
  go_quiet (first | (go_at_call 89; exact qadd (HS.out _ (HB.out _ _))))
  go_wp2_with fail
  all_goals go_ret
  all_goals refine ⟨ret_bool ?_, (below_alloc w _).trans (below_drewN _ _ _)⟩
  all_goals rw [HV.out]
  all_goals have hTn := HTn.out
  all_goals have hTs := HTs.out
  all_goals simp_all
  all_goals first | exact beq_zero _ | (intros; omega)
set_option maxRecDepth 8000 in
set_option maxHeartbeats 2000000 in
theorem hf_10b (v : V) (x : X) (w : World) (h : Is w v x) (hk : v.k = 10) (hz : ¬ v.nm.size = 0) (hsz : v.nm.size ≤ 4194304) (hkl : v.ks.length ≤ 4194304) (hks : ∀ k ∈ v.ks, k.size ≤ 4194304) : Calls Try.prog 65 #[x.v] w fun e w' => e = .returned (.bool (fields (ctch v) v)) ∧ Below w.heap.size w w' := by
  obtain ⟨ka, kc, la, lc, rfl, h1, h2, h3, h4⟩ := h.open
  have HV : Hid (fields (ctch v) v = ((decide (v.nm.size = 0) || isNm v.nm) && (decide (v.n = 0) && (decide (v.s.size = 0) && v.ks.all isNm)))) := by
    show _ = _
    unfold fields
    rw [nm_10 hk]
    unfold numOk txOk nsOk
    rw [hk]
    rfl
  have HTn := Lib.hid (toList_nil v.nm)
  have HTs := Lib.hid (toList_nil v.s)
  have HE : Hid (v.ks.isEmpty = decide (v.ks.length = 0)) := by
    show _ = _
    cases v.ks <;> simp
  simp only [X.v] at *
  rw [hk] at *
  have HC := Lib.hid fun w => isName_any v.nm w hsz
  have HS := Lib.hid fun w' (hb : Below w.heap.size w w') => allS_any v.ks ka kc w' (StrsB.below h3 hb) hkl hks
  have HB := Lib.hid fun n m => (below_alloc w (.cells #[.int .i64 10, .string v.nm, .int .i64 v.n, .string v.s, .slice ka v.ks.length kc, .slice la v.l.length lc] 25)).trans (below_drewN w.heap.size _ (n + m))
  have hE : v.nm.toList.isEmpty = false := by rw [List.isEmpty_eq_false_iff]; exact fun e => hz ((toList_nil v.nm).1 e)
  rw [decide_eq_false hz, Bool.false_or] at HV
  try rw [HE.out] at HV
  clear h h1 h2 h3 h4 hk HE hz hsz hkl hks
  generalize isNm v.nm = P at *
  generalize v.ks.all isNm = Q at *
  generalize v.nm = nm at *
  generalize v.n = n at *
  generalize v.s = s at *
  generalize v.ks.length = kn at *
  generalize v.l.length = ln at *
  go_enter Try.func65, Try.ntmps65
  go_wp2_with fail
  go_quiet (fail)
  go_wp2_with fail
  go_quiet (first | (go_at_call 87; exact qadd (HC.out _)) | (go_at_call 89; exact qadd (HS.out _ (HB.out _ _))))
  go_wp2_with fail
  all_goals go_ret
  all_goals refine ⟨ret_bool ?_, (below_alloc w _).trans (below_drewN _ _ _)⟩
  all_goals rw [HV.out]
  all_goals have hTn := HTn.out
  all_goals have hTs := HTs.out
  all_goals simp_all
  all_goals first | exact beq_zero _ | (intros; omega)
set_option maxRecDepth 8000 in
set_option maxHeartbeats 2000000 in
theorem hf_35 (v : V) (x : X) (w : World) (h : Is w v x) (hk : v.k = 35) (hsz : v.nm.size ≤ 4194304) (hll : v.l.length ≤ 4194304) : Calls Try.prog 65 #[x.v] w fun e w' => e = .returned (.bool (fields (ctch v) v)) ∧ Below w.heap.size w w' := by
  obtain ⟨ka, kc, la, lc, rfl, h1, h2, h3, h4⟩ := h.open
  have HV : Hid (fields (ctch v) v = ((if ctch v then isNm v.nm else decide (v.nm.size = 0)) && (decide (v.n = 0) && (decide (v.s.size = 0) && v.ks.isEmpty)))) := by
    show _ = _
    unfold fields
    rw [nm_35 hk]
    unfold numOk txOk nsOk
    rw [hk]
    rfl
  have HTn := Lib.hid (toList_nil v.nm)
  have HTs := Lib.hid (toList_nil v.s)
  have HE : Hid (v.ks.isEmpty = decide (v.ks.length = 0)) := by
    show _ = _
    cases v.ks <;> simp
  simp only [X.v] at *
  rw [hk] at *
  have HC := Lib.hid fun w => isName_any v.nm w hsz
  have HK := Lib.hid fun w' (hb : Below w.heap.size w w') => catches_any v ⟨35, v.nm, v.n, v.s, ka, v.ks.length, kc, la, v.l.length, lc⟩ w' (h.below hb) hll
  simp only [X.v] at HK
  try rw [HE.out] at HV
  clear h h1 h2 h3 h4 hk HE hsz hll
  generalize isNm v.nm = P at *
  generalize ctch v = C at *
  generalize v.nm = nm at *
  generalize v.n = n at *
  generalize v.s = s at *
  generalize v.ks.length = kn at *
  generalize v.l.length = ln at *
  go_enter Try.func65, Try.ntmps65
  go_wp2_with fail
  go_quiet (fail)
  go_wp2_with fail
  refine (HK.out _ ((below_alloc w _).trans (below_drewN _ _ _))).mono ?_
  rintro e w' ⟨rfl, hb⟩
  have hb2 := ((below_alloc w _).trans (below_drewN _ _ _)).trans (hb.mono (by simp))
  have c1 : w'.cell? ⟨w.heap.size, 1, none⟩ = some (.string nm) := (hb.cell (p := ⟨w.heap.size, 1, none⟩) (by simp)).trans (by simp)
  clear hb HK
  cases C
  · go_wp2_with fail
    all_goals go_ret
    all_goals refine ⟨ret_bool ?_, hb2⟩
    all_goals rw [HV.out]
    all_goals have hTn := HTn.out
    all_goals have hTs := HTs.out
    all_goals simp_all
    all_goals exact beq_zero _
  go_wp2_with fail
  refine (HC.out _).mono ?_
  rintro e w' ⟨rfl, rfl⟩
  go_wp2_with fail
  all_goals go_ret
  all_goals refine ⟨ret_bool ?_, hb2⟩
  all_goals rw [HV.out]
  all_goals have hTn := HTn.out
  all_goals have hTs := HTs.out
  all_goals simp_all
  all_goals first | exact beq_zero _ | (intros; omega)
set_option maxRecDepth 8000 in
set_option maxHeartbeats 2000000 in
theorem hf_16 (v : V) (x : X) (w : World) (h : Is w v x) (hk : v.k = 16) : Calls Try.prog 65 #[x.v] w fun e w' => e = .returned (.bool (fields (ctch v) v)) ∧ Below w.heap.size w w' := by
  obtain ⟨ka, kc, la, lc, rfl, h1, h2, h3, h4⟩ := h.open
  have HV : Hid (fields (ctch v) v = (opOk 16 (bl v.nm) && (decide (v.n = 0 ∨ v.n = 1) && (decide (v.s.size = 0) && v.ks.isEmpty)))) := by
    show _ = _
    unfold fields
    rw [nm_16 hk]
    unfold numOk txOk nsOk
    rw [hk]
    rfl
  have HTn := Lib.hid (toList_nil v.nm)
  have HTs := Lib.hid (toList_nil v.s)
  have HE : Hid (v.ks.isEmpty = decide (v.ks.length = 0)) := by
    show _ = _
    cases v.ks <;> simp
  simp only [X.v] at *
  rw [hk] at *
  have HC := Lib.hid fun (x : X) (w : World) (h : x.k = 16) => oper_16 x w h
  have HQ := Lib.hid fun w => isBit_any v.n w
  simp only [X.v] at HC
  have HA : Hid (∀ n, At ((w.alloc (.cells #[.int .i64 16, .string v.nm, .int .i64 v.n, .string v.s, .slice ka v.ks.length kc, .slice la v.l.length lc] 25)).drewN n) w.heap.size 0 ⟨16, v.nm, v.n, v.s, ka, v.ks.length, kc, la, v.l.length, lc⟩) := by
    intro n
    constructor <;> simp
  have HB := Lib.hid fun n => (below_alloc w (.cells #[.int .i64 16, .string v.nm, .int .i64 v.n, .string v.s, .slice ka v.ks.length kc, .slice la v.l.length lc] 25)).trans (below_drewN w.heap.size _ n)
  try rw [HE.out] at HV
  clear h h1 h2 h3 h4 hk HE
  generalize decide (v.n = 0 ∨ v.n = 1) = Q at *
  generalize v.nm = nm at *
  generalize v.n = n at *
  generalize v.s = s at *
  generalize v.ks.length = kn at *
  generalize v.l.length = ln at *
  go_enter Try.func65, Try.ntmps65
  go_wp2_with fail
  go_quiet (fail)
  go_wp2_with fail
  have hA := HA.out nq
  have hB := HB.out nq
  have hz : w.heap.size < (World.drewN (World.alloc w (.cells #[.int .i64 16, .string nm, .int .i64 n, .string s, .slice ka kn kc, .slice la ln lc] 25)) nq).heap.size := by simp
  clear HA HB
  generalize World.drewN (World.alloc w (.cells #[.int .i64 16, .string nm, .int .i64 n, .string s, .slice ka kn kc, .slice la ln lc] 25)) nq = wd at *
  have HAt := Lib.hid hA
  have HBt := Lib.hid hB
  obtain ⟨c0, c1, c2, c3, c4, c5⟩ := hA
  dsimp only at c0 c1 c2 c3 c4 c5
  clear hB
  go_region_held3 (fun w' => w'.cell? ⟨w.heap.size, 0, none⟩ = some (.int .i64 16) ∧ w'.cell? ⟨w.heap.size, 0 + 1, none⟩ = some (.string nm) ∧ w'.cell? ⟨w.heap.size, 0 + 2, none⟩ = some (.int .i64 n) ∧ w'.cell? ⟨w.heap.size, 0 + 3, none⟩ = some (.string s) ∧ w'.cell? ⟨w.heap.size, 0 + 4, none⟩ = some (.slice ka kn kc) ∧ w'.cell? ⟨w.heap.size, 0 + 5, none⟩ = some (.slice la ln lc)) (first | go_keep)
    ((first
      | (go_at_call 85; refine (HQ.out _).mono ?_; rintro e w2 ⟨rfl, rfl⟩)
      | (go_at_call 91; refine (HC.out ⟨16, nm, n, s, ka, kn, kc, la, ln, lc⟩ _ rfl).mono ?_; rintro e w2 ⟨rfl, hb⟩; have hb' : Below wd.heap.size wd w2 := (by first | exact hb | exact (Below.refl _ _).drew.trans hb | exact (below_drewN _ _ _).trans hb); have hB2 := HBt.out.trans (hb'.mono HBt.out.size); obtain ⟨d0, d1, d2, d3, d4, d5⟩ := HAt.out.below hz hb'; dsimp only at d0 d1 d2 d3 d4 d5)))
  all_goals clear d0 d1 d2 d3 d4 d5 c0 c1 c2 c3 c4 c5
  all_goals generalize opOk 16 (bl nm) = P at *
  all_goals go_wp2_with fail
  all_goals go_ret
  all_goals refine ⟨ret_bool ?_, hB2⟩
  all_goals rw [HV.out]
  all_goals have hTn := HTn.out
  all_goals have hTs := HTs.out
  all_goals clear hTn HTn
  all_goals simp_all
  all_goals first | exact beq_zero _ | (intros; omega)
/-- what a walk asks of one node's sizes -/
def Small (v : V) : Prop := v.nm.size ≤ 4194304 ∧ v.s.size ≤ 4194304 ∧ v.ks.length ≤ 4194304 ∧ (∀ k ∈ v.ks, k.size ≤ 4194304) ∧ v.l.length ≤ 4194304
theorem hasFields_any (v : V) (x : X) (w : World) (h : Is w v x) (hs : Small v) : Calls Try.prog 65 #[x.v] w fun e w' => e = .returned (.bool (fields (ctch v) v)) ∧ Below w.heap.size w w' := by
  obtain ⟨s1, s2, s3, s4, s5⟩ := hs
  by_cases h1 : v.k = 1
  · exact hf_1 v x w h h1
  by_cases h6 : v.k = 6
  · exact hf_6 v x w h h6
  by_cases h2 : v.k = 2
  · exact hf_2 v x w h h2 s2
  by_cases h9 : v.k = 9
  · exact hf_9 v x w h h9 s2
  by_cases h3 : v.k = 3
  · exact hf_3 v x w h h3 s1
  by_cases h23 : v.k = 23
  · exact hf_23 v x w h h23 s1
  by_cases h38 : v.k = 38
  · exact hf_38 v x w h h38 s1
  by_cases h11 : v.k = 11
  · exact hf_11 v x w h h11 s1
  by_cases h31 : v.k = 31
  · exact hf_31 v x w h h31 s1
  by_cases h32 : v.k = 32
  · exact hf_32 v x w h h32 s1
  by_cases h10 : v.k = 10
  · by_cases hz : v.nm.size = 0
    · exact hf_10a v x w h h10 hz s3 s4
    · exact hf_10b v x w h h10 hz s1 s3 s4
  by_cases h39 : v.k = 39
  · exact hf_39 v x w h h39 s1 s3 s4
  by_cases h35 : v.k = 35
  · exact hf_35 v x w h h35 s1 s5
  by_cases h16 : v.k = 16
  · exact hf_16 v x w h h16
  by_cases h15 : v.k = 15
  · exact hf_15 v x w h h15
  by_cases h17 : v.k = 17
  · exact hf_17 v x w h h17
  by_cases h18 : v.k = 18
  · exact hf_18 v x w h h18
  by_cases h20 : v.k = 20
  · exact hf_20 v x w h h20
  exact hf_x v x w h (by simp only [h1, h6, h2, h9, h3, h23, h38, h11, h31, h32, h10, h39, h35, h16, h15, h17, h18, h20, not_false_eq_true, and_self])
end Go.Proofs.Ytgehgccgologpaa.R
