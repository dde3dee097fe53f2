/-

-/
import Derived.Test.YtllpgoaanbiodaaGreatDoorMQ0
namespace Go.Proofs.YtllpgoaanbiodaaGreatDoor.R
open Go.RowKit Go.Proofs.YtllpgoaanbiodaaGreatDoor Go.Proofs.YtllpgoaanbiodaaGreatDoor.T
theorem isI_ne {s : ByteArray} (h : isI (bl s) = true) : ¬ s.size = 0 := by
 intro e
 have : bl s = [] := List.eq_nil_of_length_eq_zero (by rw [size_list]; exact e)
 rw [this] at h
 cases h
theorem isNm_ne {s : ByteArray} (h : isNm s = true) : ¬ s.size = 0 := by
 unfold isNm at h
 rw [Bool.and_eq_true] at h
 exact isI_ne h.1
theorem op_ne {k : Int} {s : ByteArray} (h : opOk k (bl s) = true) : ¬ s.size = 0 := by
 intro e
 have : bl s = [] := List.eq_nil_of_length_eq_zero (by rw [size_list]; exact e)
 rw [this] at h
 unfold opOk ops at h
 split at h
 ·revert h; decide
 split at h
 ·revert h; decide
 split at h
 ·revert h; decide
 split at h
 ·revert h; decide
 split at h
 ·revert h; decide
 ·cases h
theorem kids_1 {v : V} (h : v.k = 1) : kids v = v.l.isEmpty := by unfold kids; rw [h]; rfl
theorem kids_2 {v : V} (h : v.k = 2) : kids v = v.l.isEmpty := by unfold kids; rw [h]; rfl
theorem kids_3 {v : V} (h : v.k = 3) : kids v = v.l.isEmpty := by unfold kids; rw [h]; rfl
theorem kids_4 {v : V} (h : v.k = 4) : kids v = v.l.isEmpty := by unfold kids; rw [h]; rfl
theorem kids_5 {v : V} (h : v.k = 5) : kids v = v.l.isEmpty := by unfold kids; rw [h]; rfl
theorem kids_6 {v : V} (h : v.k = 6) : kids v = v.l.isEmpty := by unfold kids; rw [h]; rfl
theorem kids_7 {v : V} (h : v.k = 7) : kids v = v.l.all isE := by unfold kids; rw [h]; rfl
theorem kids_8 {v : V} (h : v.k = 8) : kids v = v.l.all (isK 9) := by unfold kids; rw [h]; rfl
theorem kids_9 {v : V} (h : v.k = 9) : kids v = are [isE] v.l := by unfold kids; rw [h]; rfl
theorem kids_10 {v : V} (h : v.k = 10) : kids v = v.l.all isSt := by unfold kids; rw [h]; rfl
theorem kids_11 {v : V} (h : v.k = 11) : kids v = are [isE] v.l := by unfold kids; rw [h]; rfl
theorem kids_12 {v : V} (h : v.k = 12) : kids v = are [isE, isE] v.l := by unfold kids; rw [h]; rfl
theorem kids_13 {v : V} (h : v.k = 13) : kids v = (!v.l.isEmpty && v.l.all isE) := by unfold kids; rw [h]; rfl
theorem kids_14 {v : V} (h : v.k = 14) : kids v = (!v.l.isEmpty && v.l.all isE) := by unfold kids; rw [h]; rfl
theorem kids_15 {v : V} (h : v.k = 15) : kids v = are [isE] v.l := by unfold kids; rw [h]; rfl
theorem kids_16 {v : V} (h : v.k = 16) : kids v = are [isTg] v.l := by unfold kids; rw [h]; rfl
theorem kids_17 {v : V} (h : v.k = 17) : kids v = are [isE, isE] v.l := by unfold kids; rw [h]; rfl
theorem kids_18 {v : V} (h : v.k = 18) : kids v = are [isE, isE] v.l := by unfold kids; rw [h]; rfl
theorem kids_19 {v : V} (h : v.k = 19) : kids v = are [isE, isE, isE] v.l := by unfold kids; rw [h]; rfl
theorem kids_20 {v : V} (h : v.k = 20) : kids v = are [isTg, isE] v.l := by unfold kids; rw [h]; rfl
theorem kids_21 {v : V} (h : v.k = 21) : kids v = are [isE, isE] v.l := by unfold kids; rw [h]; rfl
theorem kids_22 {v : V} (h : v.k = 22) : kids v = (!v.l.isEmpty && v.l.all (isK 23)) := by unfold kids; rw [h]; rfl
theorem kids_23 {v : V} (h : v.k = 23) : kids v = (v.l.isEmpty || are [isE] v.l) := by unfold kids; rw [h]; rfl
theorem kids_24 {v : V} (h : v.k = 24) : kids v = are [isE] v.l := by unfold kids; rw [h]; rfl
theorem kids_25 {v : V} (h : v.k = 25) : kids v = v.l.all isIn := by unfold kids; rw [h]; rfl
theorem kids_26 {v : V} (h : v.k = 26) : kids v = (are [isE, isK 25] v.l || are [isE, isK 25, isK 25] v.l) := by unfold kids; rw [h]; rfl
theorem kids_27 {v : V} (h : v.k = 27) : kids v = are [isE, isK 25] v.l := by unfold kids; rw [h]; rfl
theorem kids_28 {v : V} (h : v.k = 28) : kids v = are [isK 25, isE] v.l := by unfold kids; rw [h]; rfl
theorem kids_29 {v : V} (h : v.k = 29) : kids v = are [isBg, isEO, isEO, isK 25] v.l := by unfold kids; rw [h]; rfl
theorem kids_30 {v : V} (h : v.k = 30) : kids v = are [isTk, isE, isK 25] v.l := by unfold kids; rw [h]; rfl
theorem kids_31 {v : V} (h : v.k = 31) : kids v = v.l.isEmpty := by unfold kids; rw [h]; rfl
theorem kids_32 {v : V} (h : v.k = 32) : kids v = v.l.isEmpty := by unfold kids; rw [h]; rfl
theorem kids_33 {v : V} (h : v.k = 33) : kids v = (v.l.isEmpty || are [isE] v.l) := by unfold kids; rw [h]; rfl
theorem kids_34 {v : V} (h : v.k = 34) : kids v = are [isE] v.l := by unfold kids; rw [h]; rfl
theorem kids_35 {v : V} (h : v.k = 35) : kids v = (are [isK 25, isBO, isBO] v.l && (match v.l with | [_, b, c] => isK 25 b || isK 25 c | _ => false)) := by unfold kids; rw [h]; rfl
theorem kids_36 {v : V} (h : v.k = 36) : kids v = (match v.l with | x :: r => isE x && (r.all (isK 37) && decide (r.countP isDf ≤ 1)) | [] => false) := by unfold kids; rw [h]; rfl
theorem kids_37 {v : V} (h : v.k = 37) : kids v = (match v.l with | x :: r => isEO x && r.all isIn | [] => false) := by unfold kids; rw [h]; rfl
theorem kids_38 {v : V} (h : v.k = 38) : kids v = are [isIn] v.l := by unfold kids; rw [h]; rfl
theorem kids_39 {v : V} (h : v.k = 39) : kids v = v.l.all isSt := by unfold kids; rw [h]; rfl
theorem kids_40 {v : V} (h : v.k = 40) : kids v = v.l.isEmpty := by unfold kids; rw [h]; rfl
theorem kids_41 {v : V} (h : v.k = 41) : kids v = v.l.all isSt := by unfold kids; rw [h]; rfl
theorem kids_42 {v : V} (h : v.k = 42) : kids v = v.l.isEmpty := by unfold kids; rw [h]; rfl
theorem nm_3 {v : V} {c : Bool} (h : v.k = 3) : nmOk c v = isNm v.nm := by unfold nmOk; rw [h]; rfl
theorem nm_10 {v : V} {c : Bool} (h : v.k = 10) : nmOk c v = (decide (v.nm.size = 0) || isNm v.nm) := by unfold nmOk; rw [h]; rfl
theorem nm_11 {v : V} {c : Bool} (h : v.k = 11) : nmOk c v = isI (bl v.nm) := by unfold nmOk; rw [h]; rfl
theorem nm_15 {v : V} {c : Bool} (h : v.k = 15) : nmOk c v = opOk 15 (bl v.nm) := by unfold nmOk; rw [h]; rfl
theorem nm_16 {v : V} {c : Bool} (h : v.k = 16) : nmOk c v = opOk 16 (bl v.nm) := by unfold nmOk; rw [h]; rfl
theorem nm_17 {v : V} {c : Bool} (h : v.k = 17) : nmOk c v = opOk 17 (bl v.nm) := by unfold nmOk; rw [h]; rfl
theorem nm_18 {v : V} {c : Bool} (h : v.k = 18) : nmOk c v = opOk 18 (bl v.nm) := by unfold nmOk; rw [h]; rfl
theorem nm_20 {v : V} {c : Bool} (h : v.k = 20) : nmOk c v = opOk 20 (bl v.nm) := by unfold nmOk; rw [h]; rfl
theorem nm_23 {v : V} {c : Bool} (h : v.k = 23) : nmOk c v = isNm v.nm := by unfold nmOk; rw [h]; rfl
theorem nm_31 {v : V} {c : Bool} (h : v.k = 31) : nmOk c v = (decide (v.nm.size = 0) || isNm v.nm) := by unfold nmOk; rw [h]; rfl
theorem nm_32 {v : V} {c : Bool} (h : v.k = 32) : nmOk c v = (decide (v.nm.size = 0) || isNm v.nm) := by unfold nmOk; rw [h]; rfl
theorem nm_35 {v : V} {c : Bool} (h : v.k = 35) : nmOk c v = (if c then isNm v.nm else decide (v.nm.size = 0)) := by unfold nmOk; rw [h]; rfl
theorem nm_38 {v : V} {c : Bool} (h : v.k = 38) : nmOk c v = isNm v.nm := by unfold nmOk; rw [h]; rfl
theorem nm_39 {v : V} {c : Bool} (h : v.k = 39) : nmOk c v = isNm v.nm := by unfold nmOk; rw [h]; rfl
theorem nm_1 {v : V} {c : Bool} (h : v.k = 1) : nmOk c v = decide (v.nm.size = 0) := by unfold nmOk; rw [h]; rfl
theorem nm_2 {v : V} {c : Bool} (h : v.k = 2) : nmOk c v = decide (v.nm.size = 0) := by unfold nmOk; rw [h]; rfl
theorem nm_6 {v : V} {c : Bool} (h : v.k = 6) : nmOk c v = decide (v.nm.size = 0) := by unfold nmOk; rw [h]; rfl
theorem nm_9 {v : V} {c : Bool} (h : v.k = 9) : nmOk c v = decide (v.nm.size = 0) := by unfold nmOk; rw [h]; rfl
theorem nm_22 {v : V} {c : Bool} (h : v.k = 22) : nmOk c v = decide (v.nm.size = 0) := by unfold nmOk; rw [h]; rfl
theorem num_1 {v : V} (h : v.k = 1) : numOk v = decide (0 ≤ v.n ∧ v.n ≤ 9007199254740991) := by unfold numOk; rw [h]; rfl
theorem num_6 {v : V} (h : v.k = 6) : numOk v = decide (v.n = 0 ∨ v.n = 1) := by unfold numOk; rw [h]; rfl
theorem num_16 {v : V} (h : v.k = 16) : numOk v = decide (v.n = 0 ∨ v.n = 1) := by unfold numOk; rw [h]; rfl
theorem tx_2 {v : V} (h : v.k = 2) : txOk v = decide (v.s.size % 2 = 0) := by unfold txOk; rw [h]; rfl
theorem tx_9 {v : V} (h : v.k = 9) : txOk v = decide (v.s.size % 2 = 0) := by unfold txOk; rw [h]; rfl
theorem ns_10 {v : V} (h : v.k = 10) : nsOk v = v.ks.all isNm := by unfold nsOk; rw [h]; rfl
theorem ns_39 {v : V} (h : v.k = 39) : nsOk v = v.ks.all isNm := by unfold nsOk; rw [h]; rfl
end Go.Proofs.YtllpgoaanbiodaaGreatDoor.R
