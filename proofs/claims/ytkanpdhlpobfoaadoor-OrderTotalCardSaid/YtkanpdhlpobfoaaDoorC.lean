/-
  units' Check, valid, sizeOf and the reference's like, by contract.
-/
import Derived.Test.YtkanpdhlpobfoaaDoorB
import Derived.Test.YtkanpdhlpobfoaaDoorShelf
namespace Go.Proofs.YtkanpdhlpobfoaaDoor
open Go.RowKit
open K (Pt)

theorem check_any (s : ByteArray) (w : World) (hs : s.size ≤ maxLen) :
    Calls Tryd.prog 39 #[.string s] w fun e w' => e = .returned (.bool (decide (s.size % 2 = 0))) ∧ w = w' := by
  unfold maxLen at hs
  go_enter Tryd.func39, Tryd.ntmps39
  go_wp2
  go_ret
  exact ⟨ret_bool (by rw [Bool.eq_iff_iff]; simp; omega), rfl⟩
theorem refCheck1_any (s : ByteArray) (w : World) (hs : s.size ≤ maxLen) :
    Calls Tryd.prog 43 #[.string s] w fun e w' => e = .returned (.bool (decide (s.size % 2 = 0))) ∧ w = w' := by
  unfold maxLen at hs
  go_enter Tryd.func43, Tryd.ntmps43
  go_wp2
  go_ret
  exact ⟨ret_bool (by rw [Bool.eq_iff_iff]; simp; omega), rfl⟩

theorem empty_not {s : ByteArray} (h : s.size ≠ 0) : ¬ s.toList = [] ∧ s.toList.isEmpty = false := by
  have e : s.toList ≠ [] := fun h' => h (by rw [← size_list, ← Lib.toList_data, h']; rfl)
  refine ⟨e, ?_⟩
  cases hs : s.toList with
  | nil => exact absurd hs e
  | cons _ _ => rfl
set_option maxRecDepth 4000 in
theorem valid_any (p : Pt) (w : World) (hs : p.s.size ≤ maxLen) : Calls Tryd.prog 26 #[pV p] w fun e w' => e = .returned (.bool p.may) ∧ Below w.heap.size w w' := by
  obtain ⟨t, n, s⟩ := p
  simp only at hs
  unfold pV
  have HC := Lib.hid fun w => check_any s w hs
  cases t
  · by_cases h0 : s = ⟨#[]⟩
    · subst h0
      have hm : Hid (Pt.may ⟨false, n, ⟨#[]⟩⟩ = (decide (-9007199254740991 ≤ n) && decide (n ≤ 9007199254740991))) := Lib.hid rfl
      clear HC hs
      by_cases h1 : -9007199254740991 ≤ n
      · rw [decide_eq_true h1] at hm
        go_enter Tryd.func26, Tryd.ntmps26
        go_wp2_with fail
        go_ret
        exact ⟨by rw [hm.out, Bool.true_and]; rfl, below_alloc _ _⟩
      · have h1' : n < -9007199254740991 := by omega
        rw [decide_eq_false h1] at hm
        clear h1
        go_enter Tryd.func26, Tryd.ntmps26
        go_wp2_with fail
        go_ret
        exact ⟨by rw [hm.out]; rfl, below_alloc _ _⟩
    · have hz : s.size ≠ 0 := fun h => h0 (ByteArray.ext (Array.eq_empty_of_size_eq_zero h))
      have hm : Hid (Pt.may ⟨false, n, s⟩ = false) := Lib.hid (by simp [Pt.may, hz])
      have hb := empty_not hz
      have hb2 := hb.2
      have hb1 := hb.1
      clear hb hz h0 HC
      go_enter Tryd.func26, Tryd.ntmps26
      go_wp2_with fail
      go_ret
      exact ⟨by rw [hm.out]; rfl, below_alloc _ _⟩
  · by_cases h0 : n = 0
    · subst h0
      have hm : Hid (Pt.may ⟨true, 0, s⟩ = decide (s.size % 2 = 0)) := Lib.hid (by simp [Pt.may])
      generalize decide (s.size % 2 = 0) = B at *
      go_enter Tryd.func26, Tryd.ntmps26
      go_wp2_with fail
      refine (HC.out _).mono ?_
      rintro e w1 ⟨rfl, rfl⟩
      go_wp2_with fail
      go_ret
      exact ⟨by rw [hm.out]; rfl, below_alloc _ _⟩
    · have hb : (n == 0) = false := by rw [beq_eq_false_iff_ne]; exact h0
      have hm : Hid (Pt.may ⟨true, n, s⟩ = false) := Lib.hid (by simp [Pt.may, h0])
      clear h0
      go_enter Tryd.func26, Tryd.ntmps26
      go_wp2_with fail
      go_ret
      exact ⟨by rw [hm.out]; rfl, below_alloc _ _⟩
set_option maxRecDepth 4000 in
theorem refMay_any (p : Pt) (w : World) (hs : p.s.size ≤ maxLen) : Calls Tryd.prog 33 #[pV p] w fun e w' => e = .returned (.bool p.may) ∧ Below w.heap.size w w' := by
  obtain ⟨t, n, s⟩ := p
  simp only at hs
  unfold pV
  have HC := Lib.hid fun w => refCheck1_any s w hs
  cases t
  · by_cases h0 : s = ⟨#[]⟩
    · subst h0
      have hm : Hid (Pt.may ⟨false, n, ⟨#[]⟩⟩ = (decide (-9007199254740991 ≤ n) && decide (n ≤ 9007199254740991))) := Lib.hid rfl
      clear HC hs
      by_cases h1 : -9007199254740991 ≤ n
      · rw [decide_eq_true h1] at hm
        go_enter Tryd.func33, Tryd.ntmps33
        go_wp2_with fail
        go_ret
        exact ⟨by rw [hm.out, Bool.true_and]; rfl, below_alloc _ _⟩
      · have h1' : n < -9007199254740991 := by omega
        rw [decide_eq_false h1] at hm
        clear h1
        go_enter Tryd.func33, Tryd.ntmps33
        go_wp2_with fail
        go_ret
        exact ⟨by rw [hm.out]; rfl, below_alloc _ _⟩
    · have hz : s.size ≠ 0 := fun h => h0 (ByteArray.ext (Array.eq_empty_of_size_eq_zero h))
      have hm : Hid (Pt.may ⟨false, n, s⟩ = false) := Lib.hid (by simp [Pt.may, hz])
      have hb := empty_not hz
      have hb2 := hb.2
      have hb1 := hb.1
      clear hb hz h0 HC
      go_enter Tryd.func33, Tryd.ntmps33
      go_wp2_with fail
      go_ret
      exact ⟨by rw [hm.out]; rfl, below_alloc _ _⟩
  · by_cases h0 : n = 0
    · subst h0
      have hm : Hid (Pt.may ⟨true, 0, s⟩ = decide (s.size % 2 = 0)) := Lib.hid (by simp [Pt.may])
      generalize decide (s.size % 2 = 0) = B at *
      go_enter Tryd.func33, Tryd.ntmps33
      go_wp2_with fail
      refine (HC.out _).mono ?_
      rintro e w1 ⟨rfl, rfl⟩
      go_wp2_with fail
      go_ret
      exact ⟨by rw [hm.out]; rfl, below_alloc _ _⟩
    · have hb : (n == 0) = false := by rw [beq_eq_false_iff_ne]; exact h0
      have hm : Hid (Pt.may ⟨true, n, s⟩ = false) := Lib.hid (by simp [Pt.may, h0])
      clear h0
      go_enter Tryd.func33, Tryd.ntmps33
      go_wp2_with fail
      go_ret
      exact ⟨by rw [hm.out]; rfl, below_alloc _ _⟩
set_option maxRecDepth 4000 in
theorem sizeOf_any (p : Pt) (w : World) (hs : p.s.size ≤ 1048576) : Calls Tryd.prog 27 #[pV p] w fun e w' => e = .returned (.int .i64 p.enc.length) ∧ Below w.heap.size w w' := by
  have HL := Lib.hid (enc_length p)
  have HC := Lib.hid fun (c : UInt8) w => Tryd.strings_Count_one p.s c w
  have hcl := List.count_le_length (a := (0 : UInt8)) (l := p.l)
  rw [K.l_length] at hcl
  have HX : Hid (Lib.countByte p.s.data.toList 0 = p.l.count 0) := Lib.hid rfl
  obtain ⟨t, n, s⟩ := p
  simp only at hs hcl
  unfold pV
  cases t
  · go_enter Tryd.func27, Tryd.ntmps27
    go_wp2_with fail
    go_ret
    exact ⟨by rw [HL.out]; rfl, below_alloc _ _⟩
  · simp only [if_true] at HL
    generalize List.count 0 (Pt.l ⟨true, n, s⟩) = m at *
    go_enter Tryd.func27, Tryd.ntmps27
    go_wp2_with fail
    refine (HC.out _ _).mono ?_
    rintro e w1 ⟨rfl, rfl⟩
    simp only [HX.out]
    go_wp2_with fail
    go_ret
    exact ⟨ret_int (by rw [HL.out]; omega), below_alloc _ _⟩
end Go.Proofs.YtkanpdhlpobfoaaDoor
