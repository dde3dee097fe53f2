/-
  begins; the reference's words and signs, IsWord.
-/
import Derived.Test.YtkaamaopjcaalaaDoorUG
import Derived.Test.YtkaamaopjcaalaaDoorA
namespace Go.Proofs.YtkaamaopjcaalaaDoor.T
open Go.RowKit Go.Proofs.YtkaamaopjcaalaaDoor

theorem ext_list (t : ByteArray) (i j : Nat) : (t.extract i j).data.toList = (t.data.toList.drop i).take (j - i) := by
  rw [ByteArray.data_extract, Array.toList_extract, List.extract_eq_take_drop]
theorem ext_end (t : ByteArray) (i : Nat) : (t.extract i t.size).data.toList = t.data.toList.drop i := by
  rw [ext_list, List.take_of_length_le]
  rw [List.length_drop, size_list]
  exact Nat.le_refl _
theorem prefix_take (g l : Bs) : g.isPrefixOf l = (l.take g.length == g) := by
  rw [Bool.eq_iff_iff, List.isPrefixOf_iff_prefix, beq_iff_eq, List.prefix_iff_eq_take]
  exact ⟨Eq.symm, Eq.symm⟩
theorem prefix_long (g l : Bs) (h : l.length < g.length) : g.isPrefixOf l = false := by
  rw [Bool.eq_false_iff]
  intro h'
  have := (List.isPrefixOf_iff_prefix.1 h').length_le
  omega
set_option maxRecDepth 4000 in
theorem begins_any (s : ByteArray) (a : Nat) (g : ByteArray) (w : World) (hs : s.size ≤ 4611686018427387904) (ha : a ≤ s.size) (hg : g.size ≤ 16) :
    Calls Tryd.prog 40 #[.string s, .int .i64 (a : Nat), .string g] w fun e w' => e = .returned (.bool (g.data.toList.isPrefixOf (s.data.toList.drop a))) ∧ w = w' := by
  obtain ⟨n, hn⟩ : ∃ n, g.size = n := ⟨_, rfl⟩
  by_cases h : a + n ≤ s.size
  · have h' : (a : Int) + (n : Int) ≤ (s.size : Int) := by omega
    have e : ((a : Int) + (n : Int)).toNat = a + n := by omega
    have e0 : 0 ≤ (a : Int) + (n : Int) := by omega
    have e1 : (a : Int) ≤ (a : Int) + (n : Int) := by omega
    have e2 : 0 ≤ (a : Int) := by omega
    have HV : Hid (((s.extract a (a + n)).toList == g.toList) = g.data.toList.isPrefixOf (s.data.toList.drop a)) := Lib.hid (by
      rw [prefix_take _ _, Lib.toList_data, Lib.toList_data, ext_list, size_list, hn, show a + n - a = n by omega])
    rw [hn] at hg
    go_enter Tryd.func40, Tryd.ntmps40
    go_wp2
    go_ret
    exact ⟨ret_bool HV.out, rfl⟩
  · have h' : (s.size : Int) < (a : Int) + (n : Int) := by omega
    have HV : Hid (g.data.toList.isPrefixOf (s.data.toList.drop a) = false) := Lib.hid (prefix_long _ _ (by rw [List.length_drop, size_list, size_list]; omega))
    rw [hn] at hg
    clear h
    go_enter Tryd.func40, Tryd.ntmps40
    go_wp2
    go_ret
    exact ⟨ret_bool HV.out.symm, rfl⟩
/-- texts in a block of their own -/
def strsO (l : List Bs) : Obj := .cells ((l.map fun x => Value.string ⟨x.toArray⟩).toArray) 9
theorem strs_at (w : World) (l : List Bs) (j : Nat) (h : j < l.length) : (w.alloc (strsO l)).cell? ⟨w.heap.size, j, none⟩ = some (.string ⟨l[j].toArray⟩) := by
  unfold strsO
  rw [World.cell?_alloc_at _ _ _ _ rfl]
  simp [h]
theorem strs_cell {w w' : World} {l : List Bs} (hb : Below (w.heap.size + 1) (w.alloc (strsO l)) w') (j : Nat) (h : j < l.length) : w'.cell? ⟨w.heap.size, j, none⟩ = some (.string ⟨l[j].toArray⟩) :=
  (hb.cell (p := ⟨w.heap.size, j, none⟩) (Nat.lt_succ_self _)).trans (strs_at w l j h)
set_option maxRecDepth 8000 in
theorem words_any (w : World) : Calls Tryd.prog 18 #[] w fun e w' => e = .returned (.slice (some ⟨w.heap.size, 0, none⟩) 45 45) ∧ w' = w.alloc (strsO words) := by
  go_enter Tryd.func18, Tryd.ntmps18
  go_wp2
  go_ret
  exact ⟨rfl, rfl⟩
set_option maxRecDepth 8000 in
theorem signs_any (w : World) : Calls Tryd.prog 43 #[] w fun e w' => e = .returned (.slice (some ⟨w.heap.size, 0, none⟩) 35 35) ∧ w' = w.alloc (strsO signs) := by
  go_enter Tryd.func43, Tryd.ntmps43
  go_wp2
  go_ret
  exact ⟨rfl, rfl⟩
theorem words_len : words.length = 45 := rfl
theorem signs_len : signs.length = 35 := rfl
theorem isW_yes {l : Bs} {j : Nat} (h : j < words.length) (e : l = words[j]) : isW l = true := by
  unfold isW
  rw [List.contains_iff_mem, e]
  exact List.getElem_mem h
theorem isW_no {l : Bs} (h : ∀ i (h : i < words.length), ¬ l = words[i]) : isW l = false := by
  rw [Bool.eq_false_iff]
  intro hc
  unfold isW at hc
  rw [List.contains_iff_mem] at hc
  obtain ⟨i, hi, e⟩ := List.getElem_of_mem hc
  exact h i hi e.symm
set_option maxRecDepth 8000 in
set_option maxHeartbeats 1000000 in
theorem refIsWord_any (s : ByteArray) (w : World) :
    Calls Tryd.prog 11 #[.string s] w fun e w' => e = .returned (.bool (isW s.data.toList)) ∧ Below w.heap.size w w' := by
  have HW := Lib.hid words_any
  have HC := Lib.hid (strs_at w words)
  have HB := Lib.hid ((Below.refl _ _).alloc (Nat.le_refl _) (strsO words) : Below w.heap.size w (w.alloc (strsO words)))
  have HL := Lib.hid words_len
  have HY := Lib.hid (fun j h e => isW_yes (l := s.data.toList) (j := j) h e)
  have HN := Lib.hid (fun h => isW_no (l := s.data.toList) h)
  generalize isW s.data.toList = b at *
  generalize words = ws at *
  go_enter Tryd.func11, Tryd.ntmps11
  go_wp2_with (go_at_call 18; refine (HW.out _).mono ?_; rintro e w' ⟨rfl, rfl⟩)
  generalize w.alloc (strsO ws) = w1 at *
  go_loopw [7] (fun i wr => ∃ j : Nat, j ≤ 45 ∧ i = .int .i64 j ∧ Hid (∀ i, i < j → (h : i < ws.length) → ¬ s.data.toList = ws[i]) ∧ w1 = wr)
    (fun i _ => 45 - (intOf i).toNat)
  case atStart => exact ⟨0, Nat.zero_le _, rfl, Lib.hid fun i hi => by omega, rfl⟩
  case round =>
    obtain ⟨j, hj, rfl, hh, rfl⟩ := hrel
    by_cases hlt : j < 45
    · have hlt' : j < ws.length := by rw [HL.out]; exact hlt
      have hc := HC.out j hlt'
      have hlti : (j : Int) < 45 := by omega
      by_cases he : s.data.toList = ws[j]
      · have hq : (s.toList == (⟨ws[j].toArray⟩ : ByteArray).toList) = true := by
          rw [Lib.toList_data, Lib.toList_data, he]
          exact beq_self_eq_true _
        have hV := HY.out j hlt' he
        subst hV
        clear he HY HN
        generalize (⟨ws[j].toArray⟩ : ByteArray) = x at *
        go_wp2_with fail
        go_ret
        exact ⟨rfl, HB.out⟩
      · have hq : (s.toList == (⟨ws[j].toArray⟩ : ByteArray).toList) = false := by
          rw [Lib.toList_data, Lib.toList_data, beq_eq_false_iff_ne]
          exact he
        have HS : Hid (∀ i, i < j + 1 → (h : i < ws.length) → ¬ s.data.toList = ws[i]) := Lib.hid fun i hi h => by
          rcases Nat.lt_succ_iff_lt_or_eq.1 hi with hi | rfl
          · exact hh.out i hi h
          · exact he
        clear he
        generalize (⟨ws[j].toArray⟩ : ByteArray) = x at *
        go_wp2_with fail
        go_roundw
        case rel => exact ⟨j + 1, by omega, by go_num, HS, by first | rfl | trivial⟩
        case measure => simp [intOf]; omega
    · obtain rfl : j = 45 := by omega
      have hV := HN.out fun i h => hh.out i (by rw [HL.out] at h; exact h) h
      subst hV
      go_wp2_with fail
      go_ret
      exact ⟨rfl, HB.out⟩
end Go.Proofs.YtkaamaopjcaalaaDoor.T
