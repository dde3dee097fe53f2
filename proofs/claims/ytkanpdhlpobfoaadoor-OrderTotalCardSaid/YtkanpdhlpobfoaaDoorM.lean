/-
  The reference's compare, Compare; side, by contract.
-/
import Derived.Test.YtkanpdhlpobfoaaDoorL
import Derived.Deep.RegionHeld3
import Derived.Laws.Cover1
namespace Go.Proofs.YtkanpdhlpobfoaaDoor
open Go.RowKit
open K (Pt)

theorem less_cmp : ∀ x y : Bs, Op.bytesLess x y = decide (K.cmpB x y = -1)
  | [], [] => rfl
  | _ :: _, [] => rfl
  | [], _ :: _ => rfl
  | a :: x, b :: y => by
    have h1 := K.cmpB_lt (a :: x) (b :: y)
    have h2 := K.cmpB_lt x y
    rw [List.cons_lt_cons_iff] at h1
    rw [Op.bytesLess, less_cmp x y, Bool.eq_iff_iff]
    simp only [Bool.or_eq_true, Bool.and_eq_true, decide_eq_true_eq, beq_iff_eq]
    rw [← h1, ← h2]
theorem beq_cmp (x y : Bs) : (x == y) = decide (K.cmpB x y = 0) := by
  rw [Bool.eq_iff_iff, beq_iff_eq, decide_eq_true_iff]
  exact ⟨fun h => by rw [h]; exact K.cmpB_tot.refl y, K.cmpB_zero⟩
theorem str_cases (a b : ByteArray) :
    (K.cmpB a.data.toList b.data.toList = -1 ∧ Op.bytesLess a.toList b.toList = true ∧ (a.toList == b.toList) = false) ∨
    (K.cmpB a.data.toList b.data.toList = 0 ∧ Op.bytesLess a.toList b.toList = false ∧ (a.toList == b.toList) = true) ∨
    (K.cmpB a.data.toList b.data.toList = 1 ∧ Op.bytesLess a.toList b.toList = false ∧ (a.toList == b.toList) = false) := by
  rw [less_cmp, beq_cmp, Lib.toList_data, Lib.toList_data]
  rcases K.cmpB_tot.sign a.data.toList b.data.toList with h | h | h <;> rw [h] <;> simp

set_option maxRecDepth 8000 in
set_option maxHeartbeats 1000000 in
theorem refPart_text (n n' : Int) (s s' : ByteArray) (w : World) : Calls Tryd.prog 36 #[.agg #[.bool true, .int .i64 n, .string s], .agg #[.bool true, .int .i64 n', .string s']] w fun e w' => e = .returned (.int .i64 (K.cmpB s.data.toList s'.data.toList)) ∧ Below w.heap.size w w' := by
  rcases str_cases s s' with ⟨h, h1, h2⟩ | ⟨h, h1, h2⟩ | ⟨h, h1, h2⟩
  all_goals
    have HV := Lib.hid h
    clear h
    go_enter Tryd.func36, Tryd.ntmps36
    go_wp2_with fail
    go_ret
    exact ⟨by rw [HV.out]; rfl, below_two _ _ _⟩
set_option maxRecDepth 8000 in
set_option maxHeartbeats 1000000 in
theorem refPart_num (n n' : Int) (s s' : ByteArray) (w : World) : Calls Tryd.prog 36 #[.agg #[.bool false, .int .i64 n, .string s], .agg #[.bool false, .int .i64 n', .string s']] w fun e w' => e = .returned (.int .i64 (K.cmpI n n')) ∧ Below w.heap.size w w' := by
  rcases Int.lt_trichotomy n n' with h | rfl | h
  · have HC : Hid (K.cmpI n n' = -1) := by unfold K.cmpI; rw [if_pos h]; exact Lib.hid rfl
    go_enter Tryd.func36, Tryd.ntmps36
    go_wp2_with fail
    go_ret
    exact ⟨by rw [HC.out]; rfl, below_two _ _ _⟩
  · have HC : Hid (K.cmpI n n = 0) := K.cmpI_tot.refl n
    go_enter Tryd.func36, Tryd.ntmps36
    go_wp2_with fail
    go_ret
    exact ⟨by rw [HC.out]; rfl, below_two _ _ _⟩
  · have HC : Hid (K.cmpI n n' = 1) := by unfold K.cmpI; rw [if_neg (by omega), if_pos h]; exact Lib.hid rfl
    go_enter Tryd.func36, Tryd.ntmps36
    go_wp2_with fail
    go_ret
    exact ⟨by rw [HC.out]; rfl, below_two _ _ _⟩
set_option maxRecDepth 8000 in
set_option maxHeartbeats 1000000 in
theorem refComparePart_any (p q : Pt) (w : World) : Calls Tryd.prog 36 #[pV p, pV q] w fun e w' => e = .returned (.int .i64 (K.cmpP p q)) ∧ Below w.heap.size w w' := by
  have HP : Hid (K.cmpP p q = if p.t = true ∧ q.t = false then 1 else if q.t = true ∧ p.t = false then -1 else if p.t then K.cmpB p.l q.l else K.cmpI p.n q.n) := Lib.hid rfl
  unfold pV
  obtain ⟨t, n, s⟩ := p
  obtain ⟨t', n', s'⟩ := q
  simp only at *
  cases t <;> cases t' <;> simp only [Bool.false_eq_true, reduceCtorEq, and_false, and_true, and_self, if_false, if_true] at HP
  · rw [HP.out]
    exact refPart_num n n' s s' w
  · go_enter Tryd.func36, Tryd.ntmps36
    go_wp2_with fail
    go_ret
    exact ⟨by rw [HP.out]; rfl, below_two _ _ _⟩
  · go_enter Tryd.func36, Tryd.ntmps36
    go_wp2_with fail
    go_ret
    exact ⟨by rw [HP.out]; rfl, below_two _ _ _⟩
  · rw [HP.out]
    exact refPart_text n n' s s' w
theorem side_any (s t : ByteArray) (w : World) : Calls Tryd.prog 22 #[.string s, .string t] w fun e w' => e = .returned (.int .i64 (K.cmpB s.data.toList t.data.toList)) ∧ w = w' := by
  rcases str_cases s t with ⟨h, h1, h2⟩ | ⟨h, h1, h2⟩ | ⟨h, h1, h2⟩
  all_goals
    have HV := Lib.hid h
    clear h
    go_enter Tryd.func22, Tryd.ntmps22
    go_wp2_with fail
    go_ret
    exact ⟨by rw [HV.out]; rfl, rfl⟩
end Go.Proofs.YtkanpdhlpobfoaaDoor
