/-
  WORDS AND SIGNS: IsWord, isSign; the reference's words, signs, IsWord.
-/
import Derived.Test.YtkaamaopjcaalaaDoorUG
import Derived.Test.YtkaamaopjcaalaaDoorA
namespace Go.Proofs.YtkaamaopjcaalaaDoor.T
open Go.RowKit Go.Proofs.YtkaamaopjcaalaaDoor

theorem hitS {s : ByteArray} {l : Bs} (h : (s.toList == l) = true) (hl : isS l = true) : isS s.data.toList = true := by
  rw [← Lib.toList_data, eq_of_beq h]; exact hl
theorem hitW {s : ByteArray} {l : Bs} (h : (s.toList == l) = true) (hl : isW l = true) : isW s.data.toList = true := by
  rw [← Lib.toList_data, eq_of_beq h]; exact hl
theorem noBoth {b : Bool} {p : Prop} (h1 : b = true) (h2 : b = false) : p := by rw [h1] at h2; cases h2
set_option maxRecDepth 8000 in
set_option maxHeartbeats 2000000 in
theorem isSign_any (s : ByteArray) (w : World) :
    Calls Tryd.prog 59 #[.string s] w fun e w' => e = .returned (.bool (isS s.data.toList)) ∧ w = w' := by
  go_enter Tryd.func59, Tryd.ntmps59
  go_wp2
  all_goals first
    | (exfalso; exact noBoth (by assumption) (by assumption))
    | (go_ret; exact ⟨ret_bool (hitS (by assumption) (by decide +kernel)).symm, rfl⟩)
    | (go_ret; exact ⟨ret_bool (by symm; rw [← Lib.toList_data]; simp only [isS, signs, List.contains_cons, List.contains_nil, *, Bool.or_false]), rfl⟩)
set_option maxRecDepth 8000 in
set_option maxHeartbeats 2000000 in
theorem isWord_any (s : ByteArray) (w : World) :
    Calls Tryd.prog 10 #[.string s] w fun e w' => e = .returned (.bool (isW s.data.toList)) ∧ w = w' := by
  go_enter Tryd.func10, Tryd.ntmps10
  go_wp2
  all_goals first
    | (exfalso; exact noBoth (by assumption) (by assumption))
    | (go_ret; exact ⟨ret_bool (hitW (by assumption) (by decide +kernel)).symm, rfl⟩)
    | (go_ret; exact ⟨ret_bool (by symm; rw [← Lib.toList_data]; simp only [isW, words, List.contains_cons, List.contains_nil, *, Bool.or_false]), rfl⟩)
end Go.Proofs.YtkaamaopjcaalaaDoor.T
