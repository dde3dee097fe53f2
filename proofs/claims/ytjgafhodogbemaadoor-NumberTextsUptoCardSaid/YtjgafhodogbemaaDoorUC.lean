/-
  Laid by wip/prune.py out of wip/units: D.
-/
import Derived.Test.YtjgafhodogbemaaDoorUB
import Derived.Test.YtjgafhodogbemaaDoorShelf
namespace Go.Proofs.YtjgafhodogbemaaDoor
open Go.RowKit

set_option maxRecDepth 8000 in
theorem clone_any (s : ByteArray) (w : World) (hlim : s.size ≤ 281474976710656) :
    Calls Tryd.prog 54 #[.string s] w fun e w' => e = .returned (.string s) ∧ Below w.heap.size w w' := by
  go_enter Tryd.func54, Tryd.ntmps54
  go_wp2_with (go_at_call 59; refine (Tryd.stringslite_Clone s _ hlim).mono ?_; rintro e w' ⟨rfl, hb⟩)
  go_ret
  exact ⟨rfl, hb⟩
/-- what Cut answers -/
def cutOf (s : ByteArray) (i j : Int) : ByteArray := ⟨(bs (cutU (us s.data.toList) i j)).toArray⟩
theorem cutOf_none {s : ByteArray} {i j : Int} (h : min j ((s.size : Int) / 2) ≤ max i 0) : cutOf s i j = ⟨#[]⟩ := by
  unfold cutOf cutU
  rw [List.drop_eq_nil_of_le]
  · rfl
  · rw [List.length_take, us_length, size_list]
    omega
theorem cutOf_some {s : ByteArray} {i j : Int} {f t : Nat} (hf : max i 0 = (f : Int)) (ht : min j ((s.size : Int) / 2) = (t : Int)) : cutOf s i j = s.extract (2 * f) (2 * t) := by
  have hl := size_list s
  unfold cutOf
  rw [cut_bytes, hl]
  apply ByteArray.ext
  apply Array.toList_inj.1
  have e1 : i.toNat = f := by omega
  have e2 : min (2 * j.toNat) (2 * (s.size / 2)) = 2 * t := by omega
  rw [List.take_take, e1, e2]
  simp [List.drop_take]
set_option maxRecDepth 8000 in
theorem cut_big (s : ByteArray) (i j : Int) (w : World) (hs : s.size ≤ 1125899906842624) (hpiece : (cutOf s i j).size ≤ 281474976710656) :
    Calls Tryd.prog 49 #[.string s, .int .i64 i, .int .i64 j] w fun e w' => e = .returned (.string (cutOf s i j)) ∧ Below w.heap.size w w' := by
  have hm : s.size ≤ maxLen := by unfold maxLen; omega
  by_cases hle : min j ((s.size : Int) / 2) ≤ max i 0
  · have HC := Lib.hid (cutOf_none hle)
    go_enter Tryd.func49, Tryd.ntmps49
    go_wp2_with (go_at_call 47; refine (len_any s _ hm).mono ?_; rintro e w' ⟨rfl, rfl⟩)
    go_ret
    exact ⟨by rw [HC.out]; rfl, Below.refl _ _⟩
  · obtain ⟨f, hf⟩ : ∃ f : Nat, max i 0 = (f : Int) := ⟨(max i 0).toNat, by omega⟩
    obtain ⟨t, ht⟩ : ∃ t : Nat, min j ((s.size : Int) / 2) = (t : Int) := ⟨(min j ((s.size : Int) / 2)).toNat, by omega⟩
    have HC := Lib.hid (cutOf_some hf ht)
    have hft : f < t := by omega
    have hts : 2 * t ≤ s.size := by omega
    have e1 : IntKind.i64.wrap (2 * (f : Int)) = 2 * (f : Int) := IntWalk.i64_in _ (by omega)
    have e2 : IntKind.i64.wrap (2 * (t : Int)) = 2 * (t : Int) := IntWalk.i64_in _ (by omega)
    have e3 : (2 * (f : Int)).toNat = 2 * f := by omega
    have e4 : (2 * (t : Int)).toNat = 2 * t := by omega
    have e5 : 0 ≤ 2 * (f : Int) := by omega
    have e6 : 2 * (f : Int) ≤ 2 * (t : Int) := by omega
    have e7 : 2 * (t : Int) ≤ s.size := by omega
    have hx : (s.extract (2 * f) (2 * t)).size ≤ 281474976710656 := by rw [← HC.out]; exact hpiece
    have hsl := run_slice_string (P := Tryd.prog) w 9 s .i64 .i64 (2 * (f : Int)) (2 * (t : Int)) Tryd.underlying9 e5 e6 e7
    rw [e3, e4] at hsl
    clear hle hpiece
    go_enter Tryd.func49, Tryd.ntmps49
    go_wp2_with (first
      | (go_at_call 47; refine (len_any s _ hm).mono ?_; rintro e w' ⟨rfl, rfl⟩)
      | (go_at_call 54; refine (clone_any (s.extract (2 * f) (2 * t)) _ hx).mono ?_; rintro e w' ⟨rfl, hb⟩))
    go_ret
    exact ⟨by rw [HC.out]; rfl, hb⟩
theorem cutOf_size (s : ByteArray) (i j : Int) : (cutOf s i j).size ≤ s.size := by
  rw [← size_list]
  unfold cutOf
  show (bs (cutU (us s.data.toList) i j)).length ≤ s.size
  rw [cut_bytes, List.length_drop, List.length_take, List.length_take, size_list]
  omega
theorem cut_any (s : ByteArray) (i j : Int) (w : World) (hs : s.size ≤ 140737488355328) :
    Calls Tryd.prog 49 #[.string s, .int .i64 i, .int .i64 j] w fun e w' => e = .returned (.string (cutOf s i j)) ∧ Below w.heap.size w w' :=
  cut_big s i j w (by omega) (by have := cutOf_size s i j; omega)
end Go.Proofs.YtjgafhodogbemaaDoor
