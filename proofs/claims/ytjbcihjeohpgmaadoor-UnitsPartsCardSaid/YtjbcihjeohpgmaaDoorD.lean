/-
  Cut, Index: the package's and the reference's, by contract.
-/
import Derived.Test.YtjbcihjeohpgmaaDoorC
import Derived.Test.YtjbcihjeohpgmaaDoorShelf
namespace Go.Proofs.YtjbcihjeohpgmaaDoor
open Go.RowKit

theorem clone_any (s : ByteArray) (w : World) (hlim : s.size ≤ 281474976710656) :
    Calls Tryd.prog 31 #[.string s] w fun e w' => e = .returned (.string s) ∧ Below w.heap.size w w' := by
  go_enter Tryd.func31, Tryd.ntmps31
  go_wp2_with (go_at_call 39; refine (Tryd.stringslite_Clone s _ hlim).mono ?_; rintro e w' ⟨rfl, hb⟩)
  go_ret
  exact ⟨rfl, hb⟩
/-- what Cut answers -/
def cutOf (s : ByteArray) (i j : Int) : ByteArray := ⟨(bs (cutU (us s.data.toList) i j)).toArray⟩
theorem cutOf_none {s : ByteArray} {i j : Int} (h : min j ((s.size : Int) / 2) ≤ max i 0) : cutOf s i j = ⟨#[]⟩ := by
  unfold cutOf cutU
  rw [List.drop_eq_nil_of_le]
  · rfl
  · rw [List.length_take, us_length, size_list]
    omega
theorem cutOf_some {s : ByteArray} {i j : Int} {f t : Nat} (hf : max i 0 = (f : Int)) (ht : min j ((s.size : Int) / 2) = (t : Int)) : cutOf s i j = s.extract (2 * f) (2 * t) := by
  have hl := size_list s
  unfold cutOf
  rw [cut_bytes, hl]
  apply ByteArray.ext
  apply Array.toList_inj.1
  have e1 : i.toNat = f := by omega
  have e2 : min (2 * j.toNat) (2 * (s.size / 2)) = 2 * t := by omega
  rw [List.take_take, e1, e2]
  simp [List.drop_take]
theorem cut_big (s : ByteArray) (i j : Int) (w : World) (hs : s.size ≤ 1125899906842624) (hpiece : (cutOf s i j).size ≤ 281474976710656) :
    Calls Tryd.prog 19 #[.string s, .int .i64 i, .int .i64 j] w fun e w' => e = .returned (.string (cutOf s i j)) ∧ Below w.heap.size w w' := by
  have hm : s.size ≤ maxLen := by unfold maxLen; omega
  by_cases hle : min j ((s.size : Int) / 2) ≤ max i 0
  · have HC := Lib.hid (cutOf_none hle)
    go_enter Tryd.func19, Tryd.ntmps19
    go_wp2_with (go_at_call 15; refine (len_any s _ hm).mono ?_; rintro e w' ⟨rfl, rfl⟩)
    go_ret
    exact ⟨by rw [HC.out]; rfl, Below.refl _ _⟩
  · obtain ⟨f, hf⟩ : ∃ f : Nat, max i 0 = (f : Int) := ⟨(max i 0).toNat, by omega⟩
    obtain ⟨t, ht⟩ : ∃ t : Nat, min j ((s.size : Int) / 2) = (t : Int) := ⟨(min j ((s.size : Int) / 2)).toNat, by omega⟩
    have HC := Lib.hid (cutOf_some hf ht)
    have hft : f < t := by omega
    have hts : 2 * t ≤ s.size := by omega
    have e1 : IntKind.i64.wrap (2 * (f : Int)) = 2 * (f : Int) := IntWalk.i64_in _ (by omega)
    have e2 : IntKind.i64.wrap (2 * (t : Int)) = 2 * (t : Int) := IntWalk.i64_in _ (by omega)
    have e3 : (2 * (f : Int)).toNat = 2 * f := by omega
    have e4 : (2 * (t : Int)).toNat = 2 * t := by omega
    have e5 : 0 ≤ 2 * (f : Int) := by omega
    have e6 : 2 * (f : Int) ≤ 2 * (t : Int) := by omega
    have e7 : 2 * (t : Int) ≤ s.size := by omega
    have hx : (s.extract (2 * f) (2 * t)).size ≤ 281474976710656 := by rw [← HC.out]; exact hpiece
    have hsl := run_slice_string (P := Tryd.prog) w 9 s .i64 .i64 (2 * (f : Int)) (2 * (t : Int)) Tryd.underlying9 e5 e6 e7
    rw [e3, e4] at hsl
    clear hle hpiece
    go_enter Tryd.func19, Tryd.ntmps19
    go_wp2_with (first
      | (go_at_call 15; refine (len_any s _ hm).mono ?_; rintro e w' ⟨rfl, rfl⟩)
      | (go_at_call 31; refine (clone_any (s.extract (2 * f) (2 * t)) _ hx).mono ?_; rintro e w' ⟨rfl, hb⟩))
    go_ret
    exact ⟨by rw [HC.out]; rfl, hb⟩


theorem cutOf_size (s : ByteArray) (i j : Int) : (cutOf s i j).size ≤ s.size := by
  rw [← size_list]
  unfold cutOf
  show (bs (cutU (us s.data.toList) i j)).length ≤ s.size
  rw [cut_bytes, List.length_drop, List.length_take, List.length_take, size_list]
  omega
theorem cut_any (s : ByteArray) (i j : Int) (w : World) (hs : s.size ≤ 140737488355328) :
    Calls Tryd.prog 19 #[.string s, .int .i64 i, .int .i64 j] w fun e w' => e = .returned (.string (cutOf s i j)) ∧ Below w.heap.size w w' :=
  cut_big s i j w (by omega) (by have := cutOf_size s i j; omega)

set_option maxHeartbeats 400000 in
theorem refCut_any (s : ByteArray) (i j : Int) (w : World) (hs : s.size ≤ 16777216) :
    Calls Tryd.prog 20 #[.string s, .int .i64 i, .int .i64 j] w fun e w' => e = .returned (.string (cutOf s i j)) ∧ Below w.heap.size w w' := by
  unfold cutOf
  have hul : (us s.data.toList).length ≤ 16777216 := by rw [us_length, size_list]; omega
  have hlt16 := us_lt s.data.toList
  have HL := Lib.hid (list_any s)
  generalize us s.data.toList = u at *
  obtain ⟨i0, hi, hz0, hz1, hz2⟩ := info_parts info3
  have H16 := Lib.hid hlt16
  clear hlt16
  go_enter Tryd.func20, Tryd.ntmps20
  go_wp2_with fail
  refine (HL.out _ hs).mono ?_
  rintro e w1 ⟨A, c, rfl, hr, hb1⟩
  have HR := Lib.hid hr
  clear hr HL
  go_wp2
  go_loopw [7, 13] (fun v x wr => ∃ (k n : Nat), k ≤ u.length ∧ x = .int .i64 k ∧ wr.ownsRow w1.heap.size 3 1 v n ((cutU (u.take k) i j).map nv) ∧ Below w1.heap.size w1 wr)
    (fun _ x _ => u.length - (intOf x).toNat)
  case atStart => exact ⟨0, 0, by omega, rfl, by simpa [cutU] using World.ownsRow_nil _ _ _ _, Below.refl _ _⟩
  case round =>
    obtain ⟨k, n, hk, rfl, hown, hb⟩ := hrel
    have hn : n ≤ k := by
      have := hown.1
      simp [cutU] at this
      omega
    by_cases hlt : k < u.length
    · rcases HR.out with hr | ⟨g, rfl, hg1, hg2, hg3⟩
      · subst hr; simp at hlt
      have hc : wr.cell? ⟨g, k, none⟩ = some (.int .i64 (u[k] : Nat)) := (hb.cell (p := ⟨g, k, none⟩) hg2).trans (hg3 k hlt)
      have HS := Lib.hid (cut_snoc u k hlt i j)
      clear hg3
      by_cases hin : i ≤ k ∧ (k : Int) < j
      · obtain ⟨hin1, hin2⟩ := hin
        rw [if_pos ⟨hin1, hin2⟩] at HS
        go_wp2_with (at_builtin; refine app_lit _ rfl _ _ 40 (by rfl) w1.heap.size 3 i0 _ 8 Tryd.underlying40 hi hz0 hz1 hz2 rfl _ _ _ (by rfl) hown _ 1 (by rfl) rfl ?c1 ?c2 ?c3 hb.size ?_)
        case c1 => rfl
        case c2 => unfold maxLen; omega
        case c3 => omega
        intro v' w' hown' hb'
        have H : Hid (w'.ownsRow w1.heap.size 3 1 v' (n + 1) ((cutU (u.take (k + 1)) i j).map nv) ∧ Below w1.heap.size w1 w') := by
          refine ⟨?_, hb.trans hb'⟩
          rw [HS.out, map_nv_snoc]
          exact hown'
        clear hown' hb' hown hb
        go_wp2
        go_roundw
        case rel => exact ⟨k + 1, n + 1, by omega, by go_num, H.out.1, H.out.2⟩
        case measure => simp [intOf]; omega
      · rw [if_neg hin, List.append_nil] at HS
        have H : Hid (wr.ownsRow w1.heap.size 3 1 u7 n ((cutU (u.take (k + 1)) i j).map nv) ∧ Below w1.heap.size w1 wr) := by
          refine ⟨?_, hb⟩
          rw [HS.out]
          exact hown
        clear hown hb
        rcases (show (k : Int) < i ∨ (i ≤ k ∧ j ≤ k) by omega) with hin | ⟨hin1, hin2⟩
        all_goals
          go_wp2
          go_roundw
          case rel => exact ⟨k + 1, n, by omega, by go_num, H.out.1, H.out.2⟩
          case measure => simp [intOf]; omega
    · have HE : Hid (u.take k = u) := Lib.hid (List.take_of_length_le (by omega))
      rw [HE.out] at hown
      obtain ⟨hn', A', c', rfl, hr'⟩ := RowN.of_own hown
      have hcl : (cutU u i j).length ≤ 16777216 := by simp [cutU]; omega
      have hc16 : ∀ m ∈ cutU u i j, m < 65536 := fun m hm => H16.out m (List.mem_of_mem_take (List.mem_of_mem_drop hm))
      have HN := Lib.hid hn'
      have HC := Lib.hid hc16
      have HLn := Lib.hid hcl
      have HR' := Lib.hid hr'
      clear hn' hc16 hcl hr' hown hn
      go_wp2_with fail
      rw [HN.out]
      refine (make_any c' _ A' _ _ HR'.out HC.out HLn.out).mono ?_
      rintro e w' ⟨rfl, hb'⟩
      go_wp2
      go_ret
      exact ⟨rfl, hb1.trans ((hb.trans (hb'.mono hb.size)).mono hb1.size)⟩
end Go.Proofs.YtjbcihjeohpgmaaDoor
