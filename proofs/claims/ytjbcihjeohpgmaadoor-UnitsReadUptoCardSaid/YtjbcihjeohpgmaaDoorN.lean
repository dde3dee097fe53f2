/-
  The chapter's examples, and the walks of the laws that hold the package's answer against the reference's.
-/
import Derived.Test.YtjbcihjeohpgmaaDoorM
import Derived.Test.YtjbcihjeohpgmaaDoorG
namespace Go.Proofs.YtjbcihjeohpgmaaDoor
open Go.RowKit

theorem live_quote : quoteRes (ByteArray.mk #[0, 34, 0, 10, 0, 233]).data.toList = .tuple #[.string ⟨#[34, 92, 34, 92, 110, 92, 117, 48, 48, 101, 57, 34]⟩, .int .i64 0] := by kernel_rfl
theorem live_read : readRes (read (ByteArray.mk #[39, 97, 92, 120, 52, 49, 39, 32, 43, 32, 98]).data.toList) = .tuple #[.string ⟨#[0, 97, 0, 65]⟩, .int .i64 7, .int .i64 0] := by kernel_rfl
theorem live_index : idxRes (idx (us (ByteArray.mk #[0, 49, 0, 48]).data.toList)) = .tuple #[.int .i64 10, .bool true] := by kernel_rfl
theorem live_any (w : World) (hE : ErrAt w) : Calls Tryd.prog 12 #[] w fun e w' => e = .returned (.bool true) ∧ Below w.heap.size w w' := by
  have HE := Lib.hid hE
  have h1 : Hid (∀ w, Calls Tryd.prog 21 #[.string ⟨#[97, 98]⟩] w fun e w' => e = .returned (.tuple #[.string ⟨#[0, 97, 0, 98]⟩, .int .i64 0]) ∧ Below w.heap.size w w') := fun w => of_any ⟨#[97, 98]⟩ w (by decide)
  have h2 : Hid (∀ w, Calls Tryd.prog 25 #[.string ⟨#[0, 34, 0, 10, 0, 233]⟩] w fun e w' => e = .returned (.tuple #[.string ⟨#[34, 92, 34, 92, 110, 92, 117, 48, 48, 101, 57, 34]⟩, .int .i64 0]) ∧ Below w.heap.size w w') := fun w => by
    have h := quote_any ⟨#[0, 34, 0, 10, 0, 233]⟩ w (by decide)
    rw [live_quote] at h
    exact h
  have h3 : Hid (∀ w, ErrAt w → Calls Tryd.prog 27 #[.string ⟨#[39, 97, 92, 120, 52, 49, 39, 32, 43, 32, 98]⟩] w fun e w' => e = .returned (.tuple #[.string ⟨#[0, 97, 0, 65]⟩, .int .i64 7, .int .i64 0]) ∧ Below w.heap.size w w') := fun w h => by
    have h := read_any ⟨#[39, 97, 92, 120, 52, 49, 39, 32, 43, 32, 98]⟩ w (by decide) h
    rw [live_read] at h
    exact h
  have h4 : Hid (∀ w, Calls Tryd.prog 23 #[.string ⟨#[0, 49, 0, 48]⟩] w fun e w' => e = .returned (.tuple #[.int .i64 10, .bool true]) ∧ Below w.heap.size w w') := fun w => by
    have h := index_any ⟨#[0, 49, 0, 48]⟩ w (by decide)
    rw [live_index] at h
    exact h
  clear hE
  go_enter Tryd.func12, Tryd.ntmps12
  go_wp2_with fail
  refine (h1.out _).mono ?_
  rintro e w1 ⟨rfl, hb1⟩
  go_wp2_with fail
  refine (h2.out _).mono ?_
  rintro e w2 ⟨rfl, hb2⟩
  have hb2' := hb1.trans (hb2.mono hb1.size)
  clear hb1 hb2
  go_wp2_with fail
  refine (h3.out _ (HE.out.below hb2')).mono ?_
  rintro e w3 ⟨rfl, hb3⟩
  have hb3' := hb2'.trans (hb3.mono hb2'.size)
  clear hb2' hb3
  go_wp2_with fail
  refine (h4.out _).mono ?_
  rintro e w4 ⟨rfl, hb4⟩
  have hb4' := hb3'.trans (hb4.mono hb3'.size)
  clear hb3' hb4
  go_wp2
  go_ret
  exact ⟨rfl, hb4'⟩

theorem ofRes_pair (l : Bs) : ∃ t e, ofRes l = .tuple #[.string t, .int .i64 e] := by
  unfold ofRes
  split
  · exact ⟨_, _, rfl⟩
  · exact ⟨_, _, rfl⟩
theorem quoteRes_pair (l : Bs) : ∃ t e, quoteRes l = .tuple #[.string t, .int .i64 e] := by
  unfold quoteRes
  split
  · exact ⟨_, _, rfl⟩
  · exact ⟨_, _, rfl⟩
theorem idxRes_pair (o : Option Nat) : ∃ (n : Int) (b : Bool), idxRes o = .tuple #[.int .i64 n, .bool b] := by
  cases o with
  | none => exact ⟨0, false, rfl⟩
  | some n => exact ⟨n, true, rfl⟩
theorem readRes_pair (o : Option (List Nat × Nat)) : ∃ (t : ByteArray) (n e : Int), readRes o = .tuple #[.string t, .int .i64 n, .int .i64 e] := by
  cases o with
  | none => exact ⟨_, _, _, rfl⟩
  | some x => exact ⟨_, _, _, rfl⟩

theorem lawOf (s : ByteArray) (w : World) (hs : s.size ≤ 1048576) (hE : ErrAt w) :
    Calls Tryd.prog 4 #[.string s] w fun e w' => e = .returned (.bool true) ∧ Below w.heap.size w w' := by
  have HE := Lib.hid hE
  have h1 := Lib.hid fun w => of_any s w (by omega)
  have h2 := Lib.hid fun w => refOf_any s w (by omega)
  obtain ⟨t, e0, h⟩ := ofRes_pair s.data.toList
  rw [h] at h1 h2
  clear h hE
  go_enter Tryd.func4, Tryd.ntmps4
  go_wp2_with fail
  refine (h1.out _).mono ?_
  rintro e w1 ⟨rfl, hb1⟩
  go_wp2_with fail
  refine (h2.out _).mono ?_
  rintro e w2 ⟨rfl, hb2⟩
  have hb := hb1.trans (hb2.mono hb1.size)
  clear hb1 hb2
  go_wp2_with fail
  refine (live_any _ (HE.out.below hb)).mono ?_
  rintro e w3 ⟨rfl, hb3⟩
  go_wp2
  go_ret
  exact ⟨rfl, hb.trans (hb3.mono hb.size)⟩
theorem lawQuote (s : ByteArray) (w : World) (hs : s.size ≤ 1048576) (hE : ErrAt w) :
    Calls Tryd.prog 6 #[.string s] w fun e w' => e = .returned (.bool true) ∧ Below w.heap.size w w' := by
  have HE := Lib.hid hE
  have h1 := Lib.hid fun w => quote_any s w (by omega)
  have h2 := Lib.hid fun w => refQuote_any s w (by omega)
  obtain ⟨t, e0, h⟩ := quoteRes_pair s.data.toList
  rw [h] at h1 h2
  clear h hE
  go_enter Tryd.func6, Tryd.ntmps6
  go_wp2_with fail
  refine (h1.out _).mono ?_
  rintro e w1 ⟨rfl, hb1⟩
  go_wp2_with fail
  refine (h2.out _).mono ?_
  rintro e w2 ⟨rfl, hb2⟩
  have hb := hb1.trans (hb2.mono hb1.size)
  clear hb1 hb2
  go_wp2_with fail
  refine (live_any _ (HE.out.below hb)).mono ?_
  rintro e w3 ⟨rfl, hb3⟩
  go_wp2
  go_ret
  exact ⟨rfl, hb.trans (hb3.mono hb.size)⟩
theorem lawIndex (s : ByteArray) (w : World) (hs : s.size ≤ 1048576) (hE : ErrAt w) :
    Calls Tryd.prog 5 #[.string s] w fun e w' => e = .returned (.bool true) ∧ Below w.heap.size w w' := by
  have HE := Lib.hid hE
  have h1 := Lib.hid fun w => index_any s w (by unfold maxLen; omega)
  have h2 := Lib.hid fun w => refIndex_any s w (by omega)
  obtain ⟨n, b, h⟩ := idxRes_pair (idx (us s.data.toList))
  rw [h] at h1 h2
  clear h hE
  go_enter Tryd.func5, Tryd.ntmps5
  go_wp2_with fail
  refine (h1.out _).mono ?_
  rintro e w1 ⟨rfl, hb1⟩
  go_wp2_with fail
  refine (h2.out _).mono ?_
  rintro e w2 ⟨rfl, hb2⟩
  have hb := hb1.trans (hb2.mono hb1.size)
  clear hb1 hb2
  go_wp2_with fail
  refine (live_any _ (HE.out.below hb)).mono ?_
  rintro e w3 ⟨rfl, hb3⟩
  go_wp2
  go_ret
  exact ⟨rfl, hb.trans (hb3.mono hb.size)⟩
theorem lawRead (s : ByteArray) (w : World) (hs : s.size ≤ 1048576) (hE : ErrAt w) :
    Calls Tryd.prog 7 #[.string s] w fun e w' => e = .returned (.bool true) ∧ Below w.heap.size w w' := by
  have HE := Lib.hid hE
  have h1 := Lib.hid fun w h => read_any s w (by omega) h
  have h2 := Lib.hid fun w => refRead_any s w (by omega)
  obtain ⟨t, n, e0, h⟩ := readRes_pair (read s.data.toList)
  rw [h] at h1 h2
  clear h hE
  go_enter Tryd.func7, Tryd.ntmps7
  go_wp2_with fail
  refine (h1.out _ HE.out).mono ?_
  rintro e w1 ⟨rfl, hb1⟩
  go_wp2_with fail
  refine (h2.out _).mono ?_
  rintro e w2 ⟨rfl, hb2⟩
  have hb := hb1.trans (hb2.mono hb1.size)
  clear hb1 hb2
  go_wp2_with fail
  refine (live_any _ (HE.out.below hb)).mono ?_
  rintro e w3 ⟨rfl, hb3⟩
  go_wp2
  go_ret
  exact ⟨rfl, hb.trans (hb3.mono hb.size)⟩
theorem lawLook (s : ByteArray) (i a b : Int) (w : World) (hs : s.size ≤ 1048576) (hE : ErrAt w) :
    Calls Tryd.prog 3 #[.string s, .int .i64 i, .int .i64 a, .int .i64 b] w fun e w' => e = .returned (.bool true) ∧ Below w.heap.size w w' := by
  have HE := Lib.hid hE
  have hm : s.size ≤ maxLen := by unfold maxLen; omega
  have h1 := Lib.hid fun w => check_any s w hm
  have h2 := Lib.hid fun w => refCheck_any s w hm
  have h3 := Lib.hid fun w => len_any s w hm
  have h4 := Lib.hid fun w => refLen_any s w (by omega)
  have h5 := Lib.hid fun w => at_any s i w hm
  have h6 := Lib.hid fun w => refAt_any s i w (by omega)
  have h7 := Lib.hid fun w => cut_any s a b w (by omega)
  have h8 := Lib.hid fun w => refCut_any s a b w (by omega)
  generalize decide (s.size % 2 = 0) = c1 at *
  generalize ((s.size / 2 : Nat) : Int) = c2 at *
  generalize atOf s i = c3 at *
  generalize cutOf s a b = c4 at *
  clear hE hs hm
  go_enter Tryd.func3, Tryd.ntmps3
  go_wp2_with fail
  refine (live_any _ HE.out).mono ?_
  rintro e w1 ⟨rfl, hb1⟩
  go_wp2_with fail
  refine (h1.out _).mono ?_
  rintro e w' ⟨rfl, rfl⟩
  go_wp2_with fail
  refine (h2.out _).mono ?_
  rintro e w' ⟨rfl, rfl⟩
  go_wp2_with fail
  refine (h3.out _).mono ?_
  rintro e w' ⟨rfl, rfl⟩
  go_wp2_with fail
  refine (h4.out _).mono ?_
  rintro e w2 ⟨rfl, hb2⟩
  have hb2' := hb1.trans (hb2.mono hb1.size)
  clear hb1 hb2
  go_wp2_with fail
  refine (h5.out _).mono ?_
  rintro e w3 ⟨rfl, hb3⟩
  have hb3' := hb2'.trans (hb3.mono hb2'.size)
  clear hb2' hb3
  go_wp2_with fail
  refine (h6.out _).mono ?_
  rintro e w4 ⟨rfl, hb4⟩
  have hb4' := hb3'.trans (hb4.mono hb3'.size)
  clear hb3' hb4
  go_wp2_with fail
  refine (h7.out _).mono ?_
  rintro e w5 ⟨rfl, hb5⟩
  have hb5' := hb4'.trans (hb5.mono hb4'.size)
  clear hb4' hb5
  go_wp2_with fail
  refine (h8.out _).mono ?_
  rintro e w6 ⟨rfl, hb6⟩
  have hb6' := hb5'.trans (hb6.mono hb5'.size)
  clear hb5' hb6
  go_wp2
  go_ret
  exact ⟨rfl, hb6'⟩
end Go.Proofs.YtjbcihjeohpgmaaDoor
