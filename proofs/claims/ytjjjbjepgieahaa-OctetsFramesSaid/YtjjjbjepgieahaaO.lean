/-
  The reference's Frame, by contract.
-/
import Derived.Test.YtjjjbjepgieahaaN
namespace Go.Proofs.Ytjjjbjepgieahaa
open Go.RowKit

set_option maxRecDepth 4000 in
set_option maxHeartbeats 1000000 in
theorem refFrame_any (A : Option Addr) (l : Bs) (c : Nat) (w : World) (h : Byt w A l) (hl : l.length ≤ 140737488351232) :
    Calls Try.prog 23 #[.slice A l.length c] w (GivesB w (frame l)) := by
  obtain ⟨i0, hi, hz0, hz1, hz2⟩ := info_parts info5
  have HY : Hid (∀ w', Below w.heap.size w w' → Byt w' A l) := fun w' hb => h.below hb
  have H4 : Hid (∀ w, Calls Try.prog 32 #[.int .u32 ((l.length : Int) % 4294967296)] w (GivesB w (lenW l))) := fun w => four_any (l.length % 4294967296) w (by omega)
  have HS : Hid (∀ A c w, Byt w A (lenW l ++ l) → Calls Try.prog 25 #[.slice A (4 + l.length) c] w fun e w' => e = .returned (.int .u32 (sum (lenW l ++ l) : Nat)) ∧ w = w') := fun A c w h => by
    have := refSum_any A (lenW l ++ l) c w h (by rw [List.length_append, lenW_length]; omega)
    rw [List.length_append, lenW_length] at this
    exact this
  have H5 : Hid (∀ w, Calls Try.prog 32 #[.int .u32 (sum (lenW l ++ l) : Nat)] w (GivesB w (four (sum (lenW l ++ l))))) := fun w => four_any _ w (sum_lt _)
  have HF : Hid (frame l = lenW l ++ (four (sum (lenW l ++ l)) ++ l)) := Lib.hid rfl
  have HL4 : Hid ((lenW l).length = 4) := Lib.hid (lenW_length l)
  generalize sum (lenW l ++ l) = sm at *
  clear h
  go_enter Try.func23, Try.ntmps23
  go_wp2_with fail
  refine (H4.out _).mono ?_
  rintro e w1 ⟨v, rfl, hown, hb1⟩
  obtain ⟨hk, A1, c1, rfl, _, hY1⟩ := Byt.of_own hown
  clear hown hk
  go_wp2_with (first
    | (at_builtin
       refine app_bytes _ rfl (.const (.slice none 0 0)) (.tmp 9) 25 (by rfl) w1.heap.size 5 i0 _ Try.underlying25 hi hz0 hz1 hz2 rfl _ 0 [] (by rfl) (World.ownsRow_nil _ _ _ _) A1 c1 (lenW l) (by rfl) hY1 (by rw [HL4.out]; omega) (Nat.le_refl _) ?_
       intro v2 w2 hown2 hb2)
    | (at_builtin
       refine app_bytes _ rfl (.tmp 10) (.tmp 11) 25 (by rfl) w1.heap.size 5 i0 _ Try.underlying25 hi hz0 hz1 hz2 rfl v2 _ _ (by rfl) hown2 A c l (by rfl) (HY.out _ (hb1.trans (hb2.mono hb1.size))) (by rw [HL4.out]; omega) hb2.size ?_
       intro v3 w3 hown3 hb3
       rw [Nat.zero_add, List.nil_append, HL4.out, ← List.map_append] at hown3
       have hb3' := hb2.trans hb3
       have hY3 := hY1.below hb3'
       obtain ⟨hk3, A3, c3, rfl, _, hYA⟩ := Byt.of_own hown3
       have hbw3 := hb1.trans (hb3'.mono hb1.size)
       clear hk3 hown3 hown2 hb2 hb3 hY1)
    | (at_builtin
       refine app_bytes _ rfl (.const (.slice none 0 0)) (.tmp 13) 25 (by rfl) w3.heap.size 5 i0 _ Try.underlying25 hi hz0 hz1 hz2 rfl _ 0 [] (by rfl) (World.ownsRow_nil _ _ _ _) A1 c1 (lenW l) (by rfl) hY3 (by rw [HL4.out]; omega) (Nat.le_refl _) ?_
       intro v4 w4 hown4 hb4
       have hYA4 := hYA.below hb4
       clear hYA hY3))
  refine (HS.out _ _ _ hYA4).mono ?_
  rintro e w' ⟨rfl, rfl⟩
  clear hYA4
  go_wp2_with fail
  refine (H5.out _).mono ?_
  rintro e w5 ⟨v, rfl, hown5, hb5⟩
  obtain ⟨hk5, A5, c5, rfl, _, hY5⟩ := Byt.of_own hown5
  have hown4' := own_below hown4 hb5
  have hb5' : Below w3.heap.size w3 w5 := hb4.trans (hb5.mono hb4.size)
  clear hk5 hown5 hown4 hb5 hb4
  go_wp2_with (first
    | (at_builtin
       refine app_bytes _ rfl (.tmp 14) (.tmp 17) 25 (by rfl) w3.heap.size 5 i0 _ Try.underlying25 hi hz0 hz1 hz2 rfl _ _ _ (by rfl) hown4' A5 c5 (four sm) (by rfl) hY5 (by rw [HL4.out, four_length]; omega) hb5'.size ?_
       intro v6 w6 hown6 hb6
       have hb6' := hb5'.trans hb6
       clear hb6)
    | (at_builtin
       refine app_bytes _ rfl (.tmp 18) (.tmp 19) 25 (by rfl) w3.heap.size 5 i0 _ Try.underlying25 hi hz0 hz1 hz2 rfl v6 _ _ (by rfl) hown6 A c l (by rfl) (HY.out _ (hbw3.trans (hb6'.mono hbw3.size))) (by rw [HL4.out, four_length]; omega) hb6'.size ?_
       intro v7 w7 hown7 hb7))
  have H : Hid (w7.ownsRow w.heap.size 5 1 v7 (frame l).length ((frame l).map bv) ∧ Below w.heap.size w w7) := by
    refine ⟨?_, hbw3.trans ((hb6'.trans hb7).mono hbw3.size)⟩
    rw [Nat.zero_add, List.nil_append, List.append_assoc, ← List.map_append, ← List.map_append] at hown7
    have e : (frame l).length = (lenW l).length + (four sm).length + l.length := by rw [frame_length, HL4.out, four_length]
    rw [e, HF.out]
    exact own_lower hown7 hbw3.size
  clear hown7 hb7 hown6
  go_wp2
  go_ret
  exact ⟨_, rfl, H.out.1, H.out.2⟩
end Go.Proofs.Ytjjjbjepgieahaa
