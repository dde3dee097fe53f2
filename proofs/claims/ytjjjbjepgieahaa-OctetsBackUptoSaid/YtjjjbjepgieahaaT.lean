/-
  The reference's Unframe where the length is right, and for every argument, by contract.
-/
import Derived.Test.YtjjjbjepgieahaaS
namespace Go.Proofs.Ytjjjbjepgieahaa
open Go.RowKit

set_option maxRecDepth 4000 in
set_option maxHeartbeats 2000000 in
theorem refUnframe_good (A : Option Addr) (l : Bs) (c : Nat) (most : Int) (w : World) (h : Byt w A l) (hl : l.length ≤ 140737488351232) (hlc : l.length ≤ c) (hm : most ≤ 9223372036854775807)
    (h8 : ¬ l.length < 8) (hf : ¬ (first (l.drop 8) (word l) most).2 ≠ 0) :
    Calls Try.prog 22 #[.slice A l.length c, .int .i64 most] w (GivesU w (unfr l most)) := by
  obtain ⟨i0, hi, hz0, hz1, hz2⟩ := info_parts info5
  have HW : Hid (Calls Try.prog 31 #[.slice A l.length c] w fun e w' => e = .returned (.int .u32 (word l : Nat)) ∧ ∃ n, w' = w.drewN n) := refWord_any A l c w h (by omega) hlc
  have hww := wrap_word l
  have h88 : 8 ≤ l.length := by omega
  have hld : (l.drop 8).length = l.length - 8 := List.length_drop ..
  obtain ⟨hm0, hm1, hwl, -⟩ := first_ok (Decidable.not_not.1 hf)
  rw [hld] at hwl
  have hwl2 : (word l : Int) ≤ (l.length : Int) - 8 := by omega
  have hin : ((l.drop 8).take (word l)).length = word l := by rw [List.length_take]; omega
  have hYI := (h.cut h88 hlc).take (word l)
  have hld4 : (l.drop 4).length = l.length - 4 := List.length_drop ..
  obtain ⟨g, o, rfl⟩ : ∃ g o, A = some ⟨g, o, none⟩ := by
    obtain ⟨g, o, hA, _⟩ := h.at_ (show 0 < l.length by omega)
    exact ⟨g, o, hA⟩
  have hY4 : Byt w (some ⟨g, o + 4, none⟩) (l.drop 4) := by
    have := h.cut (k := 4) (by omega) hlc
    have e : cutA (some ⟨g, o, none⟩) c 4 = some ⟨g, o + 4, none⟩ := by
      unfold cutA
      rw [if_neg (by omega)]
      show some (Addr.add _ 4) = _
      rw [add_lit]
    rw [e] at this
    exact this
  have HW2 : Hid (∀ W : World, Byt W (some ⟨g, o + 4, none⟩) (l.drop 4) → Calls Try.prog 31 #[.slice (some ⟨g, o + 4, none⟩) (l.length - 4) (c - 4)] W fun e w' => e = .returned (.int .u32 (word (l.drop 4) : Nat)) ∧ ∃ n, w' = W.drewN n) := fun W h => by
    have := refWord_any (some ⟨g, o + 4, none⟩) (l.drop 4) (c - 4) W h (by omega) (by omega)
    rw [hld4] at this
    exact this
  have htk : (l.take 4).length = 4 := by rw [List.length_take]; omega
  obtain ⟨inn, hinn⟩ : ∃ inn, inn = (l.drop 8).take (word l) := ⟨_, rfl⟩
  rw [← hinn] at hin hYI
  have HS : Hid (∀ A10 c10 W, Byt W A10 (l.take 4 ++ inn) → Calls Try.prog 25 #[.slice A10 ((l.take 4).length + inn.length) c10] W fun e w' => e = .returned (.int .u32 (sum (l.take 4 ++ inn) : Nat)) ∧ W = w') := fun A10 c10 W h => by
    have := refSum_any A10 (l.take 4 ++ inn) c10 W h (by rw [List.length_append]; omega)
    rw [List.length_append] at this
    exact this
  have hR1 := unfr_sum h8 hf
  have hR2 := unfr_ok h8 hf
  rw [← hinn] at hR1 hR2
  have HY4 := Lib.hid hY4
  have HYI := Lib.hid hYI
  have HTK := Lib.hid htk
  have HYT := Lib.hid (h.take 4)
  have HR1 := Lib.hid hR1
  have HR2 := Lib.hid hR2
  generalize l.take 4 = l4 at *
  generalize sum (l4 ++ inn) = sm at *
  generalize word (l.drop 4) = w4 at *
  generalize word l = wl at *
  have hwm := wrap_pos hm0 hm
  clear hinn
  subst hin
  have hil : inn.length ≤ l.length := by omega
  have hni : IntKind.i64.wrap (inn.length : Int) = (inn.length : Int) := IntWalk.i64_in _ (by omega)
  have hsum : IntKind.i64.wrap (8 + (inn.length : Int)) = 8 + (inn.length : Int) := IntWalk.i64_in _ (by omega)
  have hsub : IntKind.i64.wrap ((l.length : Int) - 8) = (l.length : Int) - 8 := IntWalk.i64_in _ (by omega)
  have hwu : IntKind.u64.wrap ((l.length : Int) - 8) = (l.length : Int) - 8 := wrap_pos (by omega) (by omega)
  obtain ⟨B45, hB45⟩ : ∃ b : Bool, ((sm : Int) != (w4 : Int)) = b := ⟨_, rfl⟩
  have HB45 := Lib.hid hB45
  clear hB45 hY4 hYI hR1 hR2 hf h8 h hld hld4 htk
  go_enter Try.func22, Try.ntmps22
  go_wp2_with fail
  refine HW.out.mono ?_
  rintro e w' ⟨rfl, k, rfl⟩
  go_upto_region 9 with (first
    | (refine cut2_law rfl (.tmp 30) (.const (.int .i64 8)) (.tmp 33) (by rfl) (some ⟨g, o, none⟩) _ _ (by rfl) 8 inn.length _ _ (by rfl) (by rfl) rfl (by omega) (by omega) ?_)
    | (at_builtin
       refine app_bytes _ rfl (.const (.slice none 0 0)) (.tmp 34) 25 (by rfl) w.heap.size 5 i0 _ Try.underlying25 hi hz0 hz1 hz2 rfl _ 0 [] (by rfl) (World.ownsRow_nil _ _ _ _) (cutA (some ⟨g, o, none⟩) c 8) (c - 8) inn (by rfl) (HYI.out.drewN k) (by omega) (Nat.le_refl _) ?_
       intro v8 w8 hown8 hb8
       rw [Nat.zero_add, List.nil_append] at hown8
       obtain ⟨hk8, A8, c8, rfl, _, hY8⟩ := Byt.of_own hown8
       have hbw : Below w.heap.size w w8 := (below_drewN _ _ _).trans hb8
       clear hk8 hb8))
  have HT8 := Lib.hid (HYT.out.below hbw)
  have H48 := Lib.hid (HY4.out.below hbw)
  have HY8 := Lib.hid hY8
  have HO8 := Lib.hid hown8
  have HBW := Lib.hid hbw
  have hl4 : l4.length = 4 := HTK.out
  have HL4 := Lib.hid hl4
  clear hl4 hown8 hY8 hbw HYT HY4 HYI HW
  go_cut [45] (fun s45 wx => s45 = .bool B45 ∧ Below w8.heap.size w8 wx)
  case first =>
    have h4c : (4 : Int) ≤ (c : Int) := by omega
    have h4l : (4 : Int) ≤ (l.length : Int) := by omega
    have hc4 : ¬ c = 4 := by omega
    have hc0 : ¬ c = 0 := by omega
    go_region_law ((first
      | (refine step_bytes _ rfl (.const (.slice none 0 0)) (.tmp 37) 25 (by rfl) w8.heap.size 5 i0 _ Try.underlying25 hi hz0 hz1 hz2 rfl _ 0 [] (by rfl) (World.ownsRow_nil _ _ _ _) ⟨g, o, none⟩ 4 c l4 (by rfl) HL4.out (by first | exact HT8.out | exact HT8.out.drewN _) (by omega) (by first | exact Nat.le_refl _ | simp) ?_
         intro v9 w9 hown9 hb9
         have hb9' : Below w8.heap.size w8 w9 := by first | exact hb9 | exact (below_drewN _ _ _).trans hb9 | exact (Below.refl _ _).drew.trans hb9
         clear hb9)
      | (refine step_bytes0 _ rfl (.tmp 38) (.tmp 39) 25 (by rfl) w8.heap.size 5 i0 _ Try.underlying25 hi hz0 hz1 hz2 rfl v9 _ _ (by rfl) (by first | exact hown9 | exact own_below hown9 (below_drewN _ _ _)) A8 c8 inn (by rfl) (by first | exact HY8.out.below hb9' | exact (HY8.out.below hb9').drewN _) (by omega) (by first | exact hb9'.size | (have := hb9'.size; simp; exact this)) ?_
         intro v10 w10 hown10 hb10
         have hb10' : Below w8.heap.size w8 w10 := hb9'.trans (by first | exact hb10 | exact (below_drewN _ _ _).trans hb10 | exact (Below.refl _ _).drew.trans hb10)
         rw [Nat.zero_add, List.nil_append, ← List.map_append] at hown10
         obtain ⟨_, A10, c10, rfl, _, hY10⟩ := Byt.of_own hown10
         have HY10 := Lib.hid hY10
         clear hb10 hown10 hY10)
      | (go_simp; go_at_call 25; refine (HS.out _ _ _ (by first | exact HY10.out | exact HY10.out.drewN _)).mono ?_; rintro e w' ⟨rfl, rfl⟩)
      | (go_simp; go_at_call 31; refine (HW2.out _ (by first | exact H48.out | exact H48.out.drewN _ | exact H48.out.below hb10' | exact (H48.out.below hb10').drewN _ | exact H48.out.below hb9' | exact (H48.out.below hb9').drewN _)).mono ?_; rintro e w' ⟨rfl, kw, rfl⟩)))
    all_goals go_wp2_with fail
    all_goals go_meet
    all_goals exact ⟨by rw [HB45.out], by first | exact hb10' | exact hb10'.trans (below_drewN _ _ _)⟩
  case rest =>
    obtain ⟨rfl, hb⟩ := hcut
    have HB := Lib.hid (HBW.out.trans (hb.mono HBW.out.size))
    have HO := Lib.hid (own_below HO8.out hb)
    clear HS HW2 H48 HT8 HY8 hb
    cases B45 with
    | true =>
      have hne : w4 ≠ sm := by
        rintro rfl
        have := HB45.out
        simp at this
      have HR := Lib.hid (HR1.out hne)
      clear hne
      go_wp2
      go_ret3
      exact gives_none HR.out rfl HB.out
    | false =>
      have heq : ¬ w4 ≠ sm := by
        have := HB45.out
        rw [bne_eq_false_iff_eq] at this
        omega
      have HR := Lib.hid (HR2.out heq)
      clear heq
      go_wp2
      go_ret3
      refine ⟨.slice A8 inn.length c8, ?_, ?_, HB.out⟩
      · rw [HR.out]
        rfl
      · rw [HR.out]
        exact HO.out

theorem refUnframe_any (A : Option Addr) (l : Bs) (c : Nat) (most : Int) (w : World) (h : Byt w A l) (hl : l.length ≤ 140737488351232) (hlc : l.length ≤ c) (hm : most ≤ 9223372036854775807) :
    Calls Try.prog 22 #[.slice A l.length c, .int .i64 most] w (GivesU w (unfr l most)) := by
  by_cases h8 : l.length < 8
  · have HR := Lib.hid (unfr_short (most := most) h8)
    go_enter Try.func22, Try.ntmps22
    go_wp2
    go_ret3
    exact gives_none HR.out rfl (Below.refl _ _)
  · by_cases hf : (first (l.drop 8) (word l) most).2 ≠ 0
    · exact refUnframe_bad A l c most w h (by omega) hlc hm h8 hf
    · exact refUnframe_good A l c most w h hl hlc hm h8 hf
end Go.Proofs.Ytjjjbjepgieahaa
