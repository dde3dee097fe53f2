/-
  The package's Unframe where the length is right, by contract.
-/
import Derived.Test.YtjjjbjepgieahaaP
namespace Go.Proofs.Ytjjjbjepgieahaa
open Go.RowKit

theorem Byt.drewN {w : World} {A : Option Addr} {l : Bs} (h : Byt w A l) (n : Nat) : Byt (w.drewN n) A l := h.below (below_drewN _ _ _)
theorem Byt.alloc {w : World} {A : Option Addr} {l : Bs} (h : Byt w A l) (o : Obj) : Byt (w.alloc o) A l := h.below ((Below.refl _ _).alloc (Nat.le_refl _) _)
theorem Parts.drewN {w : World} {g : Nat} {ps : List Part} (h : Parts w g ps) (n : Nat) : Parts (w.drewN n) g ps :=
  ⟨fun j hj => ((below_drewN (g + 1) w n).cell (p := ⟨g, j, none⟩) (Nat.lt_succ_self g)).trans (h.1 j hj), fun p hp => ⟨(h.2 p hp).1.drewN n, (h.2 p hp).2⟩⟩
set_option maxRecDepth 4000 in
set_option maxHeartbeats 2000000 in
theorem unframe_good (A : Option Addr) (l : Bs) (c : Nat) (most : Int) (w : World) (h : Byt w A l) (hl : l.length ≤ 140737488351232) (hlc : l.length ≤ c) (hm : most ≤ 9223372036854775807)
    (h8 : ¬ l.length < 8) (hf : ¬ (first (l.drop 8) (word l) most).2 ≠ 0) :
    Calls Try.prog 21 #[.slice A l.length c, .int .i64 most] w (GivesU w (unfr l most)) := by
  have HW : Hid (∀ W : World, Byt W A l → Calls Try.prog 30 #[.slice A l.length c] W fun e w' => e = .returned (.int .u32 (word l : Nat)) ∧ W = w') := fun W h => word_any A l c W h (by omega) hlc
  have hww := wrap_word l
  have h88 : 8 ≤ l.length := by omega
  have hld : (l.drop 8).length = l.length - 8 := List.length_drop ..
  obtain ⟨hm0, hm1, hwl, -⟩ := first_ok (Decidable.not_not.1 hf)
  rw [hld] at hwl
  have HF : Hid (∀ A' (W : World), Calls Try.prog 27 #[.slice A' (l.length - 8) (c - 8), .int .u64 (word l : Nat), .int .i64 most] W fun e w' => e = .returned (.tuple #[.slice A' (word l) (c - 8), .int .i64 0]) ∧ W = w') := fun A' W => by
    have := first_any A' (l.drop 8) (c - 8) (word l) most W (by omega) (by omega) hm hm0 hm1 (by omega)
    rw [hld] at this
    exact this
  have hin : ((l.drop 8).take (word l)).length = word l := by rw [List.length_take]; omega
  obtain ⟨A', hA', hY'⟩ : ∃ A', A' = cutA A c 8 ∧ Byt w A' ((l.drop 8).take (word l)) := ⟨_, rfl, (h.cut h88 hlc).take _⟩
  have hld4 : (l.drop 4).length = l.length - 4 := List.length_drop ..
  have HW2 : Hid (∀ (A4 : Option Addr) (W : World), Byt W A4 (l.drop 4) → Calls Try.prog 30 #[.slice A4 (l.length - 4) (c - 4)] W fun e w' => e = .returned (.int .u32 (word (l.drop 4) : Nat)) ∧ W = w') := fun A4 W h => by
    have := word_any A4 (l.drop 4) (c - 4) W h (by omega) (by omega)
    rw [hld4] at this
    exact this
  obtain ⟨g, o, rfl⟩ : ∃ g o, A = some ⟨g, o, none⟩ := by
    obtain ⟨g, o, hA, _⟩ := h.at_ (show 0 < l.length by omega)
    exact ⟨g, o, hA⟩
  have hY4 : Byt w (some ⟨g, o + 4, none⟩) (l.drop 4) := by
    have := h.cut (k := 4) (by omega) hlc
    have e : cutA (some ⟨g, o, none⟩) c 4 = some ⟨g, o + 4, none⟩ := by
      unfold cutA
      rw [if_neg (by omega)]
      show some (Addr.add _ 4) = _
      rw [add_lit]
    rw [e] at this
    exact this
  have HY : Hid (∀ n, Byt (w.drewN n) (some ⟨g, o, none⟩) l) := fun n => h.below (below_drewN _ _ _)
  have htk : (l.take 4).length = 4 := by rw [List.length_take]; omega
  obtain ⟨inn, hinn⟩ : ∃ inn, inn = (l.drop 8).take (word l) := ⟨_, rfl⟩
  rw [← hinn] at hin hY'
  have hP0 := parts_two (w := w) c (c - 8) 25 (h.take 4) (by omega) hY' (by omega)
  rw [htk, hin] at hP0
  have HS : Hid (∀ W, Parts W w.heap.size [⟨some ⟨g, o, none⟩, c, l.take 4⟩, ⟨A', c - 8, inn⟩] → Calls Try.prog 29 #[.slice (some ⟨w.heap.size, 0, none⟩) 2 2] W fun e w' => e = .returned (.int .u32 (sum (l.take 4 ++ inn) : Nat)) ∧ W = w') := by
    intro W hp
    have := sumOf_any w.heap.size _ W hp (by simp)
    simpa using this
  have hR1 := unfr_sum h8 hf
  have hR2 := unfr_ok h8 hf
  rw [← hinn] at hR1 hR2
  have HP := Lib.hid hP0
  have HY4 := Lib.hid hY4
  have HYI := Lib.hid hY'
  have HR1 := Lib.hid hR1
  have HR2 := Lib.hid hR2
  have HA := Lib.hid hA'
  generalize sum (l.take 4 ++ inn) = sm at *
  generalize word (l.drop 4) = w4 at *
  generalize word l = wl at *
  clear hinn
  subst hin
  have hil : inn.length ≤ l.length := by omega
  clear hP0 hY4 hY' hR1 hR2 hA' hf h8 h hld hld4 htk
  obtain ⟨i0, hi, hz0, hz1, hz2⟩ := info_parts info5
  obtain ⟨B34, hB34⟩ : ∃ b : Bool, ((w4 : Int) != (sm : Int)) = b := ⟨_, rfl⟩
  have HB34 := Lib.hid hB34
  clear hB34
  go_enter Try.func21, Try.ntmps21
  go_upto_region 3 with (fail)
  go_cut [7, 8] (fun s7 s8 wx => s7 = .slice A' inn.length (c - 8) ∧ s8 = .int .i64 0 ∧ ∃ k, wx = w.drewN k)
  case first =>
    by_cases hc8 : c = 8
    · have HA2 : Hid (A' = some ⟨g, o, none⟩) := by
        rw [HA.out]
        unfold cutA
        rw [if_pos hc8]
        exact Lib.hid rfl
      have hl8 : l.length - 8 = 0 := by omega
      subst hc8
      simp only [Nat.sub_self, hl8] at HF
      clear hl8
      go_quiet ((first
        | (go_at_call 30; exact quiet_l (HW.out _ (HY.out _)))
        | (go_at_call 27; exact quiet_l (HF.out _ _))))
      go_wp2_with fail
      go_meet
      exact ⟨by rw [HA2.out], rfl, _, rfl⟩
    · have HA2 : Hid (A' = some ⟨g, o + 8, none⟩) := by
        rw [HA.out]
        unfold cutA
        rw [if_neg hc8]
        show some (Addr.add _ 8) = _
        rw [add_lit]
      go_quiet ((first
        | (go_at_call 30; exact quiet_l (HW.out _ (HY.out _)))
        | (go_at_call 27; exact quiet_l (HF.out _ _))))
      go_wp2_with fail
      go_meet
      exact ⟨by rw [HA2.out], rfl, _, rfl⟩
  case rest =>
    obtain ⟨rfl, rfl, k, rfl⟩ := hcut
    clear HF HW HA
    go_upto_region 6 with (fail)
    go_cut [34] (fun s34 wx => s34 = .bool B34 ∧ Below w.heap.size w wx)
    case first =>
      go_region_with (first
        | (go_at_call 30; refine (HW2.out _ _ (by first | exact HY4.out.drewN _ | exact (HY4.out.alloc _).drewN _)).mono ?_; rintro e w' ⟨rfl, rfl⟩)
        | (go_at_call 29; refine (HS.out _ (by exact HP.out.drewN _)).mono ?_; rintro e w' ⟨rfl, rfl⟩))
      all_goals go_wp2_with fail
      all_goals go_meet
      all_goals exact ⟨by rw [HB34.out], ((Below.refl _ _).alloc (Nat.le_refl _) _).trans (below_drewN _ _ _)⟩
    case rest =>
      obtain ⟨rfl, hb⟩ := hcut
      have HB := Lib.hid hb
      clear HS HP HW2 HY4 HY
      cases B34 with
      | true =>
        have hne : w4 ≠ sm := by
          rintro rfl
          have := HB34.out
          simp at this
        have HR := Lib.hid (HR1.out hne)
        clear hne
        go_wp2
        go_ret3
        exact gives_none HR.out rfl HB.out
      | false =>
        have heq : ¬ w4 ≠ sm := by
          have := HB34.out
          rw [bne_eq_false_iff_eq] at this
          omega
        have HR := Lib.hid (HR2.out heq)
        clear heq
        have hYI := HYI.out.below hb
        have hsum : IntKind.i64.wrap (8 + (inn.length : Int)) = 8 + (inn.length : Int) := IntWalk.i64_in _ (by omega)
        go_wp2_with (first
          | (at_make
             refine wpList_make_full _ rfl _ _ 25 (by rfl) w.heap.size 5 i0 _ 1 Try.underlying25 hi hz0 hz1 .i64 .i64 _ _ inn.length (by rfl) (by rfl) (by omega) (by omega) (by rw [hz2]; omega) (by unfold maxLen; omega) hb.size ?_
             intro w2 hown2 hg2
             have hb2 : Below wc.heap.size wc w2 := (Below.refl _ _).grown hg2 (Nat.le_refl _) (by intro k hk; cases hk)
             have hY2 := hYI.below hb2
             have hzl := hown2.1
             have HZ := Lib.hid hzl
             have HG2 : Hid (wc.heap.size ≤ w2.heap.size) := Lib.hid hb2.size
             clear hzl hg2 hYI)
          | (refine copy_bytes rfl (.tmp 38) (.tmp 39) 25 25 (by rfl) 5 Try.underlying25 size_info w.heap.size wc.heap.size _ _ _ hown2 0 _ _ _ (by rfl) (fun _ => rfl) A' (c - 8) inn (by rfl) hY2 (Nat.le_refl _) (by omega) ?_
             intro w3 hown3 hg3))
        have H : Hid (w3.ownsRow w.heap.size 5 1 (.slice (some ⟨wc.heap.size, 0, none⟩) inn.length inn.length) inn.length (inn.map bv) ∧ Below w.heap.size w w3) := by
          refine ⟨?_, hb.trans ((hb2.mono hb.size).grown hg3 (Nat.le_trans hb.size HG2.out) fun k hk => by injection hk with hk; rw [← hk]; exact hb.size)⟩
          have e : (madeCells (Value.int .u8 0).cells (inn.length * 1)).toList.drop (0 + inn.length) = [] := List.drop_eq_nil_of_le (by rw [HZ.out]; omega)
          rw [e, List.append_nil] at hown3
          simpa using hown3
        clear hown3 hg3 hown2 hb2 hY2
        go_wp2
        go_ret3
        refine ⟨.slice (some ⟨wc.heap.size, 0, none⟩) inn.length inn.length, ?_, ?_, H.out.2⟩
        · rw [HR.out]
          rfl
        · rw [HR.out]
          exact H.out.1
end Go.Proofs.Ytjjjbjepgieahaa
