/-
  The reference's Deep, Size and IsTarget.
-/
import Derived.Test.YtllpgoaanbiodaaGreatDoorMLb
namespace Go.Proofs.YtllpgoaanbiodaaGreatDoor.R
open Go.RowKit Go.Proofs.YtllpgoaanbiodaaGreatDoor Go.Proofs.YtllpgoaanbiodaaGreatDoor.T
theorem max_nat' (a b : Nat) : max (a : Int) (b : Int) = ((max a b : Nat) : Int) := by omega
theorem deeps_snoc' (l : List V) (j : Nat) (h : j < l.length) : V.deeps (l.take (j + 1)) = max (V.deeps (l.take j)) l[j].deep := by
  rw [snoc_get l j h, deeps_append]
  simp [V.deeps]
set_option maxRecDepth 8000 in
set_option maxHeartbeats 1000000 in
theorem refDeep_any : ∀ (v : V) (x : X) (w : World), Is w v x → v.bulk ≤ 4194304 →
    Calls Tryz.prog 14 #[x.v] w fun e w' => e = .returned (.int .i64 (v.deep : Nat)) ∧ Below w.heap.size w w' := by
  refine V.ind fun k nm n s ks l ih => ?_
  intro x w h hbk
  obtain ⟨ka, kc, la, lc, rfl, h1, h2, h3, h4⟩ := h.open
  simp only [V.k, V.nm, V.n, V.s, V.ks, V.l] at *
  have hbl : V.bulks l ≤ 4194304 := by
    simp only [V.bulk] at hbk
    omega
  have hll : l.length ≤ 4194304 := Nat.le_trans (length_le_bulks l) hbl
  have hdl : V.deeps l ≤ 4194304 := by
    have e1 := deep_le_size (.mk k nm n s ks l)
    have e2 := size_le_bulk (.mk k nm n s ks l)
    simp only [V.deep] at e1
    omega
  clear hbk
  unfold X.v
  go_enter Tryz.func14, Tryz.ntmps14
  go_wp2_with fail
  go_loopw [3, 9] (fun t i wr => ∃ j : Nat, j ≤ l.length ∧ i = .int .i64 j ∧ t = .int .i64 ((V.deeps (l.take j) : Nat) : Int) ∧ Below w.heap.size w wr)
    (fun _ i _ => l.length - (intOf i).toNat)
  case atStart => exact ⟨0, Nat.zero_le _, rfl, rfl, below_alloc w _⟩
  case round =>
    obtain ⟨j, hj, rfl, rfl, hb⟩ := hrel
    by_cases hlt : j < l.length
    · obtain ⟨g, o, rfl, hg, y, hy, hv⟩ := h4.at_ hlt
      have hy' := hy.below hg hb
      obtain ⟨c0, c1, c2, c3, c4, c5⟩ := hy'
      obtain ⟨ka', kc', la', lc', rfl, h1', h2', h3', h4'⟩ := hv.open
      have hr := Lib.hid fun w' (hb' : Below w.heap.size w w') => ih l[j] (List.getElem_mem hlt) _ w' (Is.below hb' _ _ hv) (Nat.le_trans (bulk_le_of_mem (List.getElem_mem hlt)) hbl)
      have hs := Lib.hid (deeps_snoc' l j hlt)
      have HM := max_nat' (V.deeps (l.take j)) l[j].deep
      simp only [X.v] at *
      generalize l[j] = u at *
      clear hv hy
      go_wp2_with fail
      refine (hr.out _ (hb.alloc (by have := hb.size; omega) _)).mono ?_
      rintro e w1 ⟨rfl, hb1⟩
      have hb2 := (hb.alloc (B := w.heap.size) (by have := hb.size; omega) (.cells #[.int .i64 u.k, .string u.nm, .int .i64 u.n, .string u.s, .slice ka' u.ks.length kc', .slice la' u.l.length lc'] 25)).trans (hb1.mono (by have := hb.size; simp; omega))
      clear c0 c1 c2 c3 c4 c5 hb1 hb
      go_wp2
      go_roundw
      case rel => exact ⟨j + 1, by omega, by go_num, by rw [hs.out], hb2⟩
      case measure => simp [intOf]; omega
    · obtain rfl : j = l.length := by omega
      rw [List.take_length]
      go_wp2
      go_ret
      exact ⟨by rw [V.deep]; rfl, hb⟩
theorem refIsTarget_any : Pred 20 isTg := by
  intro v x w h
  obtain ⟨ka, kc, la, lc, rfl, h1, h2, h3, h4⟩ := h.open
  have HV : Hid (isTg v = decide (v.k = 3 ∨ v.k = 11 ∨ v.k = 12)) := Lib.hid rfl
  clear h h1 h2 h3 h4
  simp only [X.v]
  generalize v.nm = nm at *
  generalize v.n = n at *
  generalize v.s = s at *
  generalize v.ks.length = kn at *
  generalize v.l.length = ln at *
  generalize v.k = k at *
  by_cases h3 : k = 3
  · rw [decide_eq_true (.inl h3)] at HV
    subst h3
    go_enter Tryz.func20, Tryz.ntmps20
    go_wp2_with fail
    go_ret
    exact ⟨by rw [HV.out]; rfl, below_alloc w _⟩
  · by_cases h11 : k = 11
    · rw [decide_eq_true (.inr (.inl h11))] at HV
      subst h11
      go_enter Tryz.func20, Tryz.ntmps20
      go_wp2_with fail
      go_ret
      exact ⟨by rw [HV.out]; rfl, below_alloc w _⟩
    · by_cases h12 : k = 12
      · rw [decide_eq_true (.inr (.inr h12))] at HV
        subst h12
        go_enter Tryz.func20, Tryz.ntmps20
        go_wp2_with fail
        go_ret
        exact ⟨by rw [HV.out]; rfl, below_alloc w _⟩
      · rw [decide_eq_false (by omega)] at HV
        have b3 : (k == 3) = false := by rw [beq_eq_false_iff_ne]; exact h3
        have b11 : (k == 11) = false := by rw [beq_eq_false_iff_ne]; exact h11
        have b12 : (k == 12) = false := by rw [beq_eq_false_iff_ne]; exact h12
        clear h3 h11 h12
        go_enter Tryz.func20, Tryz.ntmps20
        go_wp2_with fail
        go_ret
        exact ⟨by rw [HV.out]; rfl, below_alloc w _⟩
end Go.Proofs.YtllpgoaanbiodaaGreatDoor.R
