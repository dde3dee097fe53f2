/-
  The reference: Check, given within.
  The reference: within, given what it answers of a label.
  ScopeChecks, given what the reference's Check answers. (gen_ye.py)
  ScopeChecks's law.
-/
import Derived.Test.YtgehgccgologpaaYg
import Derived.Test.YtgehgccgologpaaVv
import Derived.Test.YtgehgccgologpaaZu
import Derived.Deep.RegionHeld3
import Derived.Test.YtgehgccgologpaaYj
namespace Go.Proofs.Ytgehgccgologpaa.Z
open Go.RowKit Go.Shelf Go.Proofs.Ytgehgccgologpaa Go.Proofs.Ytgehgccgologpaa.R Go.Proofs.Ytgehgccgologpaa.T

set_option maxRecDepth 8000 in
set_option maxHeartbeats 1000000 in
theorem check09_of (hw : WithinOk) (v : V) (x : X) (w : World) (hx : Is w v x) (hb : v.bulk ≤ 4194304) : Calls Try.prog 11 #[x.v] w fun e w' => e = .returned (.int .i64 (chs v)) ∧ Below w.heap.size w w' := by
  obtain ⟨W0, hW0⟩ : ∃ W0, w.alloc (.cells x.cells 25) = W0 := ⟨_, rfl⟩
  have hbw : Below w.heap.size w W0 := by rw [← hW0]; exact below_alloc _ _
  have hlt : w.heap.size < W0.heap.size := by rw [← hW0]; simp
  have hat : At W0 w.heap.size 0 x := by rw [← hW0]; exact at_new w x
  have HBW := Lib.hid hbw
  have HCEL := Lib.hid fun w' (h : Below W0.heap.size W0 w') => hat.below hlt h
  have HC := Lib.hid (R.refCheck_any v x W0 (Is.below hbw _ _ hx) hb)
  have HM : Hid (v.chk = 0 → ∀ w', Below W0.heap.size W0 w' → Calls Try.prog 29 #[x.v, .agg #[.slice none 0 0, .slice none 0 0, .bool false, .bool false, .bool false]] w' (AnsB w' (!early v))) := fun h0 w' h => by
    have hok : v.k = 41 ∧ v.ok = true := by
      unfold V.chk at h0
      split at h0
      · rename_i h; exact h
      · exact absurd h0 (by decide)
    rw [← may_prog v hok.1]
    have hs := size_le_bulk v
    exact may_of hw v.size v (Nat.le_refl _) x ⟨[], [], false, false, false⟩ ⟨none, 0, none, 0⟩ w' (Is.below (hbw.trans (h.mono hbw.size)) _ _ hx) ⟨.inl rfl, Nat.le_refl _, .inl rfl, Nat.le_refl _, Nat.zero_le _, Nat.zero_le _⟩ hb hok.2 (by show 0 + v.size ≤ 4194304; omega) (by show 0 + v.size ≤ 4194304; omega)
  have HW0 := Lib.hid hW0
  have HV : Hid (chs v = if v.chk = 0 then (if early v then 90 else 0) else v.chk) := rfl
  generalize chs v = cv at *
  generalize early v = ev at *
  generalize v.chk = ch at *
  obtain ⟨xk, xnm, xn, xs, xka, xkn, xkc, xla, xln, xlc⟩ := x
  obtain ⟨p0, p1, p2, p3, p4, p5⟩ := hat.six
  simp only [X.v, X.cells] at HC HM HW0 ⊢
  clear hx hb hW0 hbw hlt hat
  go_enter Try.func11, Try.ntmps11
  go_upto_region 1 with (fail)
  rw [HW0.out]
  go_wp2_with fail
  refine HC.out.mono ?_
  rintro e w1 ⟨rfl, hb1⟩
  have HB1 := Lib.hid hb1
  clear p0 p1 p2 p3 p4 p5 hb1
  by_cases h0 : ch = 0
  · have HV2 : Hid (cv = if ev then 90 else 0) := by show _ = _; rw [HV.out, if_pos h0]
    have HM2 := Lib.hid (HM.out h0 w1 HB1.out)
    subst h0
    clear HM HV HC
    obtain ⟨p0, p1, p2, p3, p4, p5⟩ := (HCEL.out w1 HB1.out).six
    go_wp2_with fail
    refine HM2.out.mono ?_
    rintro e w2 ⟨rfl, hb2⟩
    have HB2 := Lib.hid (HBW.out.trans ((HB1.out.trans (hb2.mono HB1.out.size)).mono HBW.out.size))
    clear hb2 p0 p1 p2 p3 p4 p5 HM2
    cases ev with
    | true =>
      go_wp2_with fail
      go_ret
      exact ⟨by rw [HV2.out]; rfl, HB2.out⟩
    | false =>
      go_wp2_with fail
      go_ret
      exact ⟨by rw [HV2.out]; rfl, HB2.out⟩
  · have hne : (ch == 0) = false := by rw [beq_eq_false_iff_ne]; exact h0
    have HV2 : Hid (cv = ch) := by show _ = _; rw [HV.out, if_neg h0]
    have HB2 := Lib.hid (HBW.out.trans (HB1.out.mono HBW.out.size))
    clear h0 HM HV HC
    go_wp2_with fail
    go_ret
    exact ⟨by rw [HV2.out]; rfl, HB2.out⟩
theorem within_of_label (hlab : ∀ (v : V) (x : X) (a : Ar) (z : ArX) (w : World), Is w v x → IsAr w w.heap.size a z → v.k = 38 → v.bulk ≤ 4194304 → v.ok = true → a.labels.length < 4194304 → a.loops.length < 4194304 →
    Calls Try.prog 55 #[x.v, z.v a] w fun e w' => ∃ z' : ArX, e = .returned (z'.v { a with labels := a.labels ++ [v.nm], loops := if isLp (lbl v) then a.loops ++ [v.nm] else a.loops }) ∧ IsAr w' w'.heap.size { a with labels := a.labels ++ [v.nm], loops := if isLp (lbl v) then a.loops ++ [v.nm] else a.loops } z' ∧ Below w.heap.size w w') : WithinOk := by
  intro v x a z w hx ha hb hok hl hp
  unfold withinP
  split
  · rename_i h
    rcases h with h | h
    · exact rwithin_39 v x a z w hx h
    · exact rwithin_10 v x a z w hx h
  split
  · rename_i h0 h
    unfold isLp at h
    rw [decide_eq_true_eq] at h
    rcases h with h | h | h | h
    · exact rwithin_27 v x a z w hx ha h
    · exact rwithin_28 v x a z w hx ha h
    · exact rwithin_29 v x a z w hx ha h
    · exact rwithin_30 v x a z w hx ha h
  split
  · rename_i h
    exact rwithin_36 v x a z w hx ha h
  split
  · rename_i h
    exact hlab v x a z w hx ha h hb hok hl hp
  · rename_i h1 h2 h3 h4
    unfold isLp at h2
    rw [decide_eq_true_eq] at h2
    exact rwithin_no v x a z w hx ha (by omega) (by omega) (by omega) (by omega) (by omega) (by omega) h3 h4
set_option maxRecDepth 8000 in
set_option maxHeartbeats 2000000 in
theorem checks_of (href : ∀ (v : V) (x : X) (w : World), Is w v x → v.bulk ≤ 4194304 → Calls Try.prog 11 #[x.v] w fun e w' => e = .returned (.int .i64 (chs v)) ∧ Below w.heap.size w w') (v : V) (x : X) (w : World) (hx : Is w v x) (hb : v.bulk ≤ 4194304) :
    Calls Try.prog 3 #[x.v] w (AnsB w true) := by
  obtain ⟨W0, hW0⟩ : ∃ W0, w.alloc (.cells x.cells 25) = W0 := ⟨_, rfl⟩
  have hbw : Below w.heap.size w W0 := by rw [← hW0]; exact below_alloc _ _
  have hlt : w.heap.size < W0.heap.size := by rw [← hW0]; simp
  have hat : At W0 w.heap.size 0 x := by rw [← hW0]; exact at_new w x
  have HBW := Lib.hid hbw
  have HCEL := Lib.hid fun w' (h : Below W0.heap.size W0 w') => hat.below hlt h
  have HC := Lib.hid fun w' (h : Below W0.heap.size W0 w') => scheck_any v x w' (Is.below (hbw.trans (h.mono hbw.size)) _ _ hx) hb
  have HR := Lib.hid fun w' (h : Below W0.heap.size W0 w') => href v x w' (Is.below (hbw.trans (h.mono hbw.size)) _ _ hx) hb
  have HW0 := Lib.hid hW0
  generalize chs v = cv at *
  obtain ⟨xk, xnm, xn, xs, xka, xkn, xkc, xla, xln, xlc⟩ := x
  simp only [X.v, X.cells] at HC HR HW0 ⊢
  clear hx hb hW0 hbw hlt hat href
  go_enter Try.func3, Try.ntmps3
  go_upto_region 1 with (fail)
  rw [HW0.out]
  have hb0 : Below W0.heap.size W0 W0.drew := (Below.refl _ _).drew
  refine wp_region_held_drew (S := fun w' => Below W0.heap.size W0 w') (by kernel_rfl) ?_ (fun hHeld => ?_)
  · exact hb0
  refine wpAnyH_ready (rs := [0]) (by decide +kernel) (by simp) (AllReadyH.cons rfl (fun K hK => ?_) AllReadyH.nil)
  go_simp
  refine (live_any _).mono ?_
  rintro ee v1 ⟨rfl, hbb⟩
  have hb1 := hb0.trans (hbb.mono hb0.size)
  refine hK.out _ _ hb1 (fun hHeld1 => ?_)
  clear hK K hbb
  try simp only [List.getElem_toArray, List.getElem_cons_zero, List.getElem_cons_succ, Act.put, List.setIfInBounds_toArray, List.set_cons_zero, List.set_cons_succ]
  iterate 3
    (first
      | (refine wpAnyH_take (i := 1) (v := ?_) rfl (by kernel_rfl) (by decide +kernel) (by decide +kernel) (fun _ _ _ h => h) (Or.inl ⟨by rfl, ?_⟩) (by assumption) ?_; rotate_left; (focus (intro w0 hSw; obtain ⟨p0, p1, p2, p3, p4, p5⟩ := (HCEL.out w0 hSw).six; go_simp; (try with_reducible rfl); done)))
      | (refine wpAnyH_take (i := 2) (v := ?_) rfl (by kernel_rfl) (by decide +kernel) (by decide +kernel) (fun _ _ _ h => h) (Or.inl ⟨by rfl, ?_⟩) (by assumption) ?_; rotate_left; (focus (intro w0 hSw; obtain ⟨p0, p1, p2, p3, p4, p5⟩ := (HCEL.out w0 hSw).six; go_simp; (try with_reducible rfl); done)))
      | (refine wpAnyH_take (i := 4) (v := ?_) rfl (by kernel_rfl) (by decide +kernel) (by decide +kernel) (fun _ _ _ h => h) (Or.inl ⟨by rfl, ?_⟩) (by assumption) ?_; rotate_left; (focus (intro w0 hSw; obtain ⟨p0, p1, p2, p3, p4, p5⟩ := (HCEL.out w0 hSw).six; go_simp; (try with_reducible rfl); done)))
      )
  try simp only [List.getElem_toArray, List.getElem_cons_zero, List.getElem_cons_succ, Act.put, List.setIfInBounds_toArray, List.set_cons_zero, List.set_cons_succ]
  refine wpAnyH_ready (rs := [3]) (by decide +kernel) (by simp) (AllReadyH.cons rfl (fun K hK => ?_) AllReadyH.nil)
  go_simp
  refine (HC.out _ hb1).mono ?_
  rintro ee v2 ⟨rfl, hbb⟩
  have hb2 := hb1.trans (hbb.mono hb1.size)
  refine hK.out _ _ hb2 (fun hHeld2 => ?_)
  clear hK K hbb
  try simp only [List.getElem_toArray, List.getElem_cons_zero, List.getElem_cons_succ, Act.put, List.setIfInBounds_toArray, List.set_cons_zero, List.set_cons_succ]
  refine wpAnyH_ready (rs := [5]) (by decide +kernel) (by simp) (AllReadyH.cons rfl (fun K hK => ?_) AllReadyH.nil)
  go_simp
  refine (HR.out _ hb2).mono ?_
  rintro ee v3 ⟨rfl, hbb⟩
  have hb3 := hb2.trans (hbb.mono hb2.size)
  refine hK.out _ _ hb3 (fun hHeld3 => ?_)
  clear hK K hbb
  try simp only [List.getElem_toArray, List.getElem_cons_zero, List.getElem_cons_succ, Act.put, List.setIfInBounds_toArray, List.set_cons_zero, List.set_cons_succ]
  iterate 3
    (first
      | (refine wpAnyH_take (i := 6) (v := ?_) rfl (by kernel_rfl) (by decide +kernel) (by decide +kernel) (fun _ _ _ h => h) (Or.inl ⟨by rfl, ?_⟩) (by assumption) ?_; rotate_left; (focus (intro w0 hSw; obtain ⟨p0, p1, p2, p3, p4, p5⟩ := (HCEL.out w0 hSw).six; go_simp; (try with_reducible rfl); done)))
      | (refine wpAnyH_take (i := 7) (v := ?_) rfl (by kernel_rfl) (by decide +kernel) (by decide +kernel) (fun _ _ _ h => h) (Or.inl ⟨by rfl, ?_⟩) (by assumption) ?_; rotate_left; (focus (intro w0 hSw; obtain ⟨p0, p1, p2, p3, p4, p5⟩ := (HCEL.out w0 hSw).six; go_simp; (try with_reducible rfl); done)))
      | (refine wpAnyH_take (i := 8) (v := ?_) rfl (by kernel_rfl) (by decide +kernel) (by decide +kernel) (fun _ _ _ h => h) (Or.inl ⟨by rfl, ?_⟩) (by assumption) ?_; rotate_left; (focus (intro w0 hSw; obtain ⟨p0, p1, p2, p3, p4, p5⟩ := (HCEL.out w0 hSw).six; go_simp; (try with_reducible rfl); done)))
      )
  try simp only [List.getElem_toArray, List.getElem_cons_zero, List.getElem_cons_succ, Act.put, List.setIfInBounds_toArray, List.set_cons_zero, List.set_cons_succ]
  refine wpAnyH_done (by kernel_rfl) ?_ _
  have HB3 := Lib.hid (HBW.out.trans (hb3.mono HBW.out.size))
  go_wp2_with fail
  go_ret
  exact ⟨rfl, HB3.out⟩
theorem within_ok : WithinOk := within_of_label fun v x a z w hx ha hk hb hok hl hp => rwithin_38 v x a z w hx ha hk hb hok hl hp
theorem refCheck09 (v : V) (x : X) (w : World) (hx : Is w v x) (hb : v.bulk ≤ 4194304) : Calls Try.prog 11 #[x.v] w fun e w' => e = .returned (.int .i64 (chs v)) ∧ Below w.heap.size w w' := check09_of within_ok v x w hx hb
theorem checks_any (v : V) (x : X) (w : World) (hx : Is w v x) (hb : v.bulk ≤ 4194304) : Calls Try.prog 3 #[x.v] w (AnsB w true) := checks_of refCheck09 v x w hx hb
end Go.Proofs.Ytgehgccgologpaa.Z
