/-
  Laid by wip/scope/lay.py out of wip/tree: Vc.
  The reference's own. (gen_vc.py)
-/
import Derived.Test.YtgehgccgologpaaVb
namespace Go.Proofs.Ytgehgccgologpaa.R
open Go.RowKit Go.Proofs.Ytgehgccgologpaa Go.Proofs.Ytgehgccgologpaa.T
theorem key_le : ∀ (l : List ByteArray) (j : Nat) (h : j < l.length), l[j].size ≤ keysBulk l
  | s :: l, 0, _ => by show s.size ≤ s.size + 1 + keysBulk l; omega
  | s :: l, j + 1, h => by
    have := key_le l j (by simpa using h)
    show (l[j]'(by simpa using h)).size ≤ s.size + 1 + keysBulk l
    omega
theorem own_sizes (v : V) (hb : v.bulk ≤ 4194304) : v.nm.size ≤ 4194304 ∧ v.s.size ≤ 4194304 ∧ keysBulk v.ks ≤ 4194304 := by
  cases v
  simp only [V.bulk, V.nm, V.s, V.ks] at *
  omega
set_option maxRecDepth 20000 in
set_option maxHeartbeats 2000000 in
theorem own_1 (v : V) (x : X) (w : World) (h : Is w v x) (hb : v.bulk ≤ 4194304) (hk : v.k = 1) : Calls Try.prog 34 #[x.v] w fun e w' => e = .returned (.bool (fields (ctch3 v) v)) ∧ Below w.heap.size w w' := by
  have hsz := own_sizes v hb
  have HNM := Lib.hid fun w' (hb' : Below w.heap.size w w') => named_any v x w' (Is.below hb' _ _ h) hsz.1
  have HCK := Lib.hid fun w' => refCheck_any v.s w' (by unfold maxLen; omega)
  have HKN : Hid (∀ (j : Nat) (hj : j < v.ks.length) (w' : World), Calls Try.prog 61 #[.string v.ks[j]] w' fun e w'' => e = .returned (.bool (isNm v.ks[j])) ∧ Below w'.heap.size w' w'') := fun j hj w' => refName_any _ w' (by have := key_le v.ks j hj; omega)
  obtain ⟨xka, xkc, xla, xlc, rfl, -, -, h3, -⟩ := h.open
  have HST := Lib.hid h3
  have hkl : (v.ks.length : Int) ≤ 4194304 := by have := length_le_keysBulk v.ks; omega
  obtain ⟨W0, hW0⟩ : ∃ W0, w.alloc (.cells #[.int .i64 v.k, .string v.nm, .int .i64 v.n, .string v.s, .slice xka v.ks.length xkc, .slice xla v.l.length xlc] 25) = W0 := ⟨_, rfl⟩
  have HB0 : Hid (Below w.heap.size w W0) := by rw [← hW0]; exact below_alloc _ _
  have HF : Hid (∀ w', Below W0.heap.size W0 w' → At w' w.heap.size 0 ⟨v.k, v.nm, v.n, v.s, xka, v.ks.length, xkc, xla, v.l.length, xlc⟩) := fun w' hb => by
    have h0 : At W0 w.heap.size 0 ⟨v.k, v.nm, v.n, v.s, xka, v.ks.length, xkc, xla, v.l.length, xlc⟩ := by rw [← hW0]; exact at_row (hp_new rfl) rfl rfl rfl rfl rfl rfl
    exact h0.below (B := W0.heap.size) (by rw [← hW0]; simp) hb
  have HW0 := Lib.hid hW0
  have hnum : numOk v = decide (0 ≤ v.n ∧ v.n ≤ 9007199254740991) := by unfold numOk; rw [hk]; rfl
  have htx : txOk v = decide (v.s.size = 0) := by unfold txOk; rw [hk]; rfl
  have hns : nsOk v = v.ks.isEmpty := by unfold nsOk; rw [hk]; rfl
  obtain ⟨r, hr⟩ : ∃ r, fields (ctch3 v) v = r := ⟨_, rfl⟩
  rw [hr]
  have HR : Hid (r = (nmOk (ctch3 v) v && (decide (0 ≤ v.n ∧ v.n ≤ 9007199254740991) && (decide (v.s.size = 0) && v.ks.isEmpty)))) := by
    show _ = _
    rw [← hr, ← hnum, ← htx, ← hns]
    rfl
  simp only [X.v] at HNM ⊢
  rw [hk] at HNM HF HW0 ⊢
  clear h h3 hb hsz hW0 hnum htx hns hr hk
  generalize nmOk (ctch3 v) v = bn at *
  generalize v.nm = nm at *
  generalize v.n = n at *
  generalize v.s = s at *
  generalize v.ks = ks at *
  generalize v.l.length = ln at *
  go_enter Try.func34, Try.ntmps34
  go_wp2_with fail
  rw [HW0.out]
  clear HW0
  refine (HNM.out _ HB0.out).mono ?_
  rintro e w1 ⟨rfl, hb1⟩
  have HB1 := Lib.hid hb1
  have HBW := Lib.hid (HB0.out.trans (hb1.mono HB0.out.size))
  clear hb1 HNM
  obtain ⟨c0, c1, c2, c3, c4, c5⟩ := HF.out _ HB1.out
  dsimp only at c0 c1 c2 c3 c4 c5
  cases bn
  · have HV : Hid (r = false) := by show _ = _; rw [HR.out]; rfl
    clear HR
    go_wp2_with (go_at_call 60; refine (HCK.out _).mono ?_; rintro e w' ⟨rfl, rfl⟩)
    go_ret
    exact ⟨by rw [HV.out]; rfl, HBW.out⟩
  rw [Bool.true_and] at HR
  by_cases hs : s = ⟨#[]⟩
  · subst hs
    rw [decide_eq_true (show (⟨#[]⟩ : ByteArray).size = 0 from rfl), Bool.true_and] at HR
    rw [decide_eq_true (show (⟨#[]⟩ : ByteArray).size % 2 = 0 from rfl)] at HCK
    -- number
    by_cases hn0 : n < 0
    · rw [decide_eq_false (by omega)] at HR
      have HV : Hid (r = false) := by show _ = _; rw [HR.out]; rfl
      clear HR
      go_wp2_with (go_at_call 60; refine (HCK.out _).mono ?_; rintro e w' ⟨rfl, rfl⟩)
      go_ret
      exact ⟨by rw [HV.out]; rfl, HBW.out⟩
    by_cases hn1 : 9007199254740991 < n
    · rw [decide_eq_false (by omega)] at HR
      have HV : Hid (r = false) := by show _ = _; rw [HR.out]; rfl
      clear HR
      go_wp2_with (go_at_call 60; refine (HCK.out _).mono ?_; rintro e w' ⟨rfl, rfl⟩)
      go_ret
      exact ⟨by rw [HV.out]; rfl, HBW.out⟩
    rw [decide_eq_true (by omega), Bool.true_and] at HR
    by_cases hks : ks = []
    · subst hks
      have HV : Hid (r = true) := by show _ = _; rw [HR.out]; rfl
      clear HR HST HKN
      go_wp2_with (go_at_call 60; refine (HCK.out _).mono ?_; rintro e w' ⟨rfl, rfl⟩)
      go_loopw [72] (fun i wr => i = .int .i64 0 ∧ w1 = wr) (fun _ _ => 0)
      case atStart => exact ⟨rfl, rfl⟩
      case round =>
        obtain ⟨rfl, rfl⟩ := hrel
        go_wp2_with fail
        go_ret
        exact ⟨by rw [HV.out]; rfl, HBW.out⟩
    · have HV : Hid (r = false) := by
        show _ = _
        rw [HR.out]
        cases ks
        · exact absurd rfl hks
        · rfl
      have hpos : (0 : Int) < (ks.length : Int) := by
        have := List.length_pos_iff.2 hks
        omega
      clear HR HST HKN hks
      generalize ks.length = kn at *
      go_wp2_with (go_at_call 60; refine (HCK.out _).mono ?_; rintro e w' ⟨rfl, rfl⟩)
      go_ret
      exact ⟨by rw [HV.out]; rfl, HBW.out⟩
  · have hz : ¬ s.size = 0 := fun h => hs (nil_of h)
    obtain ⟨z1, z2⟩ := str_some hz
    rw [decide_eq_false hz] at HR
    clear hs hz
    have HV : Hid (r = false) := by show _ = _; rw [HR.out]; simp
    clear HR
    go_wp2_with (go_at_call 60; refine (HCK.out _).mono ?_; rintro e w' ⟨rfl, rfl⟩)
    go_ret
    exact ⟨by rw [HV.out]; rfl, HBW.out⟩
set_option maxRecDepth 20000 in
set_option maxHeartbeats 2000000 in
theorem own_6 (v : V) (x : X) (w : World) (h : Is w v x) (hb : v.bulk ≤ 4194304) (hk : v.k = 6) : Calls Try.prog 34 #[x.v] w fun e w' => e = .returned (.bool (fields (ctch3 v) v)) ∧ Below w.heap.size w w' := by
  have hsz := own_sizes v hb
  have HNM := Lib.hid fun w' (hb' : Below w.heap.size w w') => named_any v x w' (Is.below hb' _ _ h) hsz.1
  have HCK := Lib.hid fun w' => refCheck_any v.s w' (by unfold maxLen; omega)
  have HKN : Hid (∀ (j : Nat) (hj : j < v.ks.length) (w' : World), Calls Try.prog 61 #[.string v.ks[j]] w' fun e w'' => e = .returned (.bool (isNm v.ks[j])) ∧ Below w'.heap.size w' w'') := fun j hj w' => refName_any _ w' (by have := key_le v.ks j hj; omega)
  obtain ⟨xka, xkc, xla, xlc, rfl, -, -, h3, -⟩ := h.open
  have HST := Lib.hid h3
  have hkl : (v.ks.length : Int) ≤ 4194304 := by have := length_le_keysBulk v.ks; omega
  obtain ⟨W0, hW0⟩ : ∃ W0, w.alloc (.cells #[.int .i64 v.k, .string v.nm, .int .i64 v.n, .string v.s, .slice xka v.ks.length xkc, .slice xla v.l.length xlc] 25) = W0 := ⟨_, rfl⟩
  have HB0 : Hid (Below w.heap.size w W0) := by rw [← hW0]; exact below_alloc _ _
  have HF : Hid (∀ w', Below W0.heap.size W0 w' → At w' w.heap.size 0 ⟨v.k, v.nm, v.n, v.s, xka, v.ks.length, xkc, xla, v.l.length, xlc⟩) := fun w' hb => by
    have h0 : At W0 w.heap.size 0 ⟨v.k, v.nm, v.n, v.s, xka, v.ks.length, xkc, xla, v.l.length, xlc⟩ := by rw [← hW0]; exact at_row (hp_new rfl) rfl rfl rfl rfl rfl rfl
    exact h0.below (B := W0.heap.size) (by rw [← hW0]; simp) hb
  have HW0 := Lib.hid hW0
  have hnum : numOk v = decide (v.n = 0 ∨ v.n = 1) := by unfold numOk; rw [hk]; rfl
  have htx : txOk v = decide (v.s.size = 0) := by unfold txOk; rw [hk]; rfl
  have hns : nsOk v = v.ks.isEmpty := by unfold nsOk; rw [hk]; rfl
  obtain ⟨r, hr⟩ : ∃ r, fields (ctch3 v) v = r := ⟨_, rfl⟩
  rw [hr]
  have HR : Hid (r = (nmOk (ctch3 v) v && (decide (v.n = 0 ∨ v.n = 1) && (decide (v.s.size = 0) && v.ks.isEmpty)))) := by
    show _ = _
    rw [← hr, ← hnum, ← htx, ← hns]
    rfl
  simp only [X.v] at HNM ⊢
  rw [hk] at HNM HF HW0 ⊢
  clear h h3 hb hsz hW0 hnum htx hns hr hk
  generalize nmOk (ctch3 v) v = bn at *
  generalize v.nm = nm at *
  generalize v.n = n at *
  generalize v.s = s at *
  generalize v.ks = ks at *
  generalize v.l.length = ln at *
  go_enter Try.func34, Try.ntmps34
  go_wp2_with fail
  rw [HW0.out]
  clear HW0
  refine (HNM.out _ HB0.out).mono ?_
  rintro e w1 ⟨rfl, hb1⟩
  have HB1 := Lib.hid hb1
  have HBW := Lib.hid (HB0.out.trans (hb1.mono HB0.out.size))
  clear hb1 HNM
  obtain ⟨c0, c1, c2, c3, c4, c5⟩ := HF.out _ HB1.out
  dsimp only at c0 c1 c2 c3 c4 c5
  cases bn
  · have HV : Hid (r = false) := by show _ = _; rw [HR.out]; rfl
    clear HR
    go_wp2_with (go_at_call 60; refine (HCK.out _).mono ?_; rintro e w' ⟨rfl, rfl⟩)
    go_ret
    exact ⟨by rw [HV.out]; rfl, HBW.out⟩
  rw [Bool.true_and] at HR
  by_cases hs : s = ⟨#[]⟩
  · subst hs
    rw [decide_eq_true (show (⟨#[]⟩ : ByteArray).size = 0 from rfl), Bool.true_and] at HR
    rw [decide_eq_true (show (⟨#[]⟩ : ByteArray).size % 2 = 0 from rfl)] at HCK
    -- number
    by_cases hn0 : n = 0
    · rw [decide_eq_true (.inl hn0), Bool.true_and] at HR
      subst hn0
      by_cases hks : ks = []
      · subst hks
        have HV : Hid (r = true) := by show _ = _; rw [HR.out]; rfl
        clear HR HST HKN
        go_wp2_with (go_at_call 60; refine (HCK.out _).mono ?_; rintro e w' ⟨rfl, rfl⟩)
        go_loopw [72] (fun i wr => i = .int .i64 0 ∧ w1 = wr) (fun _ _ => 0)
        case atStart => exact ⟨rfl, rfl⟩
        case round =>
          obtain ⟨rfl, rfl⟩ := hrel
          go_wp2_with fail
          go_ret
          exact ⟨by rw [HV.out]; rfl, HBW.out⟩
      · have HV : Hid (r = false) := by
          show _ = _
          rw [HR.out]
          cases ks
          · exact absurd rfl hks
          · rfl
        have hpos : (0 : Int) < (ks.length : Int) := by
          have := List.length_pos_iff.2 hks
          omega
        clear HR HST HKN hks
        generalize ks.length = kn at *
        go_wp2_with (go_at_call 60; refine (HCK.out _).mono ?_; rintro e w' ⟨rfl, rfl⟩)
        go_ret
        exact ⟨by rw [HV.out]; rfl, HBW.out⟩
    by_cases hn1 : n = 1
    · rw [decide_eq_true (.inr hn1), Bool.true_and] at HR
      subst hn1
      by_cases hks : ks = []
      · subst hks
        have HV : Hid (r = true) := by show _ = _; rw [HR.out]; rfl
        clear HR HST HKN
        go_wp2_with (go_at_call 60; refine (HCK.out _).mono ?_; rintro e w' ⟨rfl, rfl⟩)
        go_loopw [72] (fun i wr => i = .int .i64 0 ∧ w1 = wr) (fun _ _ => 0)
        case atStart => exact ⟨rfl, rfl⟩
        case round =>
          obtain ⟨rfl, rfl⟩ := hrel
          go_wp2_with fail
          go_ret
          exact ⟨by rw [HV.out]; rfl, HBW.out⟩
      · have HV : Hid (r = false) := by
          show _ = _
          rw [HR.out]
          cases ks
          · exact absurd rfl hks
          · rfl
        have hpos : (0 : Int) < (ks.length : Int) := by
          have := List.length_pos_iff.2 hks
          omega
        clear HR HST HKN hks
        generalize ks.length = kn at *
        go_wp2_with (go_at_call 60; refine (HCK.out _).mono ?_; rintro e w' ⟨rfl, rfl⟩)
        go_ret
        exact ⟨by rw [HV.out]; rfl, HBW.out⟩
    rw [decide_eq_false (fun h => h.elim hn0 hn1)] at HR
    have q0 : (n == 0) = false := by rw [beq_eq_false_iff_ne]; exact hn0
    have q1 : (n == 1) = false := by rw [beq_eq_false_iff_ne]; exact hn1
    have p0 : (n != 0) = true := bne_iff_ne.2 hn0
    have p1 : (n != 1) = true := bne_iff_ne.2 hn1
    have HV : Hid (r = false) := by show _ = _; rw [HR.out]; rfl
    clear HR
    go_wp2_with (go_at_call 60; refine (HCK.out _).mono ?_; rintro e w' ⟨rfl, rfl⟩)
    go_ret
    exact ⟨by rw [HV.out]; rfl, HBW.out⟩
  · have hz : ¬ s.size = 0 := fun h => hs (nil_of h)
    obtain ⟨z1, z2⟩ := str_some hz
    rw [decide_eq_false hz] at HR
    clear hs hz
    have HV : Hid (r = false) := by show _ = _; rw [HR.out]; simp
    clear HR
    go_wp2_with (go_at_call 60; refine (HCK.out _).mono ?_; rintro e w' ⟨rfl, rfl⟩)
    go_ret
    exact ⟨by rw [HV.out]; rfl, HBW.out⟩
set_option maxRecDepth 20000 in
set_option maxHeartbeats 2000000 in
theorem own_16 (v : V) (x : X) (w : World) (h : Is w v x) (hb : v.bulk ≤ 4194304) (hk : v.k = 16) : Calls Try.prog 34 #[x.v] w fun e w' => e = .returned (.bool (fields (ctch3 v) v)) ∧ Below w.heap.size w w' := by
  have hsz := own_sizes v hb
  have HNM := Lib.hid fun w' (hb' : Below w.heap.size w w') => named_any v x w' (Is.below hb' _ _ h) hsz.1
  have HCK := Lib.hid fun w' => refCheck_any v.s w' (by unfold maxLen; omega)
  have HKN : Hid (∀ (j : Nat) (hj : j < v.ks.length) (w' : World), Calls Try.prog 61 #[.string v.ks[j]] w' fun e w'' => e = .returned (.bool (isNm v.ks[j])) ∧ Below w'.heap.size w' w'') := fun j hj w' => refName_any _ w' (by have := key_le v.ks j hj; omega)
  obtain ⟨xka, xkc, xla, xlc, rfl, -, -, h3, -⟩ := h.open
  have HST := Lib.hid h3
  have hkl : (v.ks.length : Int) ≤ 4194304 := by have := length_le_keysBulk v.ks; omega
  obtain ⟨W0, hW0⟩ : ∃ W0, w.alloc (.cells #[.int .i64 v.k, .string v.nm, .int .i64 v.n, .string v.s, .slice xka v.ks.length xkc, .slice xla v.l.length xlc] 25) = W0 := ⟨_, rfl⟩
  have HB0 : Hid (Below w.heap.size w W0) := by rw [← hW0]; exact below_alloc _ _
  have HF : Hid (∀ w', Below W0.heap.size W0 w' → At w' w.heap.size 0 ⟨v.k, v.nm, v.n, v.s, xka, v.ks.length, xkc, xla, v.l.length, xlc⟩) := fun w' hb => by
    have h0 : At W0 w.heap.size 0 ⟨v.k, v.nm, v.n, v.s, xka, v.ks.length, xkc, xla, v.l.length, xlc⟩ := by rw [← hW0]; exact at_row (hp_new rfl) rfl rfl rfl rfl rfl rfl
    exact h0.below (B := W0.heap.size) (by rw [← hW0]; simp) hb
  have HW0 := Lib.hid hW0
  have hnum : numOk v = decide (v.n = 0 ∨ v.n = 1) := by unfold numOk; rw [hk]; rfl
  have htx : txOk v = decide (v.s.size = 0) := by unfold txOk; rw [hk]; rfl
  have hns : nsOk v = v.ks.isEmpty := by unfold nsOk; rw [hk]; rfl
  obtain ⟨r, hr⟩ : ∃ r, fields (ctch3 v) v = r := ⟨_, rfl⟩
  rw [hr]
  have HR : Hid (r = (nmOk (ctch3 v) v && (decide (v.n = 0 ∨ v.n = 1) && (decide (v.s.size = 0) && v.ks.isEmpty)))) := by
    show _ = _
    rw [← hr, ← hnum, ← htx, ← hns]
    rfl
  simp only [X.v] at HNM ⊢
  rw [hk] at HNM HF HW0 ⊢
  clear h h3 hb hsz hW0 hnum htx hns hr hk
  generalize nmOk (ctch3 v) v = bn at *
  generalize v.nm = nm at *
  generalize v.n = n at *
  generalize v.s = s at *
  generalize v.ks = ks at *
  generalize v.l.length = ln at *
  go_enter Try.func34, Try.ntmps34
  go_wp2_with fail
  rw [HW0.out]
  clear HW0
  refine (HNM.out _ HB0.out).mono ?_
  rintro e w1 ⟨rfl, hb1⟩
  have HB1 := Lib.hid hb1
  have HBW := Lib.hid (HB0.out.trans (hb1.mono HB0.out.size))
  clear hb1 HNM
  obtain ⟨c0, c1, c2, c3, c4, c5⟩ := HF.out _ HB1.out
  dsimp only at c0 c1 c2 c3 c4 c5
  cases bn
  · have HV : Hid (r = false) := by show _ = _; rw [HR.out]; rfl
    clear HR
    go_wp2_with (go_at_call 60; refine (HCK.out _).mono ?_; rintro e w' ⟨rfl, rfl⟩)
    go_ret
    exact ⟨by rw [HV.out]; rfl, HBW.out⟩
  rw [Bool.true_and] at HR
  by_cases hs : s = ⟨#[]⟩
  · subst hs
    rw [decide_eq_true (show (⟨#[]⟩ : ByteArray).size = 0 from rfl), Bool.true_and] at HR
    rw [decide_eq_true (show (⟨#[]⟩ : ByteArray).size % 2 = 0 from rfl)] at HCK
    -- number
    by_cases hn0 : n = 0
    · rw [decide_eq_true (.inl hn0), Bool.true_and] at HR
      subst hn0
      by_cases hks : ks = []
      · subst hks
        have HV : Hid (r = true) := by show _ = _; rw [HR.out]; rfl
        clear HR HST HKN
        go_wp2_with (go_at_call 60; refine (HCK.out _).mono ?_; rintro e w' ⟨rfl, rfl⟩)
        go_loopw [72] (fun i wr => i = .int .i64 0 ∧ w1 = wr) (fun _ _ => 0)
        case atStart => exact ⟨rfl, rfl⟩
        case round =>
          obtain ⟨rfl, rfl⟩ := hrel
          go_wp2_with fail
          go_ret
          exact ⟨by rw [HV.out]; rfl, HBW.out⟩
      · have HV : Hid (r = false) := by
          show _ = _
          rw [HR.out]
          cases ks
          · exact absurd rfl hks
          · rfl
        have hpos : (0 : Int) < (ks.length : Int) := by
          have := List.length_pos_iff.2 hks
          omega
        clear HR HST HKN hks
        generalize ks.length = kn at *
        go_wp2_with (go_at_call 60; refine (HCK.out _).mono ?_; rintro e w' ⟨rfl, rfl⟩)
        go_ret
        exact ⟨by rw [HV.out]; rfl, HBW.out⟩
    by_cases hn1 : n = 1
    · rw [decide_eq_true (.inr hn1), Bool.true_and] at HR
      subst hn1
      by_cases hks : ks = []
      · subst hks
        have HV : Hid (r = true) := by show _ = _; rw [HR.out]; rfl
        clear HR HST HKN
        go_wp2_with (go_at_call 60; refine (HCK.out _).mono ?_; rintro e w' ⟨rfl, rfl⟩)
        go_loopw [72] (fun i wr => i = .int .i64 0 ∧ w1 = wr) (fun _ _ => 0)
        case atStart => exact ⟨rfl, rfl⟩
        case round =>
          obtain ⟨rfl, rfl⟩ := hrel
          go_wp2_with fail
          go_ret
          exact ⟨by rw [HV.out]; rfl, HBW.out⟩
      · have HV : Hid (r = false) := by
          show _ = _
          rw [HR.out]
          cases ks
          · exact absurd rfl hks
          · rfl
        have hpos : (0 : Int) < (ks.length : Int) := by
          have := List.length_pos_iff.2 hks
          omega
        clear HR HST HKN hks
        generalize ks.length = kn at *
        go_wp2_with (go_at_call 60; refine (HCK.out _).mono ?_; rintro e w' ⟨rfl, rfl⟩)
        go_ret
        exact ⟨by rw [HV.out]; rfl, HBW.out⟩
    rw [decide_eq_false (fun h => h.elim hn0 hn1)] at HR
    have q0 : (n == 0) = false := by rw [beq_eq_false_iff_ne]; exact hn0
    have q1 : (n == 1) = false := by rw [beq_eq_false_iff_ne]; exact hn1
    have p0 : (n != 0) = true := bne_iff_ne.2 hn0
    have p1 : (n != 1) = true := bne_iff_ne.2 hn1
    have HV : Hid (r = false) := by show _ = _; rw [HR.out]; rfl
    clear HR
    go_wp2_with (go_at_call 60; refine (HCK.out _).mono ?_; rintro e w' ⟨rfl, rfl⟩)
    go_ret
    exact ⟨by rw [HV.out]; rfl, HBW.out⟩
  · have hz : ¬ s.size = 0 := fun h => hs (nil_of h)
    obtain ⟨z1, z2⟩ := str_some hz
    rw [decide_eq_false hz] at HR
    clear hs hz
    have HV : Hid (r = false) := by show _ = _; rw [HR.out]; simp
    clear HR
    go_wp2_with (go_at_call 60; refine (HCK.out _).mono ?_; rintro e w' ⟨rfl, rfl⟩)
    go_ret
    exact ⟨by rw [HV.out]; rfl, HBW.out⟩
set_option maxRecDepth 20000 in
set_option maxHeartbeats 2000000 in
theorem own_2 (v : V) (x : X) (w : World) (h : Is w v x) (hb : v.bulk ≤ 4194304) (hk : v.k = 2) : Calls Try.prog 34 #[x.v] w fun e w' => e = .returned (.bool (fields (ctch3 v) v)) ∧ Below w.heap.size w w' := by
  have hsz := own_sizes v hb
  have HNM := Lib.hid fun w' (hb' : Below w.heap.size w w') => named_any v x w' (Is.below hb' _ _ h) hsz.1
  have HCK := Lib.hid fun w' => refCheck_any v.s w' (by unfold maxLen; omega)
  have HKN : Hid (∀ (j : Nat) (hj : j < v.ks.length) (w' : World), Calls Try.prog 61 #[.string v.ks[j]] w' fun e w'' => e = .returned (.bool (isNm v.ks[j])) ∧ Below w'.heap.size w' w'') := fun j hj w' => refName_any _ w' (by have := key_le v.ks j hj; omega)
  obtain ⟨xka, xkc, xla, xlc, rfl, -, -, h3, -⟩ := h.open
  have HST := Lib.hid h3
  have hkl : (v.ks.length : Int) ≤ 4194304 := by have := length_le_keysBulk v.ks; omega
  obtain ⟨W0, hW0⟩ : ∃ W0, w.alloc (.cells #[.int .i64 v.k, .string v.nm, .int .i64 v.n, .string v.s, .slice xka v.ks.length xkc, .slice xla v.l.length xlc] 25) = W0 := ⟨_, rfl⟩
  have HB0 : Hid (Below w.heap.size w W0) := by rw [← hW0]; exact below_alloc _ _
  have HF : Hid (∀ w', Below W0.heap.size W0 w' → At w' w.heap.size 0 ⟨v.k, v.nm, v.n, v.s, xka, v.ks.length, xkc, xla, v.l.length, xlc⟩) := fun w' hb => by
    have h0 : At W0 w.heap.size 0 ⟨v.k, v.nm, v.n, v.s, xka, v.ks.length, xkc, xla, v.l.length, xlc⟩ := by rw [← hW0]; exact at_row (hp_new rfl) rfl rfl rfl rfl rfl rfl
    exact h0.below (B := W0.heap.size) (by rw [← hW0]; simp) hb
  have HW0 := Lib.hid hW0
  have hnum : numOk v = decide (v.n = 0) := by unfold numOk; rw [hk]; rfl
  have htx : txOk v = decide (v.s.size % 2 = 0) := by unfold txOk; rw [hk]; rfl
  have hns : nsOk v = v.ks.isEmpty := by unfold nsOk; rw [hk]; rfl
  obtain ⟨r, hr⟩ : ∃ r, fields (ctch3 v) v = r := ⟨_, rfl⟩
  rw [hr]
  have HR : Hid (r = (nmOk (ctch3 v) v && (decide (v.n = 0) && (decide (v.s.size % 2 = 0) && v.ks.isEmpty)))) := by
    show _ = _
    rw [← hr, ← hnum, ← htx, ← hns]
    rfl
  simp only [X.v] at HNM ⊢
  rw [hk] at HNM HF HW0 ⊢
  clear h h3 hb hsz hW0 hnum htx hns hr hk
  generalize nmOk (ctch3 v) v = bn at *
  generalize v.nm = nm at *
  generalize v.n = n at *
  generalize v.s = s at *
  generalize v.ks = ks at *
  generalize v.l.length = ln at *
  go_enter Try.func34, Try.ntmps34
  go_wp2_with fail
  rw [HW0.out]
  clear HW0
  refine (HNM.out _ HB0.out).mono ?_
  rintro e w1 ⟨rfl, hb1⟩
  have HB1 := Lib.hid hb1
  have HBW := Lib.hid (HB0.out.trans (hb1.mono HB0.out.size))
  clear hb1 HNM
  obtain ⟨c0, c1, c2, c3, c4, c5⟩ := HF.out _ HB1.out
  dsimp only at c0 c1 c2 c3 c4 c5
  cases bn
  · have HV : Hid (r = false) := by show _ = _; rw [HR.out]; rfl
    clear HR
    go_wp2_with (go_at_call 60; refine (HCK.out _).mono ?_; rintro e w' ⟨rfl, rfl⟩)
    go_ret
    exact ⟨by rw [HV.out]; rfl, HBW.out⟩
  rw [Bool.true_and] at HR
  by_cases hev : s.size % 2 = 0
  · rw [decide_eq_true hev] at HR HCK
    rw [Bool.true_and] at HR
    by_cases hs : s = ⟨#[]⟩
    · subst hs
      -- number
      by_cases hn0 : n = 0
      · rw [decide_eq_true hn0, Bool.true_and] at HR
        subst hn0
        by_cases hks : ks = []
        · subst hks
          have HV : Hid (r = true) := by show _ = _; rw [HR.out]; rfl
          clear HR HST HKN
          go_wp2_with (go_at_call 60; refine (HCK.out _).mono ?_; rintro e w' ⟨rfl, rfl⟩)
          go_loopw [72] (fun i wr => i = .int .i64 0 ∧ w1 = wr) (fun _ _ => 0)
          case atStart => exact ⟨rfl, rfl⟩
          case round =>
            obtain ⟨rfl, rfl⟩ := hrel
            go_wp2_with fail
            go_ret
            exact ⟨by rw [HV.out]; rfl, HBW.out⟩
        · have HV : Hid (r = false) := by
            show _ = _
            rw [HR.out]
            cases ks
            · exact absurd rfl hks
            · rfl
          have hpos : (0 : Int) < (ks.length : Int) := by
            have := List.length_pos_iff.2 hks
            omega
          clear HR HST HKN hks
          generalize ks.length = kn at *
          go_wp2_with (go_at_call 60; refine (HCK.out _).mono ?_; rintro e w' ⟨rfl, rfl⟩)
          go_ret
          exact ⟨by rw [HV.out]; rfl, HBW.out⟩
      rw [decide_eq_false hn0] at HR
      have q0 : (n == 0) = false := by rw [beq_eq_false_iff_ne]; exact hn0
      have HV : Hid (r = false) := by show _ = _; rw [HR.out]; rfl
      clear HR
      go_wp2_with (go_at_call 60; refine (HCK.out _).mono ?_; rintro e w' ⟨rfl, rfl⟩)
      go_ret
      exact ⟨by rw [HV.out]; rfl, HBW.out⟩
    · have hz : ¬ s.size = 0 := fun h => hs (nil_of h)
      obtain ⟨z1, z2⟩ := str_some hz
      clear hs hz hev
      -- number
      by_cases hn0 : n = 0
      · rw [decide_eq_true hn0, Bool.true_and] at HR
        subst hn0
        by_cases hks : ks = []
        · subst hks
          have HV : Hid (r = true) := by show _ = _; rw [HR.out]; rfl
          clear HR HST HKN
          go_wp2_with (go_at_call 60; refine (HCK.out _).mono ?_; rintro e w' ⟨rfl, rfl⟩)
          go_loopw [72] (fun i wr => i = .int .i64 0 ∧ w1 = wr) (fun _ _ => 0)
          case atStart => exact ⟨rfl, rfl⟩
          case round =>
            obtain ⟨rfl, rfl⟩ := hrel
            go_wp2_with fail
            go_ret
            exact ⟨by rw [HV.out]; rfl, HBW.out⟩
        · have HV : Hid (r = false) := by
            show _ = _
            rw [HR.out]
            cases ks
            · exact absurd rfl hks
            · rfl
          have hpos : (0 : Int) < (ks.length : Int) := by
            have := List.length_pos_iff.2 hks
            omega
          clear HR HST HKN hks
          generalize ks.length = kn at *
          go_wp2_with (go_at_call 60; refine (HCK.out _).mono ?_; rintro e w' ⟨rfl, rfl⟩)
          go_ret
          exact ⟨by rw [HV.out]; rfl, HBW.out⟩
      rw [decide_eq_false hn0] at HR
      have q0 : (n == 0) = false := by rw [beq_eq_false_iff_ne]; exact hn0
      have HV : Hid (r = false) := by show _ = _; rw [HR.out]; rfl
      clear HR
      go_wp2_with (go_at_call 60; refine (HCK.out _).mono ?_; rintro e w' ⟨rfl, rfl⟩)
      go_ret
      exact ⟨by rw [HV.out]; rfl, HBW.out⟩
  · rw [decide_eq_false hev] at HR HCK
    have hs : ¬ s = ⟨#[]⟩ := fun e => hev (by rw [e]; rfl)
    have hz : ¬ s.size = 0 := fun h => hs (nil_of h)
    obtain ⟨z1, z2⟩ := str_some hz
    clear hs hz hev
    have HV : Hid (r = false) := by show _ = _; rw [HR.out]; simp
    clear HR
    go_wp2_with (go_at_call 60; refine (HCK.out _).mono ?_; rintro e w' ⟨rfl, rfl⟩)
    go_ret
    exact ⟨by rw [HV.out]; rfl, HBW.out⟩
set_option maxRecDepth 20000 in
set_option maxHeartbeats 2000000 in
theorem own_9 (v : V) (x : X) (w : World) (h : Is w v x) (hb : v.bulk ≤ 4194304) (hk : v.k = 9) : Calls Try.prog 34 #[x.v] w fun e w' => e = .returned (.bool (fields (ctch3 v) v)) ∧ Below w.heap.size w w' := by
  have hsz := own_sizes v hb
  have HNM := Lib.hid fun w' (hb' : Below w.heap.size w w') => named_any v x w' (Is.below hb' _ _ h) hsz.1
  have HCK := Lib.hid fun w' => refCheck_any v.s w' (by unfold maxLen; omega)
  have HKN : Hid (∀ (j : Nat) (hj : j < v.ks.length) (w' : World), Calls Try.prog 61 #[.string v.ks[j]] w' fun e w'' => e = .returned (.bool (isNm v.ks[j])) ∧ Below w'.heap.size w' w'') := fun j hj w' => refName_any _ w' (by have := key_le v.ks j hj; omega)
  obtain ⟨xka, xkc, xla, xlc, rfl, -, -, h3, -⟩ := h.open
  have HST := Lib.hid h3
  have hkl : (v.ks.length : Int) ≤ 4194304 := by have := length_le_keysBulk v.ks; omega
  obtain ⟨W0, hW0⟩ : ∃ W0, w.alloc (.cells #[.int .i64 v.k, .string v.nm, .int .i64 v.n, .string v.s, .slice xka v.ks.length xkc, .slice xla v.l.length xlc] 25) = W0 := ⟨_, rfl⟩
  have HB0 : Hid (Below w.heap.size w W0) := by rw [← hW0]; exact below_alloc _ _
  have HF : Hid (∀ w', Below W0.heap.size W0 w' → At w' w.heap.size 0 ⟨v.k, v.nm, v.n, v.s, xka, v.ks.length, xkc, xla, v.l.length, xlc⟩) := fun w' hb => by
    have h0 : At W0 w.heap.size 0 ⟨v.k, v.nm, v.n, v.s, xka, v.ks.length, xkc, xla, v.l.length, xlc⟩ := by rw [← hW0]; exact at_row (hp_new rfl) rfl rfl rfl rfl rfl rfl
    exact h0.below (B := W0.heap.size) (by rw [← hW0]; simp) hb
  have HW0 := Lib.hid hW0
  have hnum : numOk v = decide (v.n = 0) := by unfold numOk; rw [hk]; rfl
  have htx : txOk v = decide (v.s.size % 2 = 0) := by unfold txOk; rw [hk]; rfl
  have hns : nsOk v = v.ks.isEmpty := by unfold nsOk; rw [hk]; rfl
  obtain ⟨r, hr⟩ : ∃ r, fields (ctch3 v) v = r := ⟨_, rfl⟩
  rw [hr]
  have HR : Hid (r = (nmOk (ctch3 v) v && (decide (v.n = 0) && (decide (v.s.size % 2 = 0) && v.ks.isEmpty)))) := by
    show _ = _
    rw [← hr, ← hnum, ← htx, ← hns]
    rfl
  simp only [X.v] at HNM ⊢
  rw [hk] at HNM HF HW0 ⊢
  clear h h3 hb hsz hW0 hnum htx hns hr hk
  generalize nmOk (ctch3 v) v = bn at *
  generalize v.nm = nm at *
  generalize v.n = n at *
  generalize v.s = s at *
  generalize v.ks = ks at *
  generalize v.l.length = ln at *
  go_enter Try.func34, Try.ntmps34
  go_wp2_with fail
  rw [HW0.out]
  clear HW0
  refine (HNM.out _ HB0.out).mono ?_
  rintro e w1 ⟨rfl, hb1⟩
  have HB1 := Lib.hid hb1
  have HBW := Lib.hid (HB0.out.trans (hb1.mono HB0.out.size))
  clear hb1 HNM
  obtain ⟨c0, c1, c2, c3, c4, c5⟩ := HF.out _ HB1.out
  dsimp only at c0 c1 c2 c3 c4 c5
  cases bn
  · have HV : Hid (r = false) := by show _ = _; rw [HR.out]; rfl
    clear HR
    go_wp2_with (go_at_call 60; refine (HCK.out _).mono ?_; rintro e w' ⟨rfl, rfl⟩)
    go_ret
    exact ⟨by rw [HV.out]; rfl, HBW.out⟩
  rw [Bool.true_and] at HR
  by_cases hev : s.size % 2 = 0
  · rw [decide_eq_true hev] at HR HCK
    rw [Bool.true_and] at HR
    by_cases hs : s = ⟨#[]⟩
    · subst hs
      -- number
      by_cases hn0 : n = 0
      · rw [decide_eq_true hn0, Bool.true_and] at HR
        subst hn0
        by_cases hks : ks = []
        · subst hks
          have HV : Hid (r = true) := by show _ = _; rw [HR.out]; rfl
          clear HR HST HKN
          go_wp2_with (go_at_call 60; refine (HCK.out _).mono ?_; rintro e w' ⟨rfl, rfl⟩)
          go_loopw [72] (fun i wr => i = .int .i64 0 ∧ w1 = wr) (fun _ _ => 0)
          case atStart => exact ⟨rfl, rfl⟩
          case round =>
            obtain ⟨rfl, rfl⟩ := hrel
            go_wp2_with fail
            go_ret
            exact ⟨by rw [HV.out]; rfl, HBW.out⟩
        · have HV : Hid (r = false) := by
            show _ = _
            rw [HR.out]
            cases ks
            · exact absurd rfl hks
            · rfl
          have hpos : (0 : Int) < (ks.length : Int) := by
            have := List.length_pos_iff.2 hks
            omega
          clear HR HST HKN hks
          generalize ks.length = kn at *
          go_wp2_with (go_at_call 60; refine (HCK.out _).mono ?_; rintro e w' ⟨rfl, rfl⟩)
          go_ret
          exact ⟨by rw [HV.out]; rfl, HBW.out⟩
      rw [decide_eq_false hn0] at HR
      have q0 : (n == 0) = false := by rw [beq_eq_false_iff_ne]; exact hn0
      have HV : Hid (r = false) := by show _ = _; rw [HR.out]; rfl
      clear HR
      go_wp2_with (go_at_call 60; refine (HCK.out _).mono ?_; rintro e w' ⟨rfl, rfl⟩)
      go_ret
      exact ⟨by rw [HV.out]; rfl, HBW.out⟩
    · have hz : ¬ s.size = 0 := fun h => hs (nil_of h)
      obtain ⟨z1, z2⟩ := str_some hz
      clear hs hz hev
      -- number
      by_cases hn0 : n = 0
      · rw [decide_eq_true hn0, Bool.true_and] at HR
        subst hn0
        by_cases hks : ks = []
        · subst hks
          have HV : Hid (r = true) := by show _ = _; rw [HR.out]; rfl
          clear HR HST HKN
          go_wp2_with (go_at_call 60; refine (HCK.out _).mono ?_; rintro e w' ⟨rfl, rfl⟩)
          go_loopw [72] (fun i wr => i = .int .i64 0 ∧ w1 = wr) (fun _ _ => 0)
          case atStart => exact ⟨rfl, rfl⟩
          case round =>
            obtain ⟨rfl, rfl⟩ := hrel
            go_wp2_with fail
            go_ret
            exact ⟨by rw [HV.out]; rfl, HBW.out⟩
        · have HV : Hid (r = false) := by
            show _ = _
            rw [HR.out]
            cases ks
            · exact absurd rfl hks
            · rfl
          have hpos : (0 : Int) < (ks.length : Int) := by
            have := List.length_pos_iff.2 hks
            omega
          clear HR HST HKN hks
          generalize ks.length = kn at *
          go_wp2_with (go_at_call 60; refine (HCK.out _).mono ?_; rintro e w' ⟨rfl, rfl⟩)
          go_ret
          exact ⟨by rw [HV.out]; rfl, HBW.out⟩
      rw [decide_eq_false hn0] at HR
      have q0 : (n == 0) = false := by rw [beq_eq_false_iff_ne]; exact hn0
      have HV : Hid (r = false) := by show _ = _; rw [HR.out]; rfl
      clear HR
      go_wp2_with (go_at_call 60; refine (HCK.out _).mono ?_; rintro e w' ⟨rfl, rfl⟩)
      go_ret
      exact ⟨by rw [HV.out]; rfl, HBW.out⟩
  · rw [decide_eq_false hev] at HR HCK
    have hs : ¬ s = ⟨#[]⟩ := fun e => hev (by rw [e]; rfl)
    have hz : ¬ s.size = 0 := fun h => hs (nil_of h)
    obtain ⟨z1, z2⟩ := str_some hz
    clear hs hz hev
    have HV : Hid (r = false) := by show _ = _; rw [HR.out]; simp
    clear HR
    go_wp2_with (go_at_call 60; refine (HCK.out _).mono ?_; rintro e w' ⟨rfl, rfl⟩)
    go_ret
    exact ⟨by rw [HV.out]; rfl, HBW.out⟩
set_option maxRecDepth 20000 in
set_option maxHeartbeats 2000000 in
theorem own_10 (v : V) (x : X) (w : World) (h : Is w v x) (hb : v.bulk ≤ 4194304) (hk : v.k = 10) : Calls Try.prog 34 #[x.v] w fun e w' => e = .returned (.bool (fields (ctch3 v) v)) ∧ Below w.heap.size w w' := by
  have hsz := own_sizes v hb
  have HNM := Lib.hid fun w' (hb' : Below w.heap.size w w') => named_any v x w' (Is.below hb' _ _ h) hsz.1
  have HCK := Lib.hid fun w' => refCheck_any v.s w' (by unfold maxLen; omega)
  have HKN : Hid (∀ (j : Nat) (hj : j < v.ks.length) (w' : World), Calls Try.prog 61 #[.string v.ks[j]] w' fun e w'' => e = .returned (.bool (isNm v.ks[j])) ∧ Below w'.heap.size w' w'') := fun j hj w' => refName_any _ w' (by have := key_le v.ks j hj; omega)
  obtain ⟨xka, xkc, xla, xlc, rfl, -, -, h3, -⟩ := h.open
  have HST := Lib.hid h3
  have hkl : (v.ks.length : Int) ≤ 4194304 := by have := length_le_keysBulk v.ks; omega
  obtain ⟨W0, hW0⟩ : ∃ W0, w.alloc (.cells #[.int .i64 v.k, .string v.nm, .int .i64 v.n, .string v.s, .slice xka v.ks.length xkc, .slice xla v.l.length xlc] 25) = W0 := ⟨_, rfl⟩
  have HB0 : Hid (Below w.heap.size w W0) := by rw [← hW0]; exact below_alloc _ _
  have HF : Hid (∀ w', Below W0.heap.size W0 w' → At w' w.heap.size 0 ⟨v.k, v.nm, v.n, v.s, xka, v.ks.length, xkc, xla, v.l.length, xlc⟩) := fun w' hb => by
    have h0 : At W0 w.heap.size 0 ⟨v.k, v.nm, v.n, v.s, xka, v.ks.length, xkc, xla, v.l.length, xlc⟩ := by rw [← hW0]; exact at_row (hp_new rfl) rfl rfl rfl rfl rfl rfl
    exact h0.below (B := W0.heap.size) (by rw [← hW0]; simp) hb
  have HW0 := Lib.hid hW0
  have hnum : numOk v = decide (v.n = 0) := by unfold numOk; rw [hk]; rfl
  have htx : txOk v = decide (v.s.size = 0) := by unfold txOk; rw [hk]; rfl
  have hns : nsOk v = v.ks.all isNm := by unfold nsOk; rw [hk]; rfl
  obtain ⟨r, hr⟩ : ∃ r, fields (ctch3 v) v = r := ⟨_, rfl⟩
  rw [hr]
  have HR : Hid (r = (nmOk (ctch3 v) v && (decide (v.n = 0) && (decide (v.s.size = 0) && v.ks.all isNm)))) := by
    show _ = _
    rw [← hr, ← hnum, ← htx, ← hns]
    rfl
  simp only [X.v] at HNM ⊢
  rw [hk] at HNM HF HW0 ⊢
  clear h h3 hb hsz hW0 hnum htx hns hr hk
  generalize nmOk (ctch3 v) v = bn at *
  generalize v.nm = nm at *
  generalize v.n = n at *
  generalize v.s = s at *
  generalize v.ks = ks at *
  generalize v.l.length = ln at *
  go_enter Try.func34, Try.ntmps34
  go_wp2_with fail
  rw [HW0.out]
  clear HW0
  refine (HNM.out _ HB0.out).mono ?_
  rintro e w1 ⟨rfl, hb1⟩
  have HB1 := Lib.hid hb1
  have HBW := Lib.hid (HB0.out.trans (hb1.mono HB0.out.size))
  clear hb1 HNM
  obtain ⟨c0, c1, c2, c3, c4, c5⟩ := HF.out _ HB1.out
  dsimp only at c0 c1 c2 c3 c4 c5
  cases bn
  · have HV : Hid (r = false) := by show _ = _; rw [HR.out]; rfl
    clear HR
    go_wp2_with (go_at_call 60; refine (HCK.out _).mono ?_; rintro e w' ⟨rfl, rfl⟩)
    go_ret
    exact ⟨by rw [HV.out]; rfl, HBW.out⟩
  rw [Bool.true_and] at HR
  by_cases hs : s = ⟨#[]⟩
  · subst hs
    rw [decide_eq_true (show (⟨#[]⟩ : ByteArray).size = 0 from rfl), Bool.true_and] at HR
    rw [decide_eq_true (show (⟨#[]⟩ : ByteArray).size % 2 = 0 from rfl)] at HCK
    -- number
    by_cases hn0 : n = 0
    · rw [decide_eq_true hn0, Bool.true_and] at HR
      subst hn0
      by_cases hks : ks = []
      · subst hks
        have HV : Hid (r = true) := by show _ = _; rw [HR.out]; rfl
        clear HR HST HKN
        go_wp2_with (go_at_call 60; refine (HCK.out _).mono ?_; rintro e w' ⟨rfl, rfl⟩)
        go_loopw [72] (fun i wr => i = .int .i64 0 ∧ w1 = wr) (fun _ _ => 0)
        case atStart => exact ⟨rfl, rfl⟩
        case round =>
          obtain ⟨rfl, rfl⟩ := hrel
          go_wp2_with fail
          go_ret
          exact ⟨by rw [HV.out]; rfl, HBW.out⟩
      have hpos : (0 : Int) < (ks.length : Int) := by
        have := List.length_pos_iff.2 hks
        omega
      clear hks
      go_wp2_with (go_at_call 60; refine (HCK.out _).mono ?_; rintro e w' ⟨rfl, rfl⟩)
      go_loopw [72] (fun i wr => ∃ j : Nat, j ≤ ks.length ∧ i = .int .i64 j ∧ Hid (∀ i, (h : i < ks.length) → i < j → isNm ks[i] = true) ∧ Hid (Below w1.heap.size w1 wr))
        (fun i _ => ks.length - (intOf i).toNat)
      case atStart => exact ⟨0, Nat.zero_le _, rfl, Lib.hid fun i _ h => absurd h (Nat.not_lt_zero _), Lib.hid (Below.refl _ _)⟩
      case round =>
        obtain ⟨j, hj, rfl, hno, hbr⟩ := hrel
        by_cases hlt : j < ks.length
        · obtain ⟨g, o, rfl, hg, hc⟩ := HST.out.at_ hlt
          have hbw := HBW.out.trans (hbr.out.mono HBW.out.size)
          have d0 := (hbw.cell (p := ⟨g, o + j, none⟩) hg).trans hc
          have HN := Lib.hid (HKN.out j hlt)
          have HBR := Lib.hid hbw
          have hj0 : (0 : Int) ≤ (j : Int) := by omega
          have hj1 : (j : Int) < (ks.length : Int) := by omega
          have HNF : Hid (isNm ks[j] = false → r = false) := fun e => by
            rw [HR.out, Bool.eq_false_iff]
            intro h
            rw [List.all_eq_true.1 h _ (List.getElem_mem hlt)] at e
            cases e
          have HNT : Hid (isNm ks[j] = true → ∀ i, (h : i < ks.length) → i < j + 1 → isNm ks[i] = true) := fun e i h hi => by
            rcases Nat.lt_succ_iff_lt_or_eq.1 hi with hi | rfl
            · exact hno.out i h hi
            · exact e
          clear hc hg hbw hno c0 c1 c2 c3 c4 c5
          generalize ks[j] = u at *
          generalize isNm u = q at *
          cases q
          · have HV := Lib.hid (HNF.out rfl)
            clear HNF HNT
            go_wp2_with fail
            refine (HN.out _).mono ?_
            rintro e w2 ⟨rfl, hb2⟩
            have HB2 := Lib.hid (HBR.out.trans (hb2.mono HBR.out.size))
            clear hb2
            go_wp2_with fail
            go_ret
            exact ⟨by rw [HV.out]; rfl, HB2.out⟩
          · have HT := Lib.hid (HNT.out rfl)
            clear HNF HNT
            go_wp2_with fail
            refine (HN.out _).mono ?_
            rintro e w2 ⟨rfl, hb2⟩
            have HB2 := Lib.hid (hbr.out.trans (hb2.mono hbr.out.size))
            clear hb2
            go_wp2_with fail
            go_roundw
            case rel => exact ⟨j + 1, by omega, by go_num, HT, HB2⟩
            case measure => simp [intOf]; omega
        · obtain rfl : j = ks.length := by omega
          have HV : Hid (r = true) := by
            show _ = _
            rw [HR.out, List.all_eq_true]
            intro u hu
            obtain ⟨i, hi, rfl⟩ := List.getElem_of_mem hu
            exact hno.out i hi hi
          have HBR := Lib.hid (HBW.out.trans (hbr.out.mono HBW.out.size))
          clear hno c0 c1 c2 c3 c4 c5
          go_wp2_with fail
          go_ret
          exact ⟨by rw [HV.out]; rfl, HBR.out⟩
    rw [decide_eq_false hn0] at HR
    have q0 : (n == 0) = false := by rw [beq_eq_false_iff_ne]; exact hn0
    have HV : Hid (r = false) := by show _ = _; rw [HR.out]; rfl
    clear HR
    go_wp2_with (go_at_call 60; refine (HCK.out _).mono ?_; rintro e w' ⟨rfl, rfl⟩)
    go_ret
    exact ⟨by rw [HV.out]; rfl, HBW.out⟩
  · have hz : ¬ s.size = 0 := fun h => hs (nil_of h)
    obtain ⟨z1, z2⟩ := str_some hz
    rw [decide_eq_false hz] at HR
    clear hs hz
    have HV : Hid (r = false) := by show _ = _; rw [HR.out]; simp
    clear HR
    go_wp2_with (go_at_call 60; refine (HCK.out _).mono ?_; rintro e w' ⟨rfl, rfl⟩)
    go_ret
    exact ⟨by rw [HV.out]; rfl, HBW.out⟩
set_option maxRecDepth 20000 in
set_option maxHeartbeats 2000000 in
theorem own_39 (v : V) (x : X) (w : World) (h : Is w v x) (hb : v.bulk ≤ 4194304) (hk : v.k = 39) : Calls Try.prog 34 #[x.v] w fun e w' => e = .returned (.bool (fields (ctch3 v) v)) ∧ Below w.heap.size w w' := by
  have hsz := own_sizes v hb
  have HNM := Lib.hid fun w' (hb' : Below w.heap.size w w') => named_any v x w' (Is.below hb' _ _ h) hsz.1
  have HCK := Lib.hid fun w' => refCheck_any v.s w' (by unfold maxLen; omega)
  have HKN : Hid (∀ (j : Nat) (hj : j < v.ks.length) (w' : World), Calls Try.prog 61 #[.string v.ks[j]] w' fun e w'' => e = .returned (.bool (isNm v.ks[j])) ∧ Below w'.heap.size w' w'') := fun j hj w' => refName_any _ w' (by have := key_le v.ks j hj; omega)
  obtain ⟨xka, xkc, xla, xlc, rfl, -, -, h3, -⟩ := h.open
  have HST := Lib.hid h3
  have hkl : (v.ks.length : Int) ≤ 4194304 := by have := length_le_keysBulk v.ks; omega
  obtain ⟨W0, hW0⟩ : ∃ W0, w.alloc (.cells #[.int .i64 v.k, .string v.nm, .int .i64 v.n, .string v.s, .slice xka v.ks.length xkc, .slice xla v.l.length xlc] 25) = W0 := ⟨_, rfl⟩
  have HB0 : Hid (Below w.heap.size w W0) := by rw [← hW0]; exact below_alloc _ _
  have HF : Hid (∀ w', Below W0.heap.size W0 w' → At w' w.heap.size 0 ⟨v.k, v.nm, v.n, v.s, xka, v.ks.length, xkc, xla, v.l.length, xlc⟩) := fun w' hb => by
    have h0 : At W0 w.heap.size 0 ⟨v.k, v.nm, v.n, v.s, xka, v.ks.length, xkc, xla, v.l.length, xlc⟩ := by rw [← hW0]; exact at_row (hp_new rfl) rfl rfl rfl rfl rfl rfl
    exact h0.below (B := W0.heap.size) (by rw [← hW0]; simp) hb
  have HW0 := Lib.hid hW0
  have hnum : numOk v = decide (v.n = 0) := by unfold numOk; rw [hk]; rfl
  have htx : txOk v = decide (v.s.size = 0) := by unfold txOk; rw [hk]; rfl
  have hns : nsOk v = v.ks.all isNm := by unfold nsOk; rw [hk]; rfl
  obtain ⟨r, hr⟩ : ∃ r, fields (ctch3 v) v = r := ⟨_, rfl⟩
  rw [hr]
  have HR : Hid (r = (nmOk (ctch3 v) v && (decide (v.n = 0) && (decide (v.s.size = 0) && v.ks.all isNm)))) := by
    show _ = _
    rw [← hr, ← hnum, ← htx, ← hns]
    rfl
  simp only [X.v] at HNM ⊢
  rw [hk] at HNM HF HW0 ⊢
  clear h h3 hb hsz hW0 hnum htx hns hr hk
  generalize nmOk (ctch3 v) v = bn at *
  generalize v.nm = nm at *
  generalize v.n = n at *
  generalize v.s = s at *
  generalize v.ks = ks at *
  generalize v.l.length = ln at *
  go_enter Try.func34, Try.ntmps34
  go_wp2_with fail
  rw [HW0.out]
  clear HW0
  refine (HNM.out _ HB0.out).mono ?_
  rintro e w1 ⟨rfl, hb1⟩
  have HB1 := Lib.hid hb1
  have HBW := Lib.hid (HB0.out.trans (hb1.mono HB0.out.size))
  clear hb1 HNM
  obtain ⟨c0, c1, c2, c3, c4, c5⟩ := HF.out _ HB1.out
  dsimp only at c0 c1 c2 c3 c4 c5
  cases bn
  · have HV : Hid (r = false) := by show _ = _; rw [HR.out]; rfl
    clear HR
    go_wp2_with (go_at_call 60; refine (HCK.out _).mono ?_; rintro e w' ⟨rfl, rfl⟩)
    go_ret
    exact ⟨by rw [HV.out]; rfl, HBW.out⟩
  rw [Bool.true_and] at HR
  by_cases hs : s = ⟨#[]⟩
  · subst hs
    rw [decide_eq_true (show (⟨#[]⟩ : ByteArray).size = 0 from rfl), Bool.true_and] at HR
    rw [decide_eq_true (show (⟨#[]⟩ : ByteArray).size % 2 = 0 from rfl)] at HCK
    -- number
    by_cases hn0 : n = 0
    · rw [decide_eq_true hn0, Bool.true_and] at HR
      subst hn0
      by_cases hks : ks = []
      · subst hks
        have HV : Hid (r = true) := by show _ = _; rw [HR.out]; rfl
        clear HR HST HKN
        go_wp2_with (go_at_call 60; refine (HCK.out _).mono ?_; rintro e w' ⟨rfl, rfl⟩)
        go_loopw [72] (fun i wr => i = .int .i64 0 ∧ w1 = wr) (fun _ _ => 0)
        case atStart => exact ⟨rfl, rfl⟩
        case round =>
          obtain ⟨rfl, rfl⟩ := hrel
          go_wp2_with fail
          go_ret
          exact ⟨by rw [HV.out]; rfl, HBW.out⟩
      have hpos : (0 : Int) < (ks.length : Int) := by
        have := List.length_pos_iff.2 hks
        omega
      clear hks
      go_wp2_with (go_at_call 60; refine (HCK.out _).mono ?_; rintro e w' ⟨rfl, rfl⟩)
      go_loopw [72] (fun i wr => ∃ j : Nat, j ≤ ks.length ∧ i = .int .i64 j ∧ Hid (∀ i, (h : i < ks.length) → i < j → isNm ks[i] = true) ∧ Hid (Below w1.heap.size w1 wr))
        (fun i _ => ks.length - (intOf i).toNat)
      case atStart => exact ⟨0, Nat.zero_le _, rfl, Lib.hid fun i _ h => absurd h (Nat.not_lt_zero _), Lib.hid (Below.refl _ _)⟩
      case round =>
        obtain ⟨j, hj, rfl, hno, hbr⟩ := hrel
        by_cases hlt : j < ks.length
        · obtain ⟨g, o, rfl, hg, hc⟩ := HST.out.at_ hlt
          have hbw := HBW.out.trans (hbr.out.mono HBW.out.size)
          have d0 := (hbw.cell (p := ⟨g, o + j, none⟩) hg).trans hc
          have HN := Lib.hid (HKN.out j hlt)
          have HBR := Lib.hid hbw
          have hj0 : (0 : Int) ≤ (j : Int) := by omega
          have hj1 : (j : Int) < (ks.length : Int) := by omega
          have HNF : Hid (isNm ks[j] = false → r = false) := fun e => by
            rw [HR.out, Bool.eq_false_iff]
            intro h
            rw [List.all_eq_true.1 h _ (List.getElem_mem hlt)] at e
            cases e
          have HNT : Hid (isNm ks[j] = true → ∀ i, (h : i < ks.length) → i < j + 1 → isNm ks[i] = true) := fun e i h hi => by
            rcases Nat.lt_succ_iff_lt_or_eq.1 hi with hi | rfl
            · exact hno.out i h hi
            · exact e
          clear hc hg hbw hno c0 c1 c2 c3 c4 c5
          generalize ks[j] = u at *
          generalize isNm u = q at *
          cases q
          · have HV := Lib.hid (HNF.out rfl)
            clear HNF HNT
            go_wp2_with fail
            refine (HN.out _).mono ?_
            rintro e w2 ⟨rfl, hb2⟩
            have HB2 := Lib.hid (HBR.out.trans (hb2.mono HBR.out.size))
            clear hb2
            go_wp2_with fail
            go_ret
            exact ⟨by rw [HV.out]; rfl, HB2.out⟩
          · have HT := Lib.hid (HNT.out rfl)
            clear HNF HNT
            go_wp2_with fail
            refine (HN.out _).mono ?_
            rintro e w2 ⟨rfl, hb2⟩
            have HB2 := Lib.hid (hbr.out.trans (hb2.mono hbr.out.size))
            clear hb2
            go_wp2_with fail
            go_roundw
            case rel => exact ⟨j + 1, by omega, by go_num, HT, HB2⟩
            case measure => simp [intOf]; omega
        · obtain rfl : j = ks.length := by omega
          have HV : Hid (r = true) := by
            show _ = _
            rw [HR.out, List.all_eq_true]
            intro u hu
            obtain ⟨i, hi, rfl⟩ := List.getElem_of_mem hu
            exact hno.out i hi hi
          have HBR := Lib.hid (HBW.out.trans (hbr.out.mono HBW.out.size))
          clear hno c0 c1 c2 c3 c4 c5
          go_wp2_with fail
          go_ret
          exact ⟨by rw [HV.out]; rfl, HBR.out⟩
    rw [decide_eq_false hn0] at HR
    have q0 : (n == 0) = false := by rw [beq_eq_false_iff_ne]; exact hn0
    have HV : Hid (r = false) := by show _ = _; rw [HR.out]; rfl
    clear HR
    go_wp2_with (go_at_call 60; refine (HCK.out _).mono ?_; rintro e w' ⟨rfl, rfl⟩)
    go_ret
    exact ⟨by rw [HV.out]; rfl, HBW.out⟩
  · have hz : ¬ s.size = 0 := fun h => hs (nil_of h)
    obtain ⟨z1, z2⟩ := str_some hz
    rw [decide_eq_false hz] at HR
    clear hs hz
    have HV : Hid (r = false) := by show _ = _; rw [HR.out]; simp
    clear HR
    go_wp2_with (go_at_call 60; refine (HCK.out _).mono ?_; rintro e w' ⟨rfl, rfl⟩)
    go_ret
    exact ⟨by rw [HV.out]; rfl, HBW.out⟩
set_option maxRecDepth 20000 in
set_option maxHeartbeats 2000000 in
theorem own_else (v : V) (x : X) (w : World) (h : Is w v x) (hb : v.bulk ≤ 4194304) (g1 : ¬ v.k = 1) (g6 : ¬ v.k = 6) (g16 : ¬ v.k = 16) (g2 : ¬ v.k = 2) (g9 : ¬ v.k = 9) (g10 : ¬ v.k = 10) (g39 : ¬ v.k = 39) : Calls Try.prog 34 #[x.v] w fun e w' => e = .returned (.bool (fields (ctch3 v) v)) ∧ Below w.heap.size w w' := by
  have hsz := own_sizes v hb
  have HNM := Lib.hid fun w' (hb' : Below w.heap.size w w') => named_any v x w' (Is.below hb' _ _ h) hsz.1
  have HCK := Lib.hid fun w' => refCheck_any v.s w' (by unfold maxLen; omega)
  have HKN : Hid (∀ (j : Nat) (hj : j < v.ks.length) (w' : World), Calls Try.prog 61 #[.string v.ks[j]] w' fun e w'' => e = .returned (.bool (isNm v.ks[j])) ∧ Below w'.heap.size w' w'') := fun j hj w' => refName_any _ w' (by have := key_le v.ks j hj; omega)
  obtain ⟨xka, xkc, xla, xlc, rfl, -, -, h3, -⟩ := h.open
  have HST := Lib.hid h3
  have hkl : (v.ks.length : Int) ≤ 4194304 := by have := length_le_keysBulk v.ks; omega
  obtain ⟨W0, hW0⟩ : ∃ W0, w.alloc (.cells #[.int .i64 v.k, .string v.nm, .int .i64 v.n, .string v.s, .slice xka v.ks.length xkc, .slice xla v.l.length xlc] 25) = W0 := ⟨_, rfl⟩
  have HB0 : Hid (Below w.heap.size w W0) := by rw [← hW0]; exact below_alloc _ _
  have HF : Hid (∀ w', Below W0.heap.size W0 w' → At w' w.heap.size 0 ⟨v.k, v.nm, v.n, v.s, xka, v.ks.length, xkc, xla, v.l.length, xlc⟩) := fun w' hb => by
    have h0 : At W0 w.heap.size 0 ⟨v.k, v.nm, v.n, v.s, xka, v.ks.length, xkc, xla, v.l.length, xlc⟩ := by rw [← hW0]; exact at_row (hp_new rfl) rfl rfl rfl rfl rfl rfl
    exact h0.below (B := W0.heap.size) (by rw [← hW0]; simp) hb
  have HW0 := Lib.hid hW0
  have hnum : numOk v = decide (v.n = 0) := by unfold numOk; rw [if_neg (by omega), if_neg (by omega)]
  have htx : txOk v = decide (v.s.size = 0) := by unfold txOk; rw [if_neg (by omega)]
  have hns : nsOk v = v.ks.isEmpty := by unfold nsOk; rw [if_neg (by omega)]
  obtain ⟨r, hr⟩ : ∃ r, fields (ctch3 v) v = r := ⟨_, rfl⟩
  rw [hr]
  have HR : Hid (r = (nmOk (ctch3 v) v && (decide (v.n = 0) && (decide (v.s.size = 0) && v.ks.isEmpty)))) := by
    show _ = _
    rw [← hr, ← hnum, ← htx, ← hns]
    rfl
  simp only [X.v] at HNM ⊢
  clear h h3 hb hsz hW0 hnum htx hns hr
  generalize nmOk (ctch3 v) v = bn at *
  generalize v.nm = nm at *
  generalize v.n = n at *
  generalize v.s = s at *
  generalize v.k = k at *
  have b1 : (k == 1) = false := by rw [beq_eq_false_iff_ne]; exact g1
  have b6 : (k == 6) = false := by rw [beq_eq_false_iff_ne]; exact g6
  have b16 : (k == 16) = false := by rw [beq_eq_false_iff_ne]; exact g16
  have b2 : (k == 2) = false := by rw [beq_eq_false_iff_ne]; exact g2
  have b9 : (k == 9) = false := by rw [beq_eq_false_iff_ne]; exact g9
  have b10 : (k == 10) = false := by rw [beq_eq_false_iff_ne]; exact g10
  have b39 : (k == 39) = false := by rw [beq_eq_false_iff_ne]; exact g39
  have p2 : (k != 2) = true := bne_iff_ne.2 g2
  have p9 : (k != 9) = true := bne_iff_ne.2 g9
  have p10 : (k != 10) = true := bne_iff_ne.2 g10
  have p39 : (k != 39) = true := bne_iff_ne.2 g39
  generalize v.ks = ks at *
  generalize v.l.length = ln at *
  go_enter Try.func34, Try.ntmps34
  go_wp2_with fail
  rw [HW0.out]
  clear HW0
  refine (HNM.out _ HB0.out).mono ?_
  rintro e w1 ⟨rfl, hb1⟩
  have HB1 := Lib.hid hb1
  have HBW := Lib.hid (HB0.out.trans (hb1.mono HB0.out.size))
  clear hb1 HNM
  obtain ⟨c0, c1, c2, c3, c4, c5⟩ := HF.out _ HB1.out
  dsimp only at c0 c1 c2 c3 c4 c5
  cases bn
  · have HV : Hid (r = false) := by show _ = _; rw [HR.out]; rfl
    clear HR
    go_wp2_with (go_at_call 60; refine (HCK.out _).mono ?_; rintro e w' ⟨rfl, rfl⟩)
    go_ret
    exact ⟨by rw [HV.out]; rfl, HBW.out⟩
  rw [Bool.true_and] at HR
  by_cases hs : s = ⟨#[]⟩
  · subst hs
    rw [decide_eq_true (show (⟨#[]⟩ : ByteArray).size = 0 from rfl), Bool.true_and] at HR
    rw [decide_eq_true (show (⟨#[]⟩ : ByteArray).size % 2 = 0 from rfl)] at HCK
    -- number
    by_cases hn0 : n = 0
    · rw [decide_eq_true hn0, Bool.true_and] at HR
      subst hn0
      by_cases hks : ks = []
      · subst hks
        have HV : Hid (r = true) := by show _ = _; rw [HR.out]; rfl
        clear HR HST HKN
        go_wp2_with (go_at_call 60; refine (HCK.out _).mono ?_; rintro e w' ⟨rfl, rfl⟩)
        go_loopw [72] (fun i wr => i = .int .i64 0 ∧ w1 = wr) (fun _ _ => 0)
        case atStart => exact ⟨rfl, rfl⟩
        case round =>
          obtain ⟨rfl, rfl⟩ := hrel
          go_wp2_with fail
          go_ret
          exact ⟨by rw [HV.out]; rfl, HBW.out⟩
      · have HV : Hid (r = false) := by
          show _ = _
          rw [HR.out]
          cases ks
          · exact absurd rfl hks
          · rfl
        have hpos : (0 : Int) < (ks.length : Int) := by
          have := List.length_pos_iff.2 hks
          omega
        clear HR HST HKN hks
        generalize ks.length = kn at *
        go_wp2_with (go_at_call 60; refine (HCK.out _).mono ?_; rintro e w' ⟨rfl, rfl⟩)
        go_ret
        exact ⟨by rw [HV.out]; rfl, HBW.out⟩
    rw [decide_eq_false hn0] at HR
    have q0 : (n == 0) = false := by rw [beq_eq_false_iff_ne]; exact hn0
    have HV : Hid (r = false) := by show _ = _; rw [HR.out]; rfl
    clear HR
    go_wp2_with (go_at_call 60; refine (HCK.out _).mono ?_; rintro e w' ⟨rfl, rfl⟩)
    go_ret
    exact ⟨by rw [HV.out]; rfl, HBW.out⟩
  · have hz : ¬ s.size = 0 := fun h => hs (nil_of h)
    obtain ⟨z1, z2⟩ := str_some hz
    rw [decide_eq_false hz] at HR
    clear hs hz
    have HV : Hid (r = false) := by show _ = _; rw [HR.out]; simp
    clear HR
    go_wp2_with (go_at_call 60; refine (HCK.out _).mono ?_; rintro e w' ⟨rfl, rfl⟩)
    go_ret
    exact ⟨by rw [HV.out]; rfl, HBW.out⟩
theorem own_any (v : V) (x : X) (w : World) (h : Is w v x) (hb : v.bulk ≤ 4194304) : Calls Try.prog 34 #[x.v] w fun e w' => e = .returned (.bool (fields (ctch3 v) v)) ∧ Below w.heap.size w w' := by
  by_cases g1 : v.k = 1
  · exact own_1 v x w h hb g1
  by_cases g6 : v.k = 6
  · exact own_6 v x w h hb g6
  by_cases g16 : v.k = 16
  · exact own_16 v x w h hb g16
  by_cases g2 : v.k = 2
  · exact own_2 v x w h hb g2
  by_cases g9 : v.k = 9
  · exact own_9 v x w h hb g9
  by_cases g10 : v.k = 10
  · exact own_10 v x w h hb g10
  by_cases g39 : v.k = 39
  · exact own_39 v x w h hb g39
  exact own_else v x w h hb g1 g6 g16 g2 g9 g10 g39
end Go.Proofs.Ytgehgccgologpaa.R
