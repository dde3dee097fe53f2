/-
  Laid by wip/scope/lay.py out of wip/tree: Q.
  The sorts of nodes, by contract. (gen_q.py)
-/
import Derived.Test.YtgehgccgologpaaQ0
namespace Go.Proofs.Ytgehgccgologpaa.R
open Go.RowKit Go.Proofs.Ytgehgccgologpaa Go.Proofs.Ytgehgccgologpaa.T
/-- a function that asks whether a node is of a sort -/
def Pred (f : Nat) (p : V → Bool) : Prop := ∀ (v : V) (x : X) (w : World), Is w v x → Calls Try.prog f #[x.v] w fun e w' => e = .returned (.bool (p v)) ∧ Below w.heap.size w w'
theorem isProp_any : Pred 94 (isK 9) := by
  intro v x w h
  obtain ⟨ka, kc, la, lc, rfl, h1, h2, h3, h4⟩ := h.open
  have HV : Hid (isK 9 v = decide (v.k = 9)) := Lib.hid rfl
  clear h h1 h2 h3 h4
  simp only [X.v]
  generalize v.nm = nm at *
  generalize v.n = n at *
  generalize v.s = s at *
  generalize v.ks.length = kn at *
  generalize v.l.length = ln at *
  generalize v.k = k at *
  by_cases hk : k = 9
  · rw [decide_eq_true hk] at HV
    subst hk
    go_enter Try.func94, Try.ntmps94
    go_wp2_with fail
    go_ret
    exact ⟨by rw [HV.out]; rfl, below_alloc w _⟩
  · rw [decide_eq_false hk] at HV
    have hb : (k == 9) = false := by rw [beq_eq_false_iff_ne]; exact hk
    clear hk
    go_enter Try.func94, Try.ntmps94
    go_wp2_with fail
    go_ret
    exact ⟨by rw [HV.out]; rfl, below_alloc w _⟩
theorem isDecl_any : Pred 97 (isK 23) := by
  intro v x w h
  obtain ⟨ka, kc, la, lc, rfl, h1, h2, h3, h4⟩ := h.open
  have HV : Hid (isK 23 v = decide (v.k = 23)) := Lib.hid rfl
  clear h h1 h2 h3 h4
  simp only [X.v]
  generalize v.nm = nm at *
  generalize v.n = n at *
  generalize v.s = s at *
  generalize v.ks.length = kn at *
  generalize v.l.length = ln at *
  generalize v.k = k at *
  by_cases hk : k = 23
  · rw [decide_eq_true hk] at HV
    subst hk
    go_enter Try.func97, Try.ntmps97
    go_wp2_with fail
    go_ret
    exact ⟨by rw [HV.out]; rfl, below_alloc w _⟩
  · rw [decide_eq_false hk] at HV
    have hb : (k == 23) = false := by rw [beq_eq_false_iff_ne]; exact hk
    clear hk
    go_enter Try.func97, Try.ntmps97
    go_wp2_with fail
    go_ret
    exact ⟨by rw [HV.out]; rfl, below_alloc w _⟩
theorem isBlock_any : Pred 99 (isK 25) := by
  intro v x w h
  obtain ⟨ka, kc, la, lc, rfl, h1, h2, h3, h4⟩ := h.open
  have HV : Hid (isK 25 v = decide (v.k = 25)) := Lib.hid rfl
  clear h h1 h2 h3 h4
  simp only [X.v]
  generalize v.nm = nm at *
  generalize v.n = n at *
  generalize v.s = s at *
  generalize v.ks.length = kn at *
  generalize v.l.length = ln at *
  generalize v.k = k at *
  by_cases hk : k = 25
  · rw [decide_eq_true hk] at HV
    subst hk
    go_enter Try.func99, Try.ntmps99
    go_wp2_with fail
    go_ret
    exact ⟨by rw [HV.out]; rfl, below_alloc w _⟩
  · rw [decide_eq_false hk] at HV
    have hb : (k == 25) = false := by rw [beq_eq_false_iff_ne]; exact hk
    clear hk
    go_enter Try.func99, Try.ntmps99
    go_wp2_with fail
    go_ret
    exact ⟨by rw [HV.out]; rfl, below_alloc w _⟩
theorem isCase_any : Pred 104 (isK 37) := by
  intro v x w h
  obtain ⟨ka, kc, la, lc, rfl, h1, h2, h3, h4⟩ := h.open
  have HV : Hid (isK 37 v = decide (v.k = 37)) := Lib.hid rfl
  clear h h1 h2 h3 h4
  simp only [X.v]
  generalize v.nm = nm at *
  generalize v.n = n at *
  generalize v.s = s at *
  generalize v.ks.length = kn at *
  generalize v.l.length = ln at *
  generalize v.k = k at *
  by_cases hk : k = 37
  · rw [decide_eq_true hk] at HV
    subst hk
    go_enter Try.func104, Try.ntmps104
    go_wp2_with fail
    go_ret
    exact ⟨by rw [HV.out]; rfl, below_alloc w _⟩
  · rw [decide_eq_false hk] at HV
    have hb : (k == 37) = false := by rw [beq_eq_false_iff_ne]; exact hk
    clear hk
    go_enter Try.func104, Try.ntmps104
    go_wp2_with fail
    go_ret
    exact ⟨by rw [HV.out]; rfl, below_alloc w _⟩
theorem isEmpty_any : Pred 117 (isK 42) := by
  intro v x w h
  obtain ⟨ka, kc, la, lc, rfl, h1, h2, h3, h4⟩ := h.open
  have HV : Hid (isK 42 v = decide (v.k = 42)) := Lib.hid rfl
  clear h h1 h2 h3 h4
  simp only [X.v]
  generalize v.nm = nm at *
  generalize v.n = n at *
  generalize v.s = s at *
  generalize v.ks.length = kn at *
  generalize v.l.length = ln at *
  generalize v.k = k at *
  by_cases hk : k = 42
  · rw [decide_eq_true hk] at HV
    subst hk
    go_enter Try.func117, Try.ntmps117
    go_wp2_with fail
    go_ret
    exact ⟨by rw [HV.out]; rfl, below_alloc w _⟩
  · rw [decide_eq_false hk] at HV
    have hb : (k == 42) = false := by rw [beq_eq_false_iff_ne]; exact hk
    clear hk
    go_enter Try.func117, Try.ntmps117
    go_wp2_with fail
    go_ret
    exact ⟨by rw [HV.out]; rfl, below_alloc w _⟩
theorem isTarget_any : Pred 96 isTg := by
  intro v x w h
  obtain ⟨ka, kc, la, lc, rfl, h1, h2, h3, h4⟩ := h.open
  have HV : Hid (isTg v = decide (v.k = 3 ∨ v.k = 11 ∨ v.k = 12)) := Lib.hid rfl
  clear h h1 h2 h3 h4
  simp only [X.v]
  generalize v.nm = nm at *
  generalize v.n = n at *
  generalize v.s = s at *
  generalize v.ks.length = kn at *
  generalize v.l.length = ln at *
  generalize v.k = k at *
  by_cases h3 : k = 3
  · rw [decide_eq_true (.inl h3)] at HV
    subst h3
    go_enter Try.func96, Try.ntmps96
    go_wp2_with fail
    go_ret
    exact ⟨by rw [HV.out]; rfl, below_alloc w _⟩
  · by_cases h11 : k = 11
    · rw [decide_eq_true (.inr (.inl h11))] at HV
      subst h11
      go_enter Try.func96, Try.ntmps96
      go_wp2_with fail
      go_ret
      exact ⟨by rw [HV.out]; rfl, below_alloc w _⟩
    · by_cases h12 : k = 12
      · rw [decide_eq_true (.inr (.inr h12))] at HV
        subst h12
        go_enter Try.func96, Try.ntmps96
        go_wp2_with fail
        go_ret
        exact ⟨by rw [HV.out]; rfl, below_alloc w _⟩
      · rw [decide_eq_false (by omega)] at HV
        have b3 : (k == 3) = false := by rw [beq_eq_false_iff_ne]; exact h3
        have b11 : (k == 11) = false := by rw [beq_eq_false_iff_ne]; exact h11
        have b12 : (k == 12) = false := by rw [beq_eq_false_iff_ne]; exact h12
        clear h3 h11 h12
        go_enter Try.func96, Try.ntmps96
        go_wp2_with fail
        go_ret
        exact ⟨by rw [HV.out]; rfl, below_alloc w _⟩
set_option maxRecDepth 8000 in
theorem isExpr_any : Pred 93 isE := by
  intro v x w h
  obtain ⟨ka, kc, la, lc, rfl, h1, h2, h3, h4⟩ := h.open
  have HC := Lib.hid fun w' (hb : Below w.heap.size w w') => isProp_any v _ w' (Is.below hb _ _ h)
  have HV : Hid (isE v = (decide (1 ≤ v.k) && (decide (v.k ≤ 21) && !isK 9 v))) := by
    show _ = _
    unfold isE isK
    rw [Bool.eq_iff_iff]
    simp
  simp only [X.v] at HC
  clear h h1 h2 h3 h4
  simp only [X.v]
  generalize v.nm = nm at *
  generalize v.n = n at *
  generalize v.s = s at *
  generalize v.ks.length = kn at *
  generalize v.l.length = ln at *
  generalize isK 9 v = P at *
  generalize v.k = k at *
  by_cases h1 : 1 ≤ k
  · by_cases h2 : k ≤ 21
    · rw [decide_eq_true h1, decide_eq_true h2] at HV
      cases P
      all_goals
        go_enter Try.func93, Try.ntmps93
        go_wp2_with fail
        refine (HC.out _ (below_alloc w _)).mono ?_
        rintro e w' ⟨rfl, hb⟩
        have hb2 := (below_alloc w (.cells #[.int .i64 k, .string nm, .int .i64 n, .string s, .slice ka kn kc, .slice la ln lc] 25)).trans (hb.mono (by simp))
        clear hb
        go_wp2_with fail
        go_ret
        exact ⟨by rw [HV.out]; rfl, hb2⟩
    · rw [decide_eq_false h2, Bool.false_and, Bool.and_false] at HV
      have h2' : 21 < k := by omega
      clear HC h2
      go_enter Try.func93, Try.ntmps93
      go_wp2_with fail
      go_ret
      exact ⟨by rw [HV.out]; rfl, below_alloc w _⟩
  · rw [decide_eq_false h1, Bool.false_and] at HV
    have h1' : k < 1 := by omega
    clear HC h1
    go_enter Try.func93, Try.ntmps93
    go_wp2_with fail
    go_ret
    exact ⟨by rw [HV.out]; rfl, below_alloc w _⟩
set_option maxRecDepth 8000 in
theorem isStatement_any : Pred 92 isSt := by
  intro v x w h
  obtain ⟨ka, kc, la, lc, rfl, h1, h2, h3, h4⟩ := h.open
  have HC := Lib.hid fun w' (hb : Below w.heap.size w w') => isDecl_any v _ w' (Is.below hb _ _ h)
  have HD := Lib.hid fun w' (hb : Below w.heap.size w w') => isCase_any v _ w' (Is.below hb _ _ h)
  have HV : Hid (isSt v = (decide (22 ≤ v.k) && (decide (v.k ≤ 40) && (!isK 23 v && !isK 37 v)))) := by
    show _ = _
    unfold isSt isK
    rw [Bool.eq_iff_iff]
    simp
  simp only [X.v] at HC HD
  clear h h1 h2 h3 h4
  simp only [X.v]
  generalize v.nm = nm at *
  generalize v.n = n at *
  generalize v.s = s at *
  generalize v.ks.length = kn at *
  generalize v.l.length = ln at *
  generalize isK 23 v = P at *
  generalize isK 37 v = Q at *
  generalize v.k = k at *
  have HB := Lib.hid (below_alloc w (.cells #[.int .i64 k, .string nm, .int .i64 n, .string s, .slice ka kn kc, .slice la ln lc] 25))
  by_cases h1 : 22 ≤ k
  · by_cases h2 : k ≤ 40
    · rw [decide_eq_true h1, decide_eq_true h2] at HV
      cases P with
      | true =>
        clear HD
        go_enter Try.func92, Try.ntmps92
        go_wp2_with fail
        refine (HC.out _ (below_alloc w _)).mono ?_
        rintro e w' ⟨rfl, hb⟩
        have hb2 := HB.out.trans (hb.mono (by simp))
        clear hb
        go_wp2_with fail
        go_ret
        exact ⟨by rw [HV.out]; rfl, hb2⟩
      | false =>
        cases Q
        all_goals
          go_enter Try.func92, Try.ntmps92
          go_wp2_with fail
          refine (HC.out _ (below_alloc w _)).mono ?_
          rintro e w' ⟨rfl, hb⟩
          have hb2 := HB.out.trans (hb.mono (by simp))
          have hbx : ∀ j, w'.cell? ⟨w.heap.size, j, none⟩ = (w.alloc (.cells #[.int .i64 k, .string nm, .int .i64 n, .string s, .slice ka kn kc, .slice la ln lc] 25)).cell? ⟨w.heap.size, j, none⟩ := fun j => hb.cell (p := ⟨w.heap.size, j, none⟩) (by simp)
          have c0 := hbx 0
          have c1 := hbx 1
          have c2 := hbx 2
          have c3 := hbx 3
          have c4 := hbx 4
          have c5 := hbx 5
          simp at c0 c1 c2 c3 c4 c5
          clear hb hbx
          go_wp2_with fail
          refine (HD.out _ hb2).mono ?_
          rintro e w2 ⟨rfl, hb3⟩
          have hb4 := hb2.trans (hb3.mono hb2.size)
          clear hb3 c0 c1 c2 c3 c4 c5
          go_wp2_with fail
          go_ret
          exact ⟨by rw [HV.out]; rfl, hb4⟩
    · rw [decide_eq_false h2, Bool.false_and, Bool.and_false] at HV
      have h2' : 40 < k := by omega
      clear HC HD h2
      go_enter Try.func92, Try.ntmps92
      go_wp2_with fail
      go_ret
      exact ⟨by rw [HV.out]; rfl, HB.out⟩
  · rw [decide_eq_false h1, Bool.false_and] at HV
    have h1' : k < 22 := by omega
    clear HC HD h1
    go_enter Try.func92, Try.ntmps92
    go_wp2_with fail
    go_ret
    exact ⟨by rw [HV.out]; rfl, HB.out⟩
set_option maxRecDepth 8000 in
theorem isExprOrEmpty_any : Pred 101 isEO := by
  intro v x w h
  obtain ⟨ka, kc, la, lc, rfl, h1, h2, h3, h4⟩ := h.open
  have HC := Lib.hid fun w' (hb : Below w.heap.size w w') => isExpr_any v _ w' (Is.below hb _ _ h)
  have HD := Lib.hid fun w' (hb : Below w.heap.size w w') => isEmpty_any v _ w' (Is.below hb _ _ h)
  have HV : Hid (isEO v = (isE v || isK 42 v)) := Lib.hid rfl
  simp only [X.v] at HC HD
  clear h h1 h2 h3 h4
  simp only [X.v]
  generalize v.nm = nm at *
  generalize v.n = n at *
  generalize v.s = s at *
  generalize v.ks.length = kn at *
  generalize v.l.length = ln at *
  generalize isE v = P at *
  generalize isK 42 v = Q at *
  generalize v.k = k at *
  have HB := Lib.hid (below_alloc w (.cells #[.int .i64 k, .string nm, .int .i64 n, .string s, .slice ka kn kc, .slice la ln lc] 25))
  cases P with
  | true =>
    clear HD
    go_enter Try.func101, Try.ntmps101
    go_wp2_with fail
    refine (HC.out _ (below_alloc w _)).mono ?_
    rintro e w' ⟨rfl, hb⟩
    have hb2 := HB.out.trans (hb.mono (by simp))
    clear hb
    go_wp2_with fail
    go_ret
    exact ⟨by rw [HV.out]; rfl, hb2⟩
  | false =>
    cases Q
    all_goals
      go_enter Try.func101, Try.ntmps101
      go_wp2_with fail
      refine (HC.out _ (below_alloc w _)).mono ?_
      rintro e w' ⟨rfl, hb⟩
      have hb2 := HB.out.trans (hb.mono (by simp))
      have hbx : ∀ j, w'.cell? ⟨w.heap.size, j, none⟩ = (w.alloc (.cells #[.int .i64 k, .string nm, .int .i64 n, .string s, .slice ka kn kc, .slice la ln lc] 25)).cell? ⟨w.heap.size, j, none⟩ := fun j => hb.cell (p := ⟨w.heap.size, j, none⟩) (by simp)
      have c0 := hbx 0
      have c1 := hbx 1
      have c2 := hbx 2
      have c3 := hbx 3
      have c4 := hbx 4
      have c5 := hbx 5
      simp at c0 c1 c2 c3 c4 c5
      clear hbx
      clear hb
      go_wp2_with fail
      refine (HD.out _ hb2).mono ?_
      rintro e w2 ⟨rfl, hb3⟩
      have hb4 := hb2.trans (hb3.mono hb2.size)
      clear hb3 c0 c1 c2 c3 c4 c5
      go_wp2_with fail
      go_ret
      exact ⟨by rw [HV.out]; rfl, hb4⟩
set_option maxRecDepth 8000 in
theorem isBlockOrEmpty_any : Pred 103 isBO := by
  intro v x w h
  obtain ⟨ka, kc, la, lc, rfl, h1, h2, h3, h4⟩ := h.open
  have HC := Lib.hid fun w' (hb : Below w.heap.size w w') => isBlock_any v _ w' (Is.below hb _ _ h)
  have HD := Lib.hid fun w' (hb : Below w.heap.size w w') => isEmpty_any v _ w' (Is.below hb _ _ h)
  have HV : Hid (isBO v = (isK 25 v || isK 42 v)) := Lib.hid rfl
  simp only [X.v] at HC HD
  clear h h1 h2 h3 h4
  simp only [X.v]
  generalize v.nm = nm at *
  generalize v.n = n at *
  generalize v.s = s at *
  generalize v.ks.length = kn at *
  generalize v.l.length = ln at *
  generalize isK 25 v = P at *
  generalize isK 42 v = Q at *
  generalize v.k = k at *
  have HB := Lib.hid (below_alloc w (.cells #[.int .i64 k, .string nm, .int .i64 n, .string s, .slice ka kn kc, .slice la ln lc] 25))
  cases P with
  | true =>
    clear HD
    go_enter Try.func103, Try.ntmps103
    go_wp2_with fail
    refine (HC.out _ (below_alloc w _)).mono ?_
    rintro e w' ⟨rfl, hb⟩
    have hb2 := HB.out.trans (hb.mono (by simp))
    clear hb
    go_wp2_with fail
    go_ret
    exact ⟨by rw [HV.out]; rfl, hb2⟩
  | false =>
    cases Q
    all_goals
      go_enter Try.func103, Try.ntmps103
      go_wp2_with fail
      refine (HC.out _ (below_alloc w _)).mono ?_
      rintro e w' ⟨rfl, hb⟩
      have hb2 := HB.out.trans (hb.mono (by simp))
      have hbx : ∀ j, w'.cell? ⟨w.heap.size, j, none⟩ = (w.alloc (.cells #[.int .i64 k, .string nm, .int .i64 n, .string s, .slice ka kn kc, .slice la ln lc] 25)).cell? ⟨w.heap.size, j, none⟩ := fun j => hb.cell (p := ⟨w.heap.size, j, none⟩) (by simp)
      have c0 := hbx 0
      have c1 := hbx 1
      have c2 := hbx 2
      have c3 := hbx 3
      have c4 := hbx 4
      have c5 := hbx 5
      simp at c0 c1 c2 c3 c4 c5
      clear hbx
      clear hb
      go_wp2_with fail
      refine (HD.out _ hb2).mono ?_
      rintro e w2 ⟨rfl, hb3⟩
      have hb4 := hb2.trans (hb3.mono hb2.size)
      clear hb3 c0 c1 c2 c3 c4 c5
      go_wp2_with fail
      go_ret
      exact ⟨by rw [HV.out]; rfl, hb4⟩
set_option maxRecDepth 8000 in
theorem isInner_any : Pred 98 isIn := by
  intro v x w h
  obtain ⟨ka, kc, la, lc, rfl, h1, h2, h3, h4⟩ := h.open
  have HC := Lib.hid fun w' (hb : Below w.heap.size w w') => isStatement_any v _ w' (Is.below hb _ _ h)
  have HV : Hid (isIn v = (isSt v && decide (¬ v.k = 39))) := Lib.hid rfl
  simp only [X.v] at HC
  clear h h1 h2 h3 h4
  simp only [X.v]
  generalize v.nm = nm at *
  generalize v.n = n at *
  generalize v.s = s at *
  generalize v.ks.length = kn at *
  generalize v.l.length = ln at *
  generalize isSt v = P at *
  generalize v.k = k at *
  have HB := Lib.hid (below_alloc w (.cells #[.int .i64 k, .string nm, .int .i64 n, .string s, .slice ka kn kc, .slice la ln lc] 25))
  cases P with
  | false =>
    go_enter Try.func98, Try.ntmps98
    go_wp2_with fail
    refine (HC.out _ (below_alloc w _)).mono ?_
    rintro e w' ⟨rfl, hb⟩
    have hb2 := HB.out.trans (hb.mono (by simp))
    clear hb
    go_wp2_with fail
    go_ret
    exact ⟨by rw [HV.out]; rfl, hb2⟩
  | true =>
    by_cases h39 : k = 39
    · rw [decide_eq_false (fun h => h h39)] at HV
      subst h39
      go_enter Try.func98, Try.ntmps98
      go_wp2_with fail
      refine (HC.out _ (below_alloc w _)).mono ?_
      rintro e w' ⟨rfl, hb⟩
      have hb2 := HB.out.trans (hb.mono (by simp))
      have hbx : ∀ j, w'.cell? ⟨w.heap.size, j, none⟩ = (w.alloc (.cells #[.int .i64 39, .string nm, .int .i64 n, .string s, .slice ka kn kc, .slice la ln lc] 25)).cell? ⟨w.heap.size, j, none⟩ := fun j => hb.cell (p := ⟨w.heap.size, j, none⟩) (by simp)
      have c0 := hbx 0
      have c1 := hbx 1
      have c2 := hbx 2
      have c3 := hbx 3
      have c4 := hbx 4
      have c5 := hbx 5
      simp at c0 c1 c2 c3 c4 c5
      clear hbx
      clear hb
      go_wp2_with fail
      go_ret
      exact ⟨by rw [HV.out]; rfl, hb2⟩
    · rw [decide_eq_true h39] at HV
      have hb39 : (k != 39) = true := by rw [bne_iff_ne]; exact h39
      clear h39
      go_enter Try.func98, Try.ntmps98
      go_wp2_with fail
      refine (HC.out _ (below_alloc w _)).mono ?_
      rintro e w' ⟨rfl, hb⟩
      have hb2 := HB.out.trans (hb.mono (by simp))
      have hbx : ∀ j, w'.cell? ⟨w.heap.size, j, none⟩ = (w.alloc (.cells #[.int .i64 k, .string nm, .int .i64 n, .string s, .slice ka kn kc, .slice la ln lc] 25)).cell? ⟨w.heap.size, j, none⟩ := fun j => hb.cell (p := ⟨w.heap.size, j, none⟩) (by simp)
      have c0 := hbx 0
      have c1 := hbx 1
      have c2 := hbx 2
      have c3 := hbx 3
      have c4 := hbx 4
      have c5 := hbx 5
      simp at c0 c1 c2 c3 c4 c5
      clear hbx
      clear hb
      go_wp2_with fail
      go_ret
      exact ⟨by rw [HV.out]; rfl, hb2⟩
set_option maxRecDepth 8000 in
theorem isBeginning_any : Pred 100 isBg := by
  intro v x w h
  obtain ⟨ka, kc, la, lc, rfl, h1, h2, h3, h4⟩ := h.open
  have HC := Lib.hid fun w' (hb : Below w.heap.size w w') => isExprOrEmpty_any v _ w' (Is.below hb _ _ h)
  have HV : Hid (isBg v = (decide (v.k = 22) || isEO v)) := Lib.hid rfl
  simp only [X.v] at HC
  clear h h1 h2 h3 h4
  simp only [X.v]
  generalize v.nm = nm at *
  generalize v.n = n at *
  generalize v.s = s at *
  generalize v.ks.length = kn at *
  generalize v.l.length = ln at *
  generalize isEO v = P at *
  generalize v.k = k at *
  have HB := Lib.hid (below_alloc w (.cells #[.int .i64 k, .string nm, .int .i64 n, .string s, .slice ka kn kc, .slice la ln lc] 25))
  by_cases h22 : k = 22
  · rw [decide_eq_true h22] at HV
    subst h22
    clear HC
    go_enter Try.func100, Try.ntmps100
    go_wp2_with fail
    go_ret
    exact ⟨by rw [HV.out]; rfl, HB.out⟩
  · rw [decide_eq_false h22] at HV
    have hb22 : (k == 22) = false := by rw [beq_eq_false_iff_ne]; exact h22
    clear h22
    cases P
    all_goals
      go_enter Try.func100, Try.ntmps100
      go_wp2_with fail
      refine (HC.out _ (below_alloc w _)).mono ?_
      rintro e w' ⟨rfl, hb⟩
      have hb2 := HB.out.trans (hb.mono (by simp))
      clear hb
      go_wp2_with fail
      go_ret
      exact ⟨by rw [HV.out]; rfl, hb2⟩
set_option maxRecDepth 8000 in
theorem isDefault_any (v : V) (x : X) (w : World) (h : Is w v x) (hlen : v.l.length ≤ 4194304) : Calls Try.prog 105 #[x.v] w fun e w' => e = .returned (.bool (isDf v)) ∧ Below w.heap.size w w' := by
  obtain ⟨ka, kc, la, lc, rfl, h1, h2, h3, h4⟩ := h.open
  rcases hl : v.l with _ | ⟨c, r⟩
  · have HV : Hid (isDf v = false) := by
      show _ = _
      unfold isDf
      rw [hl]
    rw [hl] at h2 h4
    clear h h1 h2 h3 h4 hl
    simp only [X.v, List.length_nil]
    generalize v.nm = nm at *
    generalize v.n = n at *
    generalize v.s = s at *
    generalize v.ks.length = kn at *
    generalize v.k = k at *
    go_enter Try.func105, Try.ntmps105
    go_wp2_with fail
    go_ret
    exact ⟨by rw [HV.out]; rfl, below_alloc w _⟩
  · have HV : Hid (isDf v = isK 42 c) := by
      show _ = _
      unfold isDf
      rw [hl]
    rw [hl] at hlen h2 h4
    obtain ⟨g, o, y, rfl, hg, hy, hya⟩ : ∃ g o y, la = some ⟨g, o, none⟩ ∧ g < w.heap.size ∧ At w g (o) y ∧ IsB w w.heap.size c y := by
      obtain ⟨g, o, y, e, hg, hy, hya, _⟩ := h4.cons
      exact ⟨g, o, y, e, hg, hy, hya⟩
    have HC := Lib.hid fun w' (hb : Below w.heap.size w w') => isEmpty_any c y w' (Is.below hb _ _ hya)
    have HB := Lib.hid (below_alloc w (.cells #[.int .i64 v.k, .string v.nm, .int .i64 v.n, .string v.s, .slice ka v.ks.length kc, .slice (some ⟨g, o, none⟩) (r.length + 1) lc] 25))
    obtain ⟨c0, c1, c2, c3, c4, c5⟩ := hy.below hg HB.out
    obtain ⟨yk, ynm, yn, ys, yka, ykn, ykc, yla, yln, ylc⟩ := y
    dsimp only at c0 c1 c2 c3 c4 c5
    have hl1 : (0 : Int) < (r.length : Int) + 1 := by omega
    have hl2 : (r.length : Int) ≤ 4194304 := by simp only [List.length_cons] at hlen; omega
    clear h h1 h2 h3 h4 hl hy hya hg
    simp only [X.v, List.length_cons] at *
    generalize isK 42 c = P at *
    generalize v.nm = nm at *
    generalize v.n = n at *
    generalize v.s = s at *
    generalize v.ks.length = kn at *
    generalize v.k = k at *
    cases P
    all_goals
      go_enter Try.func105, Try.ntmps105
      go_wp2_with fail
      refine (HC.out _ HB.out).mono ?_
      rintro e w' ⟨rfl, hb⟩
      have hb2 := HB.out.trans (hb.mono HB.out.size)
      clear hb c0 c1 c2 c3 c4 c5
      go_wp2_with fail
      go_ret
      exact ⟨by rw [HV.out]; rfl, hb2⟩
set_option maxRecDepth 8000 in
theorem catches_any (v : V) (x : X) (w : World) (h : Is w v x) (hlen : v.l.length ≤ 4194304) : Calls Try.prog 90 #[x.v] w fun e w' => e = .returned (.bool (ctch v)) ∧ Below w.heap.size w w' := by
  obtain ⟨ka, kc, la, lc, rfl, h1, h2, h3, h4⟩ := h.open
  rcases hl : v.l with _ | ⟨d, _ | ⟨c, r⟩⟩
  · have HV : Hid (ctch v = false) := by
      show _ = _
      unfold ctch
      rw [hl]
    rw [hl] at h2 h4
    clear h h1 h2 h3 h4 hl
    simp only [X.v, List.length_nil]
    generalize v.nm = nm at *
    generalize v.n = n at *
    generalize v.s = s at *
    generalize v.ks.length = kn at *
    generalize v.k = k at *
    go_enter Try.func90, Try.ntmps90
    go_wp2_with fail
    go_ret
    exact ⟨by rw [HV.out]; rfl, below_alloc w _⟩
  · have HV : Hid (ctch v = false) := by
      show _ = _
      unfold ctch
      rw [hl]
    rw [hl] at h2 h4
    clear h h1 h2 h3 h4 hl
    simp only [X.v, List.length_cons, List.length_nil, Nat.zero_add]
    generalize v.nm = nm at *
    generalize v.n = n at *
    generalize v.s = s at *
    generalize v.ks.length = kn at *
    generalize v.k = k at *
    go_enter Try.func90, Try.ntmps90
    go_wp2_with fail
    go_ret
    exact ⟨by rw [HV.out]; rfl, below_alloc w _⟩
  · have HV : Hid (ctch v = isK 25 c) := by
      show _ = _
      unfold ctch
      rw [hl]
    rw [hl] at hlen h2 h4
    obtain ⟨g, o, y, rfl, hg, hy, hya⟩ : ∃ g o y, la = some ⟨g, o, none⟩ ∧ g < w.heap.size ∧ At w g (o + 6) y ∧ IsB w w.heap.size c y := by
      obtain ⟨g, o, _, e, hg, _, _, hr⟩ := h4.cons
      obtain ⟨g2, o2, y, e2, _, hy, hya, _⟩ := hr.cons
      cases e2
      exact ⟨g, o, y, e, hg, hy, hya⟩
    have HC := Lib.hid fun w' (hb : Below w.heap.size w w') => isBlock_any c y w' (Is.below hb _ _ hya)
    have HB := Lib.hid (below_alloc w (.cells #[.int .i64 v.k, .string v.nm, .int .i64 v.n, .string v.s, .slice ka v.ks.length kc, .slice (some ⟨g, o, none⟩) (r.length + 1 + 1) lc] 25))
    obtain ⟨c0, c1, c2, c3, c4, c5⟩ := hy.below hg HB.out
    obtain ⟨yk, ynm, yn, ys, yka, ykn, ykc, yla, yln, ylc⟩ := y
    dsimp only at c0 c1 c2 c3 c4 c5
    have hl1 : (1 : Int) < (r.length : Int) + 2 := by omega
    have hl2 : (r.length : Int) ≤ 4194304 := by simp only [List.length_cons] at hlen; omega
    clear h h1 h2 h3 h4 hl hy hya hg
    simp only [X.v, List.length_cons] at *
    generalize isK 25 c = P at *
    generalize v.nm = nm at *
    generalize v.n = n at *
    generalize v.s = s at *
    generalize v.ks.length = kn at *
    generalize v.k = k at *
    cases P
    all_goals
      go_enter Try.func90, Try.ntmps90
      go_wp2_with fail
      refine (HC.out _ HB.out).mono ?_
      rintro e w' ⟨rfl, hb⟩
      have hb2 := HB.out.trans (hb.mono HB.out.size)
      clear hb c0 c1 c2 c3 c4 c5
      go_wp2_with fail
      go_ret
      exact ⟨by rw [HV.out]; rfl, hb2⟩
end Go.Proofs.Ytgehgccgologpaa.R
