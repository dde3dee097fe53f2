/-
  Laid by wip/scope/lay.py out of wip/tree: C2 C3.
  hasChildren, kind for kind. (gen_c.py)
  hasChildren, kind for kind. (gen_c.py)
-/
import Derived.Test.YtgehgccgologpaaC1
namespace Go.Proofs.Ytgehgccgologpaa.R
open Go.RowKit Go.Proofs.Ytgehgccgologpaa Go.Proofs.Ytgehgccgologpaa.T
theorem kids_x {v : V} (h : ¬ v.k = 41 ∧ ¬ v.k = 10 ∧ ¬ v.k = 39 ∧ ¬ v.k = 7 ∧ ¬ v.k = 8 ∧ ¬ v.k = 13 ∧ ¬ v.k = 14 ∧ ¬ v.k = 9 ∧ ¬ v.k = 11 ∧ ¬ v.k = 15 ∧ ¬ v.k = 24 ∧ ¬ v.k = 34 ∧ ¬ v.k = 12 ∧ ¬ v.k = 17 ∧ ¬ v.k = 18 ∧ ¬ v.k = 21 ∧ ¬ v.k = 19 ∧ ¬ v.k = 16 ∧ ¬ v.k = 20 ∧ ¬ v.k = 22 ∧ ¬ v.k = 23 ∧ ¬ v.k = 33 ∧ ¬ v.k = 25 ∧ ¬ v.k = 26 ∧ ¬ v.k = 27 ∧ ¬ v.k = 28 ∧ ¬ v.k = 29 ∧ ¬ v.k = 30 ∧ ¬ v.k = 35 ∧ ¬ v.k = 36 ∧ ¬ v.k = 37 ∧ ¬ v.k = 38) : kids v = v.l.isEmpty := by
  unfold kids
  repeat rw [if_neg (by omega)]
theorem emp_len {α : Type} (l : List α) : l.isEmpty = decide (l.length = 0) := by cases l <;> simp
set_option maxRecDepth 8000 in
set_option maxHeartbeats 2000000 in
theorem hc_x (v : V) (x : X) (w : World) (h : Is w v x) (hk : ¬ v.k = 41 ∧ ¬ v.k = 10 ∧ ¬ v.k = 39 ∧ ¬ v.k = 7 ∧ ¬ v.k = 8 ∧ ¬ v.k = 13 ∧ ¬ v.k = 14 ∧ ¬ v.k = 9 ∧ ¬ v.k = 11 ∧ ¬ v.k = 15 ∧ ¬ v.k = 24 ∧ ¬ v.k = 34 ∧ ¬ v.k = 12 ∧ ¬ v.k = 17 ∧ ¬ v.k = 18 ∧ ¬ v.k = 21 ∧ ¬ v.k = 19 ∧ ¬ v.k = 16 ∧ ¬ v.k = 20 ∧ ¬ v.k = 22 ∧ ¬ v.k = 23 ∧ ¬ v.k = 33 ∧ ¬ v.k = 25 ∧ ¬ v.k = 26 ∧ ¬ v.k = 27 ∧ ¬ v.k = 28 ∧ ¬ v.k = 29 ∧ ¬ v.k = 30 ∧ ¬ v.k = 35 ∧ ¬ v.k = 36 ∧ ¬ v.k = 37 ∧ ¬ v.k = 38) : Calls Try.prog 66 #[x.v] w fun e w' => e = .returned (.bool (kids v)) ∧ Below w.heap.size w w' := by
  obtain ⟨ka, kc, la, lc, rfl, h1, h2, h3, h4⟩ := h.open
  have hbe : ∀ m : Int, ¬ v.k = m → (v.k == m) = false := fun m hm => by rw [beq_eq_false_iff_ne]; exact hm
  have b41 := hbe 41 (by omega)
  have b10 := hbe 10 (by omega)
  have b39 := hbe 39 (by omega)
  have b7 := hbe 7 (by omega)
  have b8 := hbe 8 (by omega)
  have b13 := hbe 13 (by omega)
  have b14 := hbe 14 (by omega)
  have b9 := hbe 9 (by omega)
  have b11 := hbe 11 (by omega)
  have b15 := hbe 15 (by omega)
  have b24 := hbe 24 (by omega)
  have b34 := hbe 34 (by omega)
  have b12 := hbe 12 (by omega)
  have b17 := hbe 17 (by omega)
  have b18 := hbe 18 (by omega)
  have b21 := hbe 21 (by omega)
  have b19 := hbe 19 (by omega)
  have b16 := hbe 16 (by omega)
  have b20 := hbe 20 (by omega)
  have b22 := hbe 22 (by omega)
  have b23 := hbe 23 (by omega)
  have b33 := hbe 33 (by omega)
  have b25 := hbe 25 (by omega)
  have b26 := hbe 26 (by omega)
  have b27 := hbe 27 (by omega)
  have b28 := hbe 28 (by omega)
  have b29 := hbe 29 (by omega)
  have b30 := hbe 30 (by omega)
  have b35 := hbe 35 (by omega)
  have b36 := hbe 36 (by omega)
  have b37 := hbe 37 (by omega)
  have b38 := hbe 38 (by omega)
  rw [kids_x hk, emp_len]
  simp only [X.v]
  clear h h1 h2 h3 h4 hk hbe
  generalize v.k = k at *
  generalize v.nm = nm at *
  generalize v.n = n at *
  generalize v.s = s at *
  generalize v.ks.length = kn at *
  generalize v.l.length = ln at *
  go_enter Try.func66, Try.ntmps66
  go_wp2_with fail
  go_ret
  exact ⟨ret_bool (beq_zero _), below_alloc w _⟩
set_option maxRecDepth 8000 in
set_option maxHeartbeats 2000000 in
theorem hc_13 (v : V) (x : X) (w : World) (h : Is w v x) (hk : v.k = 13) (hl : v.l.length ≤ 4194304) : Calls Try.prog 66 #[x.v] w fun e w' => e = .returned (.bool (kids v)) ∧ Below w.heap.size w w' := by
  obtain ⟨ka, kc, la, lc, rfl, h1, h2, h3, h4⟩ := h.open
  have HC := Lib.hid fun w' (hb : Below w.heap.size w w') => all_any _ isE ent_isExpr v.l (on_isExpr v.l) la lc w' (h4.below hb) hl
  have HV := Lib.hid (kids_13 hk)
  rw [emp_len] at HV
  have HB := Lib.hid (below_alloc w (.cells #[.int .i64 13, .string v.nm, .int .i64 v.n, .string v.s, .slice ka v.ks.length kc, .slice la v.l.length lc] 25))
  simp only [X.v]
  rw [hk]
  clear h h1 h2 h3 h4 hk hl
  rw [HV.out]
  generalize v.l.all isE = Q at *
  generalize v.nm = nm at *
  generalize v.n = n at *
  generalize v.s = s at *
  generalize v.ks.length = kn at *
  generalize v.l.length = ln at *
  go_enter Try.func66, Try.ntmps66
  go_wp2_with fail
  all_goals first
    | (go_ret; refine ⟨ret_bool ?_, below_alloc w _⟩)
    | (refine (HC.out _ HB.out).mono ?_
       rintro e w' ⟨rfl, hb⟩
       have hb2 := HB.out.trans (hb.mono HB.out.size)
       clear hb
       go_wp2_with fail
       go_ret
       refine ⟨ret_bool ?_, hb2⟩)
  all_goals clear HV
  all_goals simp_all
  all_goals omega
set_option maxRecDepth 8000 in
set_option maxHeartbeats 2000000 in
theorem hc_14 (v : V) (x : X) (w : World) (h : Is w v x) (hk : v.k = 14) (hl : v.l.length ≤ 4194304) : Calls Try.prog 66 #[x.v] w fun e w' => e = .returned (.bool (kids v)) ∧ Below w.heap.size w w' := by
  obtain ⟨ka, kc, la, lc, rfl, h1, h2, h3, h4⟩ := h.open
  have HC := Lib.hid fun w' (hb : Below w.heap.size w w') => all_any _ isE ent_isExpr v.l (on_isExpr v.l) la lc w' (h4.below hb) hl
  have HV := Lib.hid (kids_14 hk)
  rw [emp_len] at HV
  have HB := Lib.hid (below_alloc w (.cells #[.int .i64 14, .string v.nm, .int .i64 v.n, .string v.s, .slice ka v.ks.length kc, .slice la v.l.length lc] 25))
  simp only [X.v]
  rw [hk]
  clear h h1 h2 h3 h4 hk hl
  rw [HV.out]
  generalize v.l.all isE = Q at *
  generalize v.nm = nm at *
  generalize v.n = n at *
  generalize v.s = s at *
  generalize v.ks.length = kn at *
  generalize v.l.length = ln at *
  go_enter Try.func66, Try.ntmps66
  go_wp2_with fail
  all_goals first
    | (go_ret; refine ⟨ret_bool ?_, below_alloc w _⟩)
    | (refine (HC.out _ HB.out).mono ?_
       rintro e w' ⟨rfl, hb⟩
       have hb2 := HB.out.trans (hb.mono HB.out.size)
       clear hb
       go_wp2_with fail
       go_ret
       refine ⟨ret_bool ?_, hb2⟩)
  all_goals clear HV
  all_goals simp_all
  all_goals omega
set_option maxRecDepth 8000 in
set_option maxHeartbeats 2000000 in
theorem hc_22 (v : V) (x : X) (w : World) (h : Is w v x) (hk : v.k = 22) (hl : v.l.length ≤ 4194304) : Calls Try.prog 66 #[x.v] w fun e w' => e = .returned (.bool (kids v)) ∧ Below w.heap.size w w' := by
  obtain ⟨ka, kc, la, lc, rfl, h1, h2, h3, h4⟩ := h.open
  have HC := Lib.hid fun w' (hb : Below w.heap.size w w') => all_any _ (isK 23) ent_isDecl v.l (on_isDecl v.l) la lc w' (h4.below hb) hl
  have HV := Lib.hid (kids_22 hk)
  rw [emp_len] at HV
  have HB := Lib.hid (below_alloc w (.cells #[.int .i64 22, .string v.nm, .int .i64 v.n, .string v.s, .slice ka v.ks.length kc, .slice la v.l.length lc] 25))
  simp only [X.v]
  rw [hk]
  clear h h1 h2 h3 h4 hk hl
  rw [HV.out]
  generalize v.l.all (isK 23) = Q at *
  generalize v.nm = nm at *
  generalize v.n = n at *
  generalize v.s = s at *
  generalize v.ks.length = kn at *
  generalize v.l.length = ln at *
  go_enter Try.func66, Try.ntmps66
  go_wp2_with fail
  all_goals first
    | (go_ret; refine ⟨ret_bool ?_, below_alloc w _⟩)
    | (refine (HC.out _ HB.out).mono ?_
       rintro e w' ⟨rfl, hb⟩
       have hb2 := HB.out.trans (hb.mono HB.out.size)
       clear hb
       go_wp2_with fail
       go_ret
       refine ⟨ret_bool ?_, hb2⟩)
  all_goals clear HV
  all_goals simp_all
  all_goals omega
set_option maxRecDepth 8000 in
set_option maxHeartbeats 2000000 in
theorem hc_23 (v : V) (x : X) (w : World) (h : Is w v x) (hk : v.k = 23) (hl : v.l.length ≤ 4194304) : Calls Try.prog 66 #[x.v] w fun e w' => e = .returned (.bool (kids v)) ∧ Below w.heap.size w w' := by
  obtain ⟨ka, kc, la, lc, rfl, h1, h2, h3, h4⟩ := h.open
  have HC := Lib.hid fun w' g (hb : Below w.heap.size w w') (hg : g < w'.heap.size) (c0 : w'.cell? ⟨g, 0, none⟩ = some (.func (.func 93) #[] #[])) => areC1 ent_isExpr (on_isExpr v.l) (c := lc) hg c0 (h4.below hb) hl
  have HV := Lib.hid (kids_23 hk)
  rw [emp_len] at HV
  have HB := Lib.hid (below_alloc w (.cells #[.int .i64 23, .string v.nm, .int .i64 v.n, .string v.s, .slice ka v.ks.length kc, .slice la v.l.length lc] 25))
  have HB2 := Lib.hid (HB.out.trans (below_alloc_le (by simp) (.cells #[.func (.func 93) #[] #[]] 29)))
  simp only [X.v]
  rw [hk]
  clear h h1 h2 h3 h4 hk hl
  rw [HV.out]
  generalize are [isE] v.l = Q at *
  generalize v.nm = nm at *
  generalize v.n = n at *
  generalize v.s = s at *
  generalize v.ks.length = kn at *
  generalize v.l.length = ln at *
  go_enter Try.func66, Try.ntmps66
  go_wp2_with fail
  all_goals first
    | (go_ret; refine ⟨ret_bool ?_, below_alloc w _⟩)
    | (refine (HC.out _ _ HB2.out (by simp) (by simp)).mono ?_
       rintro e w' ⟨rfl, hb⟩
       have hb2 := HB2.out.trans (hb.mono HB2.out.size)
       clear hb
       go_wp2_with fail
       go_ret
       refine ⟨ret_bool ?_, hb2⟩)
  all_goals clear HV
  all_goals simp_all
set_option maxRecDepth 8000 in
set_option maxHeartbeats 2000000 in
theorem hc_33 (v : V) (x : X) (w : World) (h : Is w v x) (hk : v.k = 33) (hl : v.l.length ≤ 4194304) : Calls Try.prog 66 #[x.v] w fun e w' => e = .returned (.bool (kids v)) ∧ Below w.heap.size w w' := by
  obtain ⟨ka, kc, la, lc, rfl, h1, h2, h3, h4⟩ := h.open
  have HC := Lib.hid fun w' g (hb : Below w.heap.size w w') (hg : g < w'.heap.size) (c0 : w'.cell? ⟨g, 0, none⟩ = some (.func (.func 93) #[] #[])) => areC1 ent_isExpr (on_isExpr v.l) (c := lc) hg c0 (h4.below hb) hl
  have HV := Lib.hid (kids_33 hk)
  rw [emp_len] at HV
  have HB := Lib.hid (below_alloc w (.cells #[.int .i64 33, .string v.nm, .int .i64 v.n, .string v.s, .slice ka v.ks.length kc, .slice la v.l.length lc] 25))
  have HB2 := Lib.hid (HB.out.trans (below_alloc_le (by simp) (.cells #[.func (.func 93) #[] #[]] 29)))
  simp only [X.v]
  rw [hk]
  clear h h1 h2 h3 h4 hk hl
  rw [HV.out]
  generalize are [isE] v.l = Q at *
  generalize v.nm = nm at *
  generalize v.n = n at *
  generalize v.s = s at *
  generalize v.ks.length = kn at *
  generalize v.l.length = ln at *
  go_enter Try.func66, Try.ntmps66
  go_wp2_with fail
  all_goals first
    | (go_ret; refine ⟨ret_bool ?_, below_alloc w _⟩)
    | (refine (HC.out _ _ HB2.out (by simp) (by simp)).mono ?_
       rintro e w' ⟨rfl, hb⟩
       have hb2 := HB2.out.trans (hb.mono HB2.out.size)
       clear hb
       go_wp2_with fail
       go_ret
       refine ⟨ret_bool ?_, hb2⟩)
  all_goals clear HV
  all_goals simp_all
end Go.Proofs.Ytgehgccgologpaa.R
namespace Go.Proofs.Ytgehgccgologpaa.R
open Go.RowKit Go.Proofs.Ytgehgccgologpaa Go.Proofs.Ytgehgccgologpaa.T
set_option maxRecDepth 8000 in
set_option maxHeartbeats 2000000 in
theorem hc_26 (v : V) (x : X) (w : World) (h : Is w v x) (hk : v.k = 26) (hl : v.l.length ≤ 4194304) : Calls Try.prog 66 #[x.v] w fun e w' => e = .returned (.bool (kids v)) ∧ Below w.heap.size w w' := by
  obtain ⟨ka, kc, la, lc, rfl, h1, h2, h3, h4⟩ := h.open
  have HC2 := Lib.hid fun w' g (hb : Below w.heap.size w w') (hg : g < w'.heap.size) (c0 : w'.cell? ⟨g, 0, none⟩ = some (.func (.func 93) #[] #[])) (c1 : w'.cell? ⟨g, 1, none⟩ = some (.func (.func 99) #[] #[])) => areC2 ent_isExpr (on_isExpr v.l) ent_isBlock (on_isBlock v.l) (c := lc) hg c0 c1 (h4.below hb) hl
  have HC3 := Lib.hid fun w' g (hb : Below w.heap.size w w') (hg : g < w'.heap.size) (c0 : w'.cell? ⟨g, 0, none⟩ = some (.func (.func 93) #[] #[])) (c1 : w'.cell? ⟨g, 1, none⟩ = some (.func (.func 99) #[] #[])) (c2 : w'.cell? ⟨g, 2, none⟩ = some (.func (.func 99) #[] #[])) => areC3 ent_isExpr (on_isExpr v.l) ent_isBlock (on_isBlock v.l) ent_isBlock (on_isBlock v.l) (c := lc) hg c0 c1 c2 (h4.below hb) hl
  have HV := Lib.hid (kids_26 hk)
  have HB := Lib.hid ((below_alloc w (.cells #[.int .i64 26, .string v.nm, .int .i64 v.n, .string v.s, .slice ka v.ks.length kc, .slice la v.l.length lc] 25)).trans (below_alloc_le (by simp) (.cells #[.func (.func 93) #[] #[], .func (.func 99) #[] #[]] 29)))
  simp only [X.v]
  rw [hk]
  clear h h1 h2 h3 h4 hk hl
  rw [HV.out]
  clear HV
  generalize are [isE, isK 25] v.l = P at *
  generalize are [isE, isK 25, isK 25] v.l = Q at *
  generalize v.nm = nm at *
  generalize v.n = n at *
  generalize v.s = s at *
  generalize v.ks.length = kn at *
  generalize v.l.length = ln at *
  go_enter Try.func66, Try.ntmps66
  go_wp2_with fail
  refine (HC2.out _ _ HB.out (by simp) (by simp) (by simp)).mono ?_
  rintro e w' ⟨rfl, hb⟩
  have hb2 := HB.out.trans (hb.mono HB.out.size)
  clear hb
  cases P
  · go_wp2_with fail
    refine (HC3.out _ _ (hb2.trans (below_alloc_le hb2.size (.cells #[.func (.func 93) #[] #[], .func (.func 99) #[] #[], .func (.func 99) #[] #[]] 29))) (by simp) (by simp) (by simp) (by simp)).mono ?_
    rintro e w2 ⟨rfl, hb⟩
    have hb3 := (hb2.trans (below_alloc_le hb2.size (.cells #[.func (.func 93) #[] #[], .func (.func 99) #[] #[], .func (.func 99) #[] #[]] 29))).trans (hb.mono (by simp; exact Nat.le_succ_of_le hb2.size))
    clear hb
    go_wp2_with fail
    go_ret
    exact ⟨rfl, hb3⟩
  · go_wp2_with fail
    go_ret
    exact ⟨rfl, hb2⟩
theorem row_or {w : World} {A B : Option Addr} {r : List V} (h : Row w B r) (hA : A = B ∨ r.length = 0) : Row w A r := by
  rcases hA with rfl | h0
  · exact h
  · exact .inl (List.eq_nil_of_length_eq_zero h0)
set_option maxRecDepth 8000 in
set_option maxHeartbeats 2000000 in
theorem hc_37 (v : V) (x : X) (w : World) (h : Is w v x) (hk : v.k = 37) (hl : v.l.length ≤ 4194304) (hch : ∀ u ∈ v.l, u.l.length ≤ 4194304) : Calls Try.prog 66 #[x.v] w fun e w' => e = .returned (.bool (kids v)) ∧ Below w.heap.size w w' := by
  obtain ⟨ka, kc, la, lc, rfl, h1, h2, h3, h4⟩ := h.open
  rcases hl0 : v.l with _ | ⟨d, r⟩
  · have HV := Lib.hid (kids_37 hk)
    rw [hl0] at HV
    simp only [X.v]
    rw [hk, HV.out]
    clear h h1 h2 h3 h4 hk hl HV hl0 hch
    simp only [List.length_nil]
    generalize v.nm = nm at *
    generalize v.n = n at *
    generalize v.s = s at *
    generalize v.ks.length = kn at *
    go_enter Try.func66, Try.ntmps66
    go_wp2_with fail
    go_ret
    exact ⟨rfl, below_alloc w _⟩
  have HV := Lib.hid (kids_37 hk)
  rw [hl0] at HV h2 h4 hl hch
  dsimp only at HV
  simp only [X.v]
  rw [hk]
  obtain ⟨g, o, y, rfl, hg, hy, hya, hr⟩ := h4.cons
  have hlr : r.length ≤ 4194304 := by simp only [List.length_cons] at hl; omega
  have hchr : ∀ u ∈ r, u.l.length ≤ 4194304 := fun u hu => hch u (List.mem_cons_of_mem _ hu)
  have HC := Lib.hid fun w' (hb : Below w.heap.size w w') => isExprOrEmpty_any d y w' (Is.below hb _ _ hya)
  have HA := Lib.hid fun w' A c (hb : Below w.heap.size w w') (hA : A = some ⟨g, o + 6, none⟩ ∨ r.length = 0) => all_any _ isIn ent_isInner r (on_isInner r) A c w' (row_or (hr.below hb) hA) hlr
  have HB := Lib.hid (below_alloc w (.cells #[.int .i64 37, .string v.nm, .int .i64 v.n, .string v.s, .slice ka v.ks.length kc, .slice (some ⟨g, o, none⟩) (d :: r).length lc] 25))
  obtain ⟨c0, c1, c2, c3, c4, c5⟩ := hy.below hg HB.out
  obtain ⟨yk, ynm, yn, ys, yka, ykn, ykc, yla, yln, ylc⟩ := y
  dsimp only at c0 c1 c2 c3 c4 c5
  simp only [X.v] at HC
  simp only [List.length_cons] at *
  have hl1 : (0 : Int) < (r.length : Int) + 1 := by omega
  have hl2 : (r.length : Int) ≤ 4194304 := by omega
  have hl3 : (r.length : Int) + 1 ≤ (lc : Int) := by omega
  clear h h1 h2 h3 h4 hk hl hl0 hch hy hya hr hg hlr hchr
  rw [HV.out]
  clear HV
  generalize isEO d = P at *
  generalize r.all isIn = Q at *
  generalize v.nm = nm at *
  generalize v.n = n at *
  generalize v.s = s at *
  generalize v.ks.length = kn at *
  generalize r.length = ln at *
  go_enter Try.func66, Try.ntmps66
  go_wp2_with fail
  refine (HC.out _ HB.out).mono ?_
  rintro e w' ⟨rfl, hb⟩
  have hb2 := HB.out.trans (hb.mono HB.out.size)
  clear hb c0 c1 c2 c3 c4 c5
  cases P
  · go_wp2_with fail
    go_ret
    exact ⟨rfl, hb2⟩
  go_wp2_with fail
  all_goals
    refine (HA.out _ _ _ hb2 (by first | exact .inl rfl | exact .inr (by omega))).mono ?_
    rintro e w2 ⟨rfl, hb⟩
    have hb3 := hb2.trans (hb.mono hb2.size)
    clear hb
    go_wp2_with fail
    go_ret
    exact ⟨rfl, hb3⟩
end Go.Proofs.Ytgehgccgologpaa.R
