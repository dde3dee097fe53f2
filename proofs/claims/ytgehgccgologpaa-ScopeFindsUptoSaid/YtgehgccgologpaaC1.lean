/-
  Laid by wip/scope/lay.py out of wip/tree: C1.
  hasChildren, kind for kind. (gen_c.py)
-/
import Derived.Test.YtgehgccgologpaaIt
namespace Go.Proofs.Ytgehgccgologpaa.R
open Go.RowKit Go.Proofs.Ytgehgccgologpaa Go.Proofs.Ytgehgccgologpaa.T
theorem below_alloc_le {B : Nat} {w : World} (h : B ≤ w.heap.size) (o : Obj) : Below B w (w.alloc o) := (below_alloc w o).mono h
set_option maxRecDepth 8000 in
set_option maxHeartbeats 2000000 in
theorem hc_10 (v : V) (x : X) (w : World) (h : Is w v x) (hk : v.k = 10) (hl : v.l.length ≤ 4194304) : Calls Try.prog 66 #[x.v] w fun e w' => e = .returned (.bool (kids v)) ∧ Below w.heap.size w w' := by
  obtain ⟨ka, kc, la, lc, rfl, h1, h2, h3, h4⟩ := h.open
  have HC := Lib.hid fun w' (hb : Below w.heap.size w w') => all_any _ isSt ent_isStatement v.l (on_isStatement v.l) la lc w' (h4.below hb) hl
  rw [kids_10 hk]
  have HB := Lib.hid (below_alloc w (.cells #[.int .i64 10, .string v.nm, .int .i64 v.n, .string v.s, .slice ka v.ks.length kc, .slice la v.l.length lc] 25))
  simp only [X.v]
  rw [hk]
  clear h h1 h2 h3 h4 hk hl
  generalize v.l.all isSt = Q at *
  generalize v.nm = nm at *
  generalize v.n = n at *
  generalize v.s = s at *
  generalize v.ks.length = kn at *
  generalize v.l.length = ln at *
  go_enter Try.func66, Try.ntmps66
  go_wp2_with fail
  refine (HC.out _ HB.out).mono ?_
  rintro e w' ⟨rfl, hb⟩
  have hb2 := HB.out.trans (hb.mono HB.out.size)
  clear hb
  go_wp2_with fail
  go_ret
  exact ⟨rfl, hb2⟩
set_option maxRecDepth 8000 in
set_option maxHeartbeats 2000000 in
theorem hc_39 (v : V) (x : X) (w : World) (h : Is w v x) (hk : v.k = 39) (hl : v.l.length ≤ 4194304) : Calls Try.prog 66 #[x.v] w fun e w' => e = .returned (.bool (kids v)) ∧ Below w.heap.size w w' := by
  obtain ⟨ka, kc, la, lc, rfl, h1, h2, h3, h4⟩ := h.open
  have HC := Lib.hid fun w' (hb : Below w.heap.size w w') => all_any _ isSt ent_isStatement v.l (on_isStatement v.l) la lc w' (h4.below hb) hl
  rw [kids_39 hk]
  have HB := Lib.hid (below_alloc w (.cells #[.int .i64 39, .string v.nm, .int .i64 v.n, .string v.s, .slice ka v.ks.length kc, .slice la v.l.length lc] 25))
  simp only [X.v]
  rw [hk]
  clear h h1 h2 h3 h4 hk hl
  generalize v.l.all isSt = Q at *
  generalize v.nm = nm at *
  generalize v.n = n at *
  generalize v.s = s at *
  generalize v.ks.length = kn at *
  generalize v.l.length = ln at *
  go_enter Try.func66, Try.ntmps66
  go_wp2_with fail
  refine (HC.out _ HB.out).mono ?_
  rintro e w' ⟨rfl, hb⟩
  have hb2 := HB.out.trans (hb.mono HB.out.size)
  clear hb
  go_wp2_with fail
  go_ret
  exact ⟨rfl, hb2⟩
set_option maxRecDepth 8000 in
set_option maxHeartbeats 2000000 in
theorem hc_41 (v : V) (x : X) (w : World) (h : Is w v x) (hk : v.k = 41) (hl : v.l.length ≤ 4194304) : Calls Try.prog 66 #[x.v] w fun e w' => e = .returned (.bool (kids v)) ∧ Below w.heap.size w w' := by
  obtain ⟨ka, kc, la, lc, rfl, h1, h2, h3, h4⟩ := h.open
  have HC := Lib.hid fun w' (hb : Below w.heap.size w w') => all_any _ isSt ent_isStatement v.l (on_isStatement v.l) la lc w' (h4.below hb) hl
  rw [kids_41 hk]
  have HB := Lib.hid (below_alloc w (.cells #[.int .i64 41, .string v.nm, .int .i64 v.n, .string v.s, .slice ka v.ks.length kc, .slice la v.l.length lc] 25))
  simp only [X.v]
  rw [hk]
  clear h h1 h2 h3 h4 hk hl
  generalize v.l.all isSt = Q at *
  generalize v.nm = nm at *
  generalize v.n = n at *
  generalize v.s = s at *
  generalize v.ks.length = kn at *
  generalize v.l.length = ln at *
  go_enter Try.func66, Try.ntmps66
  go_wp2_with fail
  refine (HC.out _ HB.out).mono ?_
  rintro e w' ⟨rfl, hb⟩
  have hb2 := HB.out.trans (hb.mono HB.out.size)
  clear hb
  go_wp2_with fail
  go_ret
  exact ⟨rfl, hb2⟩
set_option maxRecDepth 8000 in
set_option maxHeartbeats 2000000 in
theorem hc_7 (v : V) (x : X) (w : World) (h : Is w v x) (hk : v.k = 7) (hl : v.l.length ≤ 4194304) : Calls Try.prog 66 #[x.v] w fun e w' => e = .returned (.bool (kids v)) ∧ Below w.heap.size w w' := by
  obtain ⟨ka, kc, la, lc, rfl, h1, h2, h3, h4⟩ := h.open
  have HC := Lib.hid fun w' (hb : Below w.heap.size w w') => all_any _ isE ent_isExpr v.l (on_isExpr v.l) la lc w' (h4.below hb) hl
  rw [kids_7 hk]
  have HB := Lib.hid (below_alloc w (.cells #[.int .i64 7, .string v.nm, .int .i64 v.n, .string v.s, .slice ka v.ks.length kc, .slice la v.l.length lc] 25))
  simp only [X.v]
  rw [hk]
  clear h h1 h2 h3 h4 hk hl
  generalize v.l.all isE = Q at *
  generalize v.nm = nm at *
  generalize v.n = n at *
  generalize v.s = s at *
  generalize v.ks.length = kn at *
  generalize v.l.length = ln at *
  go_enter Try.func66, Try.ntmps66
  go_wp2_with fail
  refine (HC.out _ HB.out).mono ?_
  rintro e w' ⟨rfl, hb⟩
  have hb2 := HB.out.trans (hb.mono HB.out.size)
  clear hb
  go_wp2_with fail
  go_ret
  exact ⟨rfl, hb2⟩
set_option maxRecDepth 8000 in
set_option maxHeartbeats 2000000 in
theorem hc_8 (v : V) (x : X) (w : World) (h : Is w v x) (hk : v.k = 8) (hl : v.l.length ≤ 4194304) : Calls Try.prog 66 #[x.v] w fun e w' => e = .returned (.bool (kids v)) ∧ Below w.heap.size w w' := by
  obtain ⟨ka, kc, la, lc, rfl, h1, h2, h3, h4⟩ := h.open
  have HC := Lib.hid fun w' (hb : Below w.heap.size w w') => all_any _ (isK 9) ent_isProp v.l (on_isProp v.l) la lc w' (h4.below hb) hl
  rw [kids_8 hk]
  have HB := Lib.hid (below_alloc w (.cells #[.int .i64 8, .string v.nm, .int .i64 v.n, .string v.s, .slice ka v.ks.length kc, .slice la v.l.length lc] 25))
  simp only [X.v]
  rw [hk]
  clear h h1 h2 h3 h4 hk hl
  generalize v.l.all (isK 9) = Q at *
  generalize v.nm = nm at *
  generalize v.n = n at *
  generalize v.s = s at *
  generalize v.ks.length = kn at *
  generalize v.l.length = ln at *
  go_enter Try.func66, Try.ntmps66
  go_wp2_with fail
  refine (HC.out _ HB.out).mono ?_
  rintro e w' ⟨rfl, hb⟩
  have hb2 := HB.out.trans (hb.mono HB.out.size)
  clear hb
  go_wp2_with fail
  go_ret
  exact ⟨rfl, hb2⟩
set_option maxRecDepth 8000 in
set_option maxHeartbeats 2000000 in
theorem hc_25 (v : V) (x : X) (w : World) (h : Is w v x) (hk : v.k = 25) (hl : v.l.length ≤ 4194304) : Calls Try.prog 66 #[x.v] w fun e w' => e = .returned (.bool (kids v)) ∧ Below w.heap.size w w' := by
  obtain ⟨ka, kc, la, lc, rfl, h1, h2, h3, h4⟩ := h.open
  have HC := Lib.hid fun w' (hb : Below w.heap.size w w') => all_any _ isIn ent_isInner v.l (on_isInner v.l) la lc w' (h4.below hb) hl
  rw [kids_25 hk]
  have HB := Lib.hid (below_alloc w (.cells #[.int .i64 25, .string v.nm, .int .i64 v.n, .string v.s, .slice ka v.ks.length kc, .slice la v.l.length lc] 25))
  simp only [X.v]
  rw [hk]
  clear h h1 h2 h3 h4 hk hl
  generalize v.l.all isIn = Q at *
  generalize v.nm = nm at *
  generalize v.n = n at *
  generalize v.s = s at *
  generalize v.ks.length = kn at *
  generalize v.l.length = ln at *
  go_enter Try.func66, Try.ntmps66
  go_wp2_with fail
  refine (HC.out _ HB.out).mono ?_
  rintro e w' ⟨rfl, hb⟩
  have hb2 := HB.out.trans (hb.mono HB.out.size)
  clear hb
  go_wp2_with fail
  go_ret
  exact ⟨rfl, hb2⟩
set_option maxRecDepth 8000 in
set_option maxHeartbeats 2000000 in
theorem hc_9 (v : V) (x : X) (w : World) (h : Is w v x) (hk : v.k = 9) (hl : v.l.length ≤ 4194304) : Calls Try.prog 66 #[x.v] w fun e w' => e = .returned (.bool (kids v)) ∧ Below w.heap.size w w' := by
  obtain ⟨ka, kc, la, lc, rfl, h1, h2, h3, h4⟩ := h.open
  have HC := Lib.hid fun w' g (hb : Below w.heap.size w w') (hg : g < w'.heap.size) (c0 : w'.cell? ⟨g, 0, none⟩ = some (.func (.func 93) #[] #[])) => areC1 ent_isExpr (on_isExpr v.l) (c := lc) hg c0 (h4.below hb) hl
  rw [kids_9 hk]
  have HB := Lib.hid (((below_alloc w (.cells #[.int .i64 9, .string v.nm, .int .i64 v.n, .string v.s, .slice ka v.ks.length kc, .slice la v.l.length lc] 25))).trans (below_alloc_le (by simp) (.cells #[.func (.func 93) #[] #[]] 29)))
  simp only [X.v]
  rw [hk]
  clear h h1 h2 h3 h4 hk hl
  generalize are [isE] v.l = Q at *
  generalize v.nm = nm at *
  generalize v.n = n at *
  generalize v.s = s at *
  generalize v.ks.length = kn at *
  generalize v.l.length = ln at *
  go_enter Try.func66, Try.ntmps66
  go_wp2_with fail
  refine (HC.out _ _ HB.out (by simp) (by simp)).mono ?_
  rintro e w' ⟨rfl, hb⟩
  have hb2 := HB.out.trans (hb.mono HB.out.size)
  clear hb
  go_wp2_with fail
  go_ret
  exact ⟨rfl, hb2⟩
set_option maxRecDepth 8000 in
set_option maxHeartbeats 2000000 in
theorem hc_11 (v : V) (x : X) (w : World) (h : Is w v x) (hk : v.k = 11) (hl : v.l.length ≤ 4194304) : Calls Try.prog 66 #[x.v] w fun e w' => e = .returned (.bool (kids v)) ∧ Below w.heap.size w w' := by
  obtain ⟨ka, kc, la, lc, rfl, h1, h2, h3, h4⟩ := h.open
  have HC := Lib.hid fun w' g (hb : Below w.heap.size w w') (hg : g < w'.heap.size) (c0 : w'.cell? ⟨g, 0, none⟩ = some (.func (.func 93) #[] #[])) => areC1 ent_isExpr (on_isExpr v.l) (c := lc) hg c0 (h4.below hb) hl
  rw [kids_11 hk]
  have HB := Lib.hid (((below_alloc w (.cells #[.int .i64 11, .string v.nm, .int .i64 v.n, .string v.s, .slice ka v.ks.length kc, .slice la v.l.length lc] 25))).trans (below_alloc_le (by simp) (.cells #[.func (.func 93) #[] #[]] 29)))
  simp only [X.v]
  rw [hk]
  clear h h1 h2 h3 h4 hk hl
  generalize are [isE] v.l = Q at *
  generalize v.nm = nm at *
  generalize v.n = n at *
  generalize v.s = s at *
  generalize v.ks.length = kn at *
  generalize v.l.length = ln at *
  go_enter Try.func66, Try.ntmps66
  go_wp2_with fail
  refine (HC.out _ _ HB.out (by simp) (by simp)).mono ?_
  rintro e w' ⟨rfl, hb⟩
  have hb2 := HB.out.trans (hb.mono HB.out.size)
  clear hb
  go_wp2_with fail
  go_ret
  exact ⟨rfl, hb2⟩
set_option maxRecDepth 8000 in
set_option maxHeartbeats 2000000 in
theorem hc_15 (v : V) (x : X) (w : World) (h : Is w v x) (hk : v.k = 15) (hl : v.l.length ≤ 4194304) : Calls Try.prog 66 #[x.v] w fun e w' => e = .returned (.bool (kids v)) ∧ Below w.heap.size w w' := by
  obtain ⟨ka, kc, la, lc, rfl, h1, h2, h3, h4⟩ := h.open
  have HC := Lib.hid fun w' g (hb : Below w.heap.size w w') (hg : g < w'.heap.size) (c0 : w'.cell? ⟨g, 0, none⟩ = some (.func (.func 93) #[] #[])) => areC1 ent_isExpr (on_isExpr v.l) (c := lc) hg c0 (h4.below hb) hl
  rw [kids_15 hk]
  have HB := Lib.hid (((below_alloc w (.cells #[.int .i64 15, .string v.nm, .int .i64 v.n, .string v.s, .slice ka v.ks.length kc, .slice la v.l.length lc] 25))).trans (below_alloc_le (by simp) (.cells #[.func (.func 93) #[] #[]] 29)))
  simp only [X.v]
  rw [hk]
  clear h h1 h2 h3 h4 hk hl
  generalize are [isE] v.l = Q at *
  generalize v.nm = nm at *
  generalize v.n = n at *
  generalize v.s = s at *
  generalize v.ks.length = kn at *
  generalize v.l.length = ln at *
  go_enter Try.func66, Try.ntmps66
  go_wp2_with fail
  refine (HC.out _ _ HB.out (by simp) (by simp)).mono ?_
  rintro e w' ⟨rfl, hb⟩
  have hb2 := HB.out.trans (hb.mono HB.out.size)
  clear hb
  go_wp2_with fail
  go_ret
  exact ⟨rfl, hb2⟩
set_option maxRecDepth 8000 in
set_option maxHeartbeats 2000000 in
theorem hc_24 (v : V) (x : X) (w : World) (h : Is w v x) (hk : v.k = 24) (hl : v.l.length ≤ 4194304) : Calls Try.prog 66 #[x.v] w fun e w' => e = .returned (.bool (kids v)) ∧ Below w.heap.size w w' := by
  obtain ⟨ka, kc, la, lc, rfl, h1, h2, h3, h4⟩ := h.open
  have HC := Lib.hid fun w' g (hb : Below w.heap.size w w') (hg : g < w'.heap.size) (c0 : w'.cell? ⟨g, 0, none⟩ = some (.func (.func 93) #[] #[])) => areC1 ent_isExpr (on_isExpr v.l) (c := lc) hg c0 (h4.below hb) hl
  rw [kids_24 hk]
  have HB := Lib.hid (((below_alloc w (.cells #[.int .i64 24, .string v.nm, .int .i64 v.n, .string v.s, .slice ka v.ks.length kc, .slice la v.l.length lc] 25))).trans (below_alloc_le (by simp) (.cells #[.func (.func 93) #[] #[]] 29)))
  simp only [X.v]
  rw [hk]
  clear h h1 h2 h3 h4 hk hl
  generalize are [isE] v.l = Q at *
  generalize v.nm = nm at *
  generalize v.n = n at *
  generalize v.s = s at *
  generalize v.ks.length = kn at *
  generalize v.l.length = ln at *
  go_enter Try.func66, Try.ntmps66
  go_wp2_with fail
  refine (HC.out _ _ HB.out (by simp) (by simp)).mono ?_
  rintro e w' ⟨rfl, hb⟩
  have hb2 := HB.out.trans (hb.mono HB.out.size)
  clear hb
  go_wp2_with fail
  go_ret
  exact ⟨rfl, hb2⟩
set_option maxRecDepth 8000 in
set_option maxHeartbeats 2000000 in
theorem hc_34 (v : V) (x : X) (w : World) (h : Is w v x) (hk : v.k = 34) (hl : v.l.length ≤ 4194304) : Calls Try.prog 66 #[x.v] w fun e w' => e = .returned (.bool (kids v)) ∧ Below w.heap.size w w' := by
  obtain ⟨ka, kc, la, lc, rfl, h1, h2, h3, h4⟩ := h.open
  have HC := Lib.hid fun w' g (hb : Below w.heap.size w w') (hg : g < w'.heap.size) (c0 : w'.cell? ⟨g, 0, none⟩ = some (.func (.func 93) #[] #[])) => areC1 ent_isExpr (on_isExpr v.l) (c := lc) hg c0 (h4.below hb) hl
  rw [kids_34 hk]
  have HB := Lib.hid (((below_alloc w (.cells #[.int .i64 34, .string v.nm, .int .i64 v.n, .string v.s, .slice ka v.ks.length kc, .slice la v.l.length lc] 25))).trans (below_alloc_le (by simp) (.cells #[.func (.func 93) #[] #[]] 29)))
  simp only [X.v]
  rw [hk]
  clear h h1 h2 h3 h4 hk hl
  generalize are [isE] v.l = Q at *
  generalize v.nm = nm at *
  generalize v.n = n at *
  generalize v.s = s at *
  generalize v.ks.length = kn at *
  generalize v.l.length = ln at *
  go_enter Try.func66, Try.ntmps66
  go_wp2_with fail
  refine (HC.out _ _ HB.out (by simp) (by simp)).mono ?_
  rintro e w' ⟨rfl, hb⟩
  have hb2 := HB.out.trans (hb.mono HB.out.size)
  clear hb
  go_wp2_with fail
  go_ret
  exact ⟨rfl, hb2⟩
set_option maxRecDepth 8000 in
set_option maxHeartbeats 2000000 in
theorem hc_12 (v : V) (x : X) (w : World) (h : Is w v x) (hk : v.k = 12) (hl : v.l.length ≤ 4194304) : Calls Try.prog 66 #[x.v] w fun e w' => e = .returned (.bool (kids v)) ∧ Below w.heap.size w w' := by
  obtain ⟨ka, kc, la, lc, rfl, h1, h2, h3, h4⟩ := h.open
  have HC := Lib.hid fun w' g (hb : Below w.heap.size w w') (hg : g < w'.heap.size) (c0 : w'.cell? ⟨g, 0, none⟩ = some (.func (.func 93) #[] #[])) (c1 : w'.cell? ⟨g, 1, none⟩ = some (.func (.func 93) #[] #[])) => areC2 ent_isExpr (on_isExpr v.l) ent_isExpr (on_isExpr v.l) (c := lc) hg c0 c1 (h4.below hb) hl
  rw [kids_12 hk]
  have HB := Lib.hid (((below_alloc w (.cells #[.int .i64 12, .string v.nm, .int .i64 v.n, .string v.s, .slice ka v.ks.length kc, .slice la v.l.length lc] 25))).trans (below_alloc_le (by simp) (.cells #[.func (.func 93) #[] #[], .func (.func 93) #[] #[]] 29)))
  simp only [X.v]
  rw [hk]
  clear h h1 h2 h3 h4 hk hl
  generalize are [isE, isE] v.l = Q at *
  generalize v.nm = nm at *
  generalize v.n = n at *
  generalize v.s = s at *
  generalize v.ks.length = kn at *
  generalize v.l.length = ln at *
  go_enter Try.func66, Try.ntmps66
  go_wp2_with fail
  refine (HC.out _ _ HB.out (by simp) (by simp) (by simp)).mono ?_
  rintro e w' ⟨rfl, hb⟩
  have hb2 := HB.out.trans (hb.mono HB.out.size)
  clear hb
  go_wp2_with fail
  go_ret
  exact ⟨rfl, hb2⟩
set_option maxRecDepth 8000 in
set_option maxHeartbeats 2000000 in
theorem hc_17 (v : V) (x : X) (w : World) (h : Is w v x) (hk : v.k = 17) (hl : v.l.length ≤ 4194304) : Calls Try.prog 66 #[x.v] w fun e w' => e = .returned (.bool (kids v)) ∧ Below w.heap.size w w' := by
  obtain ⟨ka, kc, la, lc, rfl, h1, h2, h3, h4⟩ := h.open
  have HC := Lib.hid fun w' g (hb : Below w.heap.size w w') (hg : g < w'.heap.size) (c0 : w'.cell? ⟨g, 0, none⟩ = some (.func (.func 93) #[] #[])) (c1 : w'.cell? ⟨g, 1, none⟩ = some (.func (.func 93) #[] #[])) => areC2 ent_isExpr (on_isExpr v.l) ent_isExpr (on_isExpr v.l) (c := lc) hg c0 c1 (h4.below hb) hl
  rw [kids_17 hk]
  have HB := Lib.hid (((below_alloc w (.cells #[.int .i64 17, .string v.nm, .int .i64 v.n, .string v.s, .slice ka v.ks.length kc, .slice la v.l.length lc] 25))).trans (below_alloc_le (by simp) (.cells #[.func (.func 93) #[] #[], .func (.func 93) #[] #[]] 29)))
  simp only [X.v]
  rw [hk]
  clear h h1 h2 h3 h4 hk hl
  generalize are [isE, isE] v.l = Q at *
  generalize v.nm = nm at *
  generalize v.n = n at *
  generalize v.s = s at *
  generalize v.ks.length = kn at *
  generalize v.l.length = ln at *
  go_enter Try.func66, Try.ntmps66
  go_wp2_with fail
  refine (HC.out _ _ HB.out (by simp) (by simp) (by simp)).mono ?_
  rintro e w' ⟨rfl, hb⟩
  have hb2 := HB.out.trans (hb.mono HB.out.size)
  clear hb
  go_wp2_with fail
  go_ret
  exact ⟨rfl, hb2⟩
set_option maxRecDepth 8000 in
set_option maxHeartbeats 2000000 in
theorem hc_18 (v : V) (x : X) (w : World) (h : Is w v x) (hk : v.k = 18) (hl : v.l.length ≤ 4194304) : Calls Try.prog 66 #[x.v] w fun e w' => e = .returned (.bool (kids v)) ∧ Below w.heap.size w w' := by
  obtain ⟨ka, kc, la, lc, rfl, h1, h2, h3, h4⟩ := h.open
  have HC := Lib.hid fun w' g (hb : Below w.heap.size w w') (hg : g < w'.heap.size) (c0 : w'.cell? ⟨g, 0, none⟩ = some (.func (.func 93) #[] #[])) (c1 : w'.cell? ⟨g, 1, none⟩ = some (.func (.func 93) #[] #[])) => areC2 ent_isExpr (on_isExpr v.l) ent_isExpr (on_isExpr v.l) (c := lc) hg c0 c1 (h4.below hb) hl
  rw [kids_18 hk]
  have HB := Lib.hid (((below_alloc w (.cells #[.int .i64 18, .string v.nm, .int .i64 v.n, .string v.s, .slice ka v.ks.length kc, .slice la v.l.length lc] 25))).trans (below_alloc_le (by simp) (.cells #[.func (.func 93) #[] #[], .func (.func 93) #[] #[]] 29)))
  simp only [X.v]
  rw [hk]
  clear h h1 h2 h3 h4 hk hl
  generalize are [isE, isE] v.l = Q at *
  generalize v.nm = nm at *
  generalize v.n = n at *
  generalize v.s = s at *
  generalize v.ks.length = kn at *
  generalize v.l.length = ln at *
  go_enter Try.func66, Try.ntmps66
  go_wp2_with fail
  refine (HC.out _ _ HB.out (by simp) (by simp) (by simp)).mono ?_
  rintro e w' ⟨rfl, hb⟩
  have hb2 := HB.out.trans (hb.mono HB.out.size)
  clear hb
  go_wp2_with fail
  go_ret
  exact ⟨rfl, hb2⟩
set_option maxRecDepth 8000 in
set_option maxHeartbeats 2000000 in
theorem hc_21 (v : V) (x : X) (w : World) (h : Is w v x) (hk : v.k = 21) (hl : v.l.length ≤ 4194304) : Calls Try.prog 66 #[x.v] w fun e w' => e = .returned (.bool (kids v)) ∧ Below w.heap.size w w' := by
  obtain ⟨ka, kc, la, lc, rfl, h1, h2, h3, h4⟩ := h.open
  have HC := Lib.hid fun w' g (hb : Below w.heap.size w w') (hg : g < w'.heap.size) (c0 : w'.cell? ⟨g, 0, none⟩ = some (.func (.func 93) #[] #[])) (c1 : w'.cell? ⟨g, 1, none⟩ = some (.func (.func 93) #[] #[])) => areC2 ent_isExpr (on_isExpr v.l) ent_isExpr (on_isExpr v.l) (c := lc) hg c0 c1 (h4.below hb) hl
  rw [kids_21 hk]
  have HB := Lib.hid (((below_alloc w (.cells #[.int .i64 21, .string v.nm, .int .i64 v.n, .string v.s, .slice ka v.ks.length kc, .slice la v.l.length lc] 25))).trans (below_alloc_le (by simp) (.cells #[.func (.func 93) #[] #[], .func (.func 93) #[] #[]] 29)))
  simp only [X.v]
  rw [hk]
  clear h h1 h2 h3 h4 hk hl
  generalize are [isE, isE] v.l = Q at *
  generalize v.nm = nm at *
  generalize v.n = n at *
  generalize v.s = s at *
  generalize v.ks.length = kn at *
  generalize v.l.length = ln at *
  go_enter Try.func66, Try.ntmps66
  go_wp2_with fail
  refine (HC.out _ _ HB.out (by simp) (by simp) (by simp)).mono ?_
  rintro e w' ⟨rfl, hb⟩
  have hb2 := HB.out.trans (hb.mono HB.out.size)
  clear hb
  go_wp2_with fail
  go_ret
  exact ⟨rfl, hb2⟩
set_option maxRecDepth 8000 in
set_option maxHeartbeats 2000000 in
theorem hc_19 (v : V) (x : X) (w : World) (h : Is w v x) (hk : v.k = 19) (hl : v.l.length ≤ 4194304) : Calls Try.prog 66 #[x.v] w fun e w' => e = .returned (.bool (kids v)) ∧ Below w.heap.size w w' := by
  obtain ⟨ka, kc, la, lc, rfl, h1, h2, h3, h4⟩ := h.open
  have HC := Lib.hid fun w' g (hb : Below w.heap.size w w') (hg : g < w'.heap.size) (c0 : w'.cell? ⟨g, 0, none⟩ = some (.func (.func 93) #[] #[])) (c1 : w'.cell? ⟨g, 1, none⟩ = some (.func (.func 93) #[] #[])) (c2 : w'.cell? ⟨g, 2, none⟩ = some (.func (.func 93) #[] #[])) => areC3 ent_isExpr (on_isExpr v.l) ent_isExpr (on_isExpr v.l) ent_isExpr (on_isExpr v.l) (c := lc) hg c0 c1 c2 (h4.below hb) hl
  rw [kids_19 hk]
  have HB := Lib.hid (((below_alloc w (.cells #[.int .i64 19, .string v.nm, .int .i64 v.n, .string v.s, .slice ka v.ks.length kc, .slice la v.l.length lc] 25))).trans (below_alloc_le (by simp) (.cells #[.func (.func 93) #[] #[], .func (.func 93) #[] #[], .func (.func 93) #[] #[]] 29)))
  simp only [X.v]
  rw [hk]
  clear h h1 h2 h3 h4 hk hl
  generalize are [isE, isE, isE] v.l = Q at *
  generalize v.nm = nm at *
  generalize v.n = n at *
  generalize v.s = s at *
  generalize v.ks.length = kn at *
  generalize v.l.length = ln at *
  go_enter Try.func66, Try.ntmps66
  go_wp2_with fail
  refine (HC.out _ _ HB.out (by simp) (by simp) (by simp) (by simp)).mono ?_
  rintro e w' ⟨rfl, hb⟩
  have hb2 := HB.out.trans (hb.mono HB.out.size)
  clear hb
  go_wp2_with fail
  go_ret
  exact ⟨rfl, hb2⟩
set_option maxRecDepth 8000 in
set_option maxHeartbeats 2000000 in
theorem hc_16 (v : V) (x : X) (w : World) (h : Is w v x) (hk : v.k = 16) (hl : v.l.length ≤ 4194304) : Calls Try.prog 66 #[x.v] w fun e w' => e = .returned (.bool (kids v)) ∧ Below w.heap.size w w' := by
  obtain ⟨ka, kc, la, lc, rfl, h1, h2, h3, h4⟩ := h.open
  have HC := Lib.hid fun w' g (hb : Below w.heap.size w w') (hg : g < w'.heap.size) (c0 : w'.cell? ⟨g, 0, none⟩ = some (.func (.func 96) #[] #[])) => areC1 ent_IsTarget (on_IsTarget v.l) (c := lc) hg c0 (h4.below hb) hl
  rw [kids_16 hk]
  have HB := Lib.hid (((below_alloc w (.cells #[.int .i64 16, .string v.nm, .int .i64 v.n, .string v.s, .slice ka v.ks.length kc, .slice la v.l.length lc] 25))).trans (below_alloc_le (by simp) (.cells #[.func (.func 96) #[] #[]] 29)))
  simp only [X.v]
  rw [hk]
  clear h h1 h2 h3 h4 hk hl
  generalize are [isTg] v.l = Q at *
  generalize v.nm = nm at *
  generalize v.n = n at *
  generalize v.s = s at *
  generalize v.ks.length = kn at *
  generalize v.l.length = ln at *
  go_enter Try.func66, Try.ntmps66
  go_wp2_with fail
  refine (HC.out _ _ HB.out (by simp) (by simp)).mono ?_
  rintro e w' ⟨rfl, hb⟩
  have hb2 := HB.out.trans (hb.mono HB.out.size)
  clear hb
  go_wp2_with fail
  go_ret
  exact ⟨rfl, hb2⟩
set_option maxRecDepth 8000 in
set_option maxHeartbeats 2000000 in
theorem hc_20 (v : V) (x : X) (w : World) (h : Is w v x) (hk : v.k = 20) (hl : v.l.length ≤ 4194304) : Calls Try.prog 66 #[x.v] w fun e w' => e = .returned (.bool (kids v)) ∧ Below w.heap.size w w' := by
  obtain ⟨ka, kc, la, lc, rfl, h1, h2, h3, h4⟩ := h.open
  have HC := Lib.hid fun w' g (hb : Below w.heap.size w w') (hg : g < w'.heap.size) (c0 : w'.cell? ⟨g, 0, none⟩ = some (.func (.func 96) #[] #[])) (c1 : w'.cell? ⟨g, 1, none⟩ = some (.func (.func 93) #[] #[])) => areC2 ent_IsTarget (on_IsTarget v.l) ent_isExpr (on_isExpr v.l) (c := lc) hg c0 c1 (h4.below hb) hl
  rw [kids_20 hk]
  have HB := Lib.hid (((below_alloc w (.cells #[.int .i64 20, .string v.nm, .int .i64 v.n, .string v.s, .slice ka v.ks.length kc, .slice la v.l.length lc] 25))).trans (below_alloc_le (by simp) (.cells #[.func (.func 96) #[] #[], .func (.func 93) #[] #[]] 29)))
  simp only [X.v]
  rw [hk]
  clear h h1 h2 h3 h4 hk hl
  generalize are [isTg, isE] v.l = Q at *
  generalize v.nm = nm at *
  generalize v.n = n at *
  generalize v.s = s at *
  generalize v.ks.length = kn at *
  generalize v.l.length = ln at *
  go_enter Try.func66, Try.ntmps66
  go_wp2_with fail
  refine (HC.out _ _ HB.out (by simp) (by simp) (by simp)).mono ?_
  rintro e w' ⟨rfl, hb⟩
  have hb2 := HB.out.trans (hb.mono HB.out.size)
  clear hb
  go_wp2_with fail
  go_ret
  exact ⟨rfl, hb2⟩
set_option maxRecDepth 8000 in
set_option maxHeartbeats 2000000 in
theorem hc_27 (v : V) (x : X) (w : World) (h : Is w v x) (hk : v.k = 27) (hl : v.l.length ≤ 4194304) : Calls Try.prog 66 #[x.v] w fun e w' => e = .returned (.bool (kids v)) ∧ Below w.heap.size w w' := by
  obtain ⟨ka, kc, la, lc, rfl, h1, h2, h3, h4⟩ := h.open
  have HC := Lib.hid fun w' g (hb : Below w.heap.size w w') (hg : g < w'.heap.size) (c0 : w'.cell? ⟨g, 0, none⟩ = some (.func (.func 93) #[] #[])) (c1 : w'.cell? ⟨g, 1, none⟩ = some (.func (.func 99) #[] #[])) => areC2 ent_isExpr (on_isExpr v.l) ent_isBlock (on_isBlock v.l) (c := lc) hg c0 c1 (h4.below hb) hl
  rw [kids_27 hk]
  have HB := Lib.hid (((below_alloc w (.cells #[.int .i64 27, .string v.nm, .int .i64 v.n, .string v.s, .slice ka v.ks.length kc, .slice la v.l.length lc] 25))).trans (below_alloc_le (by simp) (.cells #[.func (.func 93) #[] #[], .func (.func 99) #[] #[]] 29)))
  simp only [X.v]
  rw [hk]
  clear h h1 h2 h3 h4 hk hl
  generalize are [isE, isK 25] v.l = Q at *
  generalize v.nm = nm at *
  generalize v.n = n at *
  generalize v.s = s at *
  generalize v.ks.length = kn at *
  generalize v.l.length = ln at *
  go_enter Try.func66, Try.ntmps66
  go_wp2_with fail
  refine (HC.out _ _ HB.out (by simp) (by simp) (by simp)).mono ?_
  rintro e w' ⟨rfl, hb⟩
  have hb2 := HB.out.trans (hb.mono HB.out.size)
  clear hb
  go_wp2_with fail
  go_ret
  exact ⟨rfl, hb2⟩
set_option maxRecDepth 8000 in
set_option maxHeartbeats 2000000 in
theorem hc_28 (v : V) (x : X) (w : World) (h : Is w v x) (hk : v.k = 28) (hl : v.l.length ≤ 4194304) : Calls Try.prog 66 #[x.v] w fun e w' => e = .returned (.bool (kids v)) ∧ Below w.heap.size w w' := by
  obtain ⟨ka, kc, la, lc, rfl, h1, h2, h3, h4⟩ := h.open
  have HC := Lib.hid fun w' g (hb : Below w.heap.size w w') (hg : g < w'.heap.size) (c0 : w'.cell? ⟨g, 0, none⟩ = some (.func (.func 99) #[] #[])) (c1 : w'.cell? ⟨g, 1, none⟩ = some (.func (.func 93) #[] #[])) => areC2 ent_isBlock (on_isBlock v.l) ent_isExpr (on_isExpr v.l) (c := lc) hg c0 c1 (h4.below hb) hl
  rw [kids_28 hk]
  have HB := Lib.hid (((below_alloc w (.cells #[.int .i64 28, .string v.nm, .int .i64 v.n, .string v.s, .slice ka v.ks.length kc, .slice la v.l.length lc] 25))).trans (below_alloc_le (by simp) (.cells #[.func (.func 99) #[] #[], .func (.func 93) #[] #[]] 29)))
  simp only [X.v]
  rw [hk]
  clear h h1 h2 h3 h4 hk hl
  generalize are [isK 25, isE] v.l = Q at *
  generalize v.nm = nm at *
  generalize v.n = n at *
  generalize v.s = s at *
  generalize v.ks.length = kn at *
  generalize v.l.length = ln at *
  go_enter Try.func66, Try.ntmps66
  go_wp2_with fail
  refine (HC.out _ _ HB.out (by simp) (by simp) (by simp)).mono ?_
  rintro e w' ⟨rfl, hb⟩
  have hb2 := HB.out.trans (hb.mono HB.out.size)
  clear hb
  go_wp2_with fail
  go_ret
  exact ⟨rfl, hb2⟩
set_option maxRecDepth 8000 in
set_option maxHeartbeats 2000000 in
theorem hc_29 (v : V) (x : X) (w : World) (h : Is w v x) (hk : v.k = 29) (hl : v.l.length ≤ 4194304) : Calls Try.prog 66 #[x.v] w fun e w' => e = .returned (.bool (kids v)) ∧ Below w.heap.size w w' := by
  obtain ⟨ka, kc, la, lc, rfl, h1, h2, h3, h4⟩ := h.open
  have HC := Lib.hid fun w' g (hb : Below w.heap.size w w') (hg : g < w'.heap.size) (c0 : w'.cell? ⟨g, 0, none⟩ = some (.func (.func 100) #[] #[])) (c1 : w'.cell? ⟨g, 1, none⟩ = some (.func (.func 101) #[] #[])) (c2 : w'.cell? ⟨g, 2, none⟩ = some (.func (.func 101) #[] #[])) (c3 : w'.cell? ⟨g, 3, none⟩ = some (.func (.func 99) #[] #[])) => areC4 ent_isBeginning (on_isBeginning v.l) ent_isExprOrEmpty (on_isExprOrEmpty v.l) ent_isExprOrEmpty (on_isExprOrEmpty v.l) ent_isBlock (on_isBlock v.l) (c := lc) hg c0 c1 c2 c3 (h4.below hb) hl
  rw [kids_29 hk]
  have HB := Lib.hid (((below_alloc w (.cells #[.int .i64 29, .string v.nm, .int .i64 v.n, .string v.s, .slice ka v.ks.length kc, .slice la v.l.length lc] 25))).trans (below_alloc_le (by simp) (.cells #[.func (.func 100) #[] #[], .func (.func 101) #[] #[], .func (.func 101) #[] #[], .func (.func 99) #[] #[]] 29)))
  simp only [X.v]
  rw [hk]
  clear h h1 h2 h3 h4 hk hl
  generalize are [isBg, isEO, isEO, isK 25] v.l = Q at *
  generalize v.nm = nm at *
  generalize v.n = n at *
  generalize v.s = s at *
  generalize v.ks.length = kn at *
  generalize v.l.length = ln at *
  go_enter Try.func66, Try.ntmps66
  go_wp2_with fail
  refine (HC.out _ _ HB.out (by simp) (by simp) (by simp) (by simp) (by simp)).mono ?_
  rintro e w' ⟨rfl, hb⟩
  have hb2 := HB.out.trans (hb.mono HB.out.size)
  clear hb
  go_wp2_with fail
  go_ret
  exact ⟨rfl, hb2⟩
set_option maxRecDepth 8000 in
set_option maxHeartbeats 2000000 in
theorem hc_30 (v : V) (x : X) (w : World) (h : Is w v x) (hk : v.k = 30) (hl : v.l.length ≤ 4194304) (hch : ∀ u ∈ v.l, u.l.length ≤ 4194304) : Calls Try.prog 66 #[x.v] w fun e w' => e = .returned (.bool (kids v)) ∧ Below w.heap.size w w' := by
  obtain ⟨ka, kc, la, lc, rfl, h1, h2, h3, h4⟩ := h.open
  have HC := Lib.hid fun w' g (hb : Below w.heap.size w w') (hg : g < w'.heap.size) (c0 : w'.cell? ⟨g, 0, none⟩ = some (.func (.func 102) #[] #[])) (c1 : w'.cell? ⟨g, 1, none⟩ = some (.func (.func 93) #[] #[])) (c2 : w'.cell? ⟨g, 2, none⟩ = some (.func (.func 99) #[] #[])) => areC3 ent_isTaker (on_isTaker v.l hch) ent_isExpr (on_isExpr v.l) ent_isBlock (on_isBlock v.l) (c := lc) hg c0 c1 c2 (h4.below hb) hl
  rw [kids_30 hk]
  have HB := Lib.hid (((below_alloc w (.cells #[.int .i64 30, .string v.nm, .int .i64 v.n, .string v.s, .slice ka v.ks.length kc, .slice la v.l.length lc] 25))).trans (below_alloc_le (by simp) (.cells #[.func (.func 102) #[] #[], .func (.func 93) #[] #[], .func (.func 99) #[] #[]] 29)))
  simp only [X.v]
  rw [hk]
  clear h h1 h2 h3 h4 hk hl
  generalize are [isTk, isE, isK 25] v.l = Q at *
  generalize v.nm = nm at *
  generalize v.n = n at *
  generalize v.s = s at *
  generalize v.ks.length = kn at *
  generalize v.l.length = ln at *
  go_enter Try.func66, Try.ntmps66
  go_wp2_with fail
  refine (HC.out _ _ HB.out (by simp) (by simp) (by simp) (by simp)).mono ?_
  rintro e w' ⟨rfl, hb⟩
  have hb2 := HB.out.trans (hb.mono HB.out.size)
  clear hb
  go_wp2_with fail
  go_ret
  exact ⟨rfl, hb2⟩
set_option maxRecDepth 8000 in
set_option maxHeartbeats 2000000 in
theorem hc_38 (v : V) (x : X) (w : World) (h : Is w v x) (hk : v.k = 38) (hl : v.l.length ≤ 4194304) : Calls Try.prog 66 #[x.v] w fun e w' => e = .returned (.bool (kids v)) ∧ Below w.heap.size w w' := by
  obtain ⟨ka, kc, la, lc, rfl, h1, h2, h3, h4⟩ := h.open
  have HC := Lib.hid fun w' g (hb : Below w.heap.size w w') (hg : g < w'.heap.size) (c0 : w'.cell? ⟨g, 0, none⟩ = some (.func (.func 98) #[] #[])) => areC1 ent_isInner (on_isInner v.l) (c := lc) hg c0 (h4.below hb) hl
  rw [kids_38 hk]
  have HB := Lib.hid (((below_alloc w (.cells #[.int .i64 38, .string v.nm, .int .i64 v.n, .string v.s, .slice ka v.ks.length kc, .slice la v.l.length lc] 25))).trans (below_alloc_le (by simp) (.cells #[.func (.func 98) #[] #[]] 29)))
  simp only [X.v]
  rw [hk]
  clear h h1 h2 h3 h4 hk hl
  generalize are [isIn] v.l = Q at *
  generalize v.nm = nm at *
  generalize v.n = n at *
  generalize v.s = s at *
  generalize v.ks.length = kn at *
  generalize v.l.length = ln at *
  go_enter Try.func66, Try.ntmps66
  go_wp2_with fail
  refine (HC.out _ _ HB.out (by simp) (by simp)).mono ?_
  rintro e w' ⟨rfl, hb⟩
  have hb2 := HB.out.trans (hb.mono HB.out.size)
  clear hb
  go_wp2_with fail
  go_ret
  exact ⟨rfl, hb2⟩
end Go.Proofs.Ytgehgccgologpaa.R
