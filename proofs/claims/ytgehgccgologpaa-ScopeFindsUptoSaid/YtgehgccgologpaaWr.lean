/-
  Laid by wip/scope/lay.py out of wip/tree: C4 Wr.
  hasChildren, kind for kind. (gen_c.py)
  Check: what may be.
-/
import Derived.Test.YtgehgccgologpaaC3
import Derived.Test.YtgehgccgologpaaWq
namespace Go.Proofs.Ytgehgccgologpaa.R
open Go.RowKit Go.Proofs.Ytgehgccgologpaa Go.Proofs.Ytgehgccgologpaa.T
theorem le_one (N : Nat) : decide ((N : Int) ≤ 1) = decide (N ≤ 1) := by
  rw [Bool.eq_iff_iff, decide_eq_true_eq, decide_eq_true_eq]
  omega
set_option maxRecDepth 8000 in
set_option maxHeartbeats 2000000 in
theorem hc_36 (v : V) (x : X) (w : World) (h : Is w v x) (hk : v.k = 36) (hl : v.l.length ≤ 4194304) (hch : ∀ u ∈ v.l, u.l.length ≤ 4194304) : Calls Try.prog 66 #[x.v] w fun e w' => e = .returned (.bool (kids v)) ∧ Below w.heap.size w w' := by
  obtain ⟨ka, kc, la, lc, rfl, h1, h2, h3, h4⟩ := h.open
  rcases hl0 : v.l with _ | ⟨d, r⟩
  · have HV := Lib.hid (kids_36 hk)
    rw [hl0] at HV
    simp only [X.v]
    rw [hk, HV.out]
    clear h h1 h2 h3 h4 hk hl HV hl0 hch
    simp only [List.length_nil]
    generalize v.nm = nm at *
    generalize v.n = n at *
    generalize v.s = s at *
    generalize v.ks.length = kn at *
    go_enter Try.func66, Try.ntmps66
    go_wp2_with fail
    go_ret
    exact ⟨rfl, below_alloc w _⟩
  have HV := Lib.hid (kids_36 hk)
  rw [hl0] at HV h2 h4 hl hch
  dsimp only at HV
  simp only [X.v]
  rw [hk]
  obtain ⟨g, o, y, rfl, hg, hy, hya, hr⟩ := h4.cons
  have hlr : r.length ≤ 4194304 := by simp only [List.length_cons] at hl; omega
  have hchr : ∀ u ∈ r, u.l.length ≤ 4194304 := fun u hu => hch u (List.mem_cons_of_mem _ hu)
  have HC := Lib.hid fun w' (hb : Below w.heap.size w w') => isExpr_any d y w' (Is.below hb _ _ hya)
  have HA := Lib.hid fun w' A c (hb : Below w.heap.size w w') (hA : A = some ⟨g, o + 6, none⟩ ∨ r.length = 0) => all_any _ (isK 37) ent_isCase r (on_isCase r) A c w' (row_or (hr.below hb) hA) hlr
  have HN := Lib.hid fun w' A c (hb : Below w.heap.size w w') (hA : A = some ⟨g, o + 6, none⟩ ∨ r.length = 0) => count_any _ isDf ent_isDefault r (on_isDefault r hchr) A c w' (row_or (hr.below hb) hA) hlr
  have HB := Lib.hid (below_alloc w (.cells #[.int .i64 36, .string v.nm, .int .i64 v.n, .string v.s, .slice ka v.ks.length kc, .slice (some ⟨g, o, none⟩) (d :: r).length lc] 25))
  obtain ⟨c0, c1, c2, c3, c4, c5⟩ := hy.below hg HB.out
  obtain ⟨yk, ynm, yn, ys, yka, ykn, ykc, yla, yln, ylc⟩ := y
  dsimp only at c0 c1 c2 c3 c4 c5
  simp only [X.v] at HC
  simp only [List.length_cons] at *
  have hl1 : (0 : Int) < (r.length : Int) + 1 := by omega
  have hl2 : (r.length : Int) ≤ 4194304 := by omega
  have hl3 : (r.length : Int) + 1 ≤ (lc : Int) := by omega
  clear h h1 h2 h3 h4 hk hl hl0 hch hy hya hr hg hlr hchr
  rw [HV.out]
  clear HV
  generalize isE d = P at *
  generalize r.all (isK 37) = Q at *
  generalize r.countP isDf = N at *
  generalize v.nm = nm at *
  generalize v.n = n at *
  generalize v.s = s at *
  generalize v.ks.length = kn at *
  generalize r.length = ln at *
  go_enter Try.func66, Try.ntmps66
  go_wp2_with fail
  refine (HC.out _ HB.out).mono ?_
  rintro e w' ⟨rfl, hb⟩
  have hb2 := HB.out.trans (hb.mono HB.out.size)
  clear hb c0 c1 c2 c3 c4 c5
  cases P
  · go_wp2_with fail
    go_ret
    exact ⟨rfl, hb2⟩
  cases Q
  · go_wp2_with fail
    all_goals
      refine (HA.out _ _ _ hb2 (by first | exact .inl rfl | exact .inr (by omega))).mono ?_
      rintro e w2 ⟨rfl, hb⟩
      have hb3 := hb2.trans (hb.mono hb2.size)
      clear hb
      go_wp2_with fail
      go_ret
      exact ⟨rfl, hb3⟩
  · go_wp2_with fail
    all_goals
      refine (HA.out _ _ _ hb2 (by first | exact .inl rfl | exact .inr (by omega))).mono ?_
      rintro e w2 ⟨rfl, hb⟩
      have hb3 := hb2.trans (hb.mono hb2.size)
      clear hb
      go_wp2_with fail
      refine (HN.out _ _ _ hb3 (by first | exact .inl rfl | exact .inr (by omega))).mono ?_
      rintro e w3 ⟨rfl, hb⟩
      have hb4 := hb3.trans (hb.mono hb3.size)
      clear hb
      go_wp2_with fail
      go_ret
      exact ⟨ret_bool (le_one _), hb4⟩
theorem kids_35a {v : V} (h : v.k = 35) (hl : ¬ v.l.length = 3) : kids v = false := by
  rw [kids_35 h, are_len _ _ (by simpa using hl), Bool.false_and]
theorem kids_35b {v a b c : V} (h : v.k = 35) (hl : v.l = [a, b, c]) : kids v = (are [isK 25, isBO, isBO] v.l && (isK 25 b || isK 25 c)) := by
  rw [kids_35 h, hl]
set_option maxRecDepth 8000 in
set_option maxHeartbeats 2000000 in
theorem hc_35a (v : V) (x : X) (w : World) (h : Is w v x) (hk : v.k = 35) (hl : v.l.length ≤ 4194304) (h3n : ¬ v.l.length = 3) : Calls Try.prog 66 #[x.v] w fun e w' => e = .returned (.bool (kids v)) ∧ Below w.heap.size w w' := by
  obtain ⟨ka, kc, la, lc, rfl, h1, h2, h3, h4⟩ := h.open
  have HC := Lib.hid fun w' g (hb : Below w.heap.size w w') (hg : g < w'.heap.size) (c0 : w'.cell? ⟨g, 0, none⟩ = some (.func (.func 99) #[] #[])) (c1 : w'.cell? ⟨g, 1, none⟩ = some (.func (.func 103) #[] #[])) (c2 : w'.cell? ⟨g, 2, none⟩ = some (.func (.func 103) #[] #[])) => areC3 ent_isBlock (on_isBlock v.l) ent_isBlockOrEmpty (on_isBlockOrEmpty v.l) ent_isBlockOrEmpty (on_isBlockOrEmpty v.l) (c := lc) hg c0 c1 c2 (h4.below hb) hl
  have HV := Lib.hid (kids_35a hk h3n)
  have hA : are [isK 25, isBO, isBO] v.l = false := are_len _ _ (by simpa using h3n)
  rw [hA] at HC
  have HB := Lib.hid ((below_alloc w (.cells #[.int .i64 35, .string v.nm, .int .i64 v.n, .string v.s, .slice ka v.ks.length kc, .slice la v.l.length lc] 25)).trans (below_alloc_le (by simp) (.cells #[.func (.func 99) #[] #[], .func (.func 103) #[] #[], .func (.func 103) #[] #[]] 29)))
  simp only [X.v]
  rw [hk, HV.out]
  clear h h1 h2 h3 h4 hk hl HV hA h3n
  generalize v.nm = nm at *
  generalize v.n = n at *
  generalize v.s = s at *
  generalize v.ks.length = kn at *
  generalize v.l.length = ln at *
  go_enter Try.func66, Try.ntmps66
  go_wp2_with fail
  refine (HC.out _ _ HB.out (by simp) (by simp) (by simp) (by simp)).mono ?_
  rintro e w' ⟨rfl, hb⟩
  have hb2 := HB.out.trans (hb.mono HB.out.size)
  clear hb
  go_wp2_with fail
  go_ret
  exact ⟨rfl, hb2⟩
set_option maxRecDepth 8000 in
set_option maxHeartbeats 2000000 in
theorem hc_35b (v : V) (x : X) (w : World) (h : Is w v x) (hk : v.k = 35) (hl : v.l.length ≤ 4194304) (a b c : V) (hl3 : v.l = [a, b, c]) : Calls Try.prog 66 #[x.v] w fun e w' => e = .returned (.bool (kids v)) ∧ Below w.heap.size w w' := by
  obtain ⟨ka, kc, la, lc, rfl, h1, h2, h3, h4⟩ := h.open
  have HC := Lib.hid fun w' g (hb : Below w.heap.size w w') (hg : g < w'.heap.size) (c0 : w'.cell? ⟨g, 0, none⟩ = some (.func (.func 99) #[] #[])) (c1 : w'.cell? ⟨g, 1, none⟩ = some (.func (.func 103) #[] #[])) (c2 : w'.cell? ⟨g, 2, none⟩ = some (.func (.func 103) #[] #[])) => areC3 ent_isBlock (on_isBlock v.l) ent_isBlockOrEmpty (on_isBlockOrEmpty v.l) ent_isBlockOrEmpty (on_isBlockOrEmpty v.l) (c := lc) hg c0 c1 c2 (h4.below hb) hl
  have HV := Lib.hid (kids_35b hk hl3)
  have HB := Lib.hid ((below_alloc w (.cells #[.int .i64 35, .string v.nm, .int .i64 v.n, .string v.s, .slice ka v.ks.length kc, .slice la v.l.length lc] 25)).trans (below_alloc_le (by simp) (.cells #[.func (.func 99) #[] #[], .func (.func 103) #[] #[], .func (.func 103) #[] #[]] 29)))
  simp only [X.v]
  rw [hk, HV.out]
  clear HV
  generalize are [isK 25, isBO, isBO] v.l = P at *
  have hln : v.l.length = 3 := by rw [hl3]; rfl
  rw [hl3] at h4
  obtain ⟨g, o, -, rfl, hg, -, -, hr1⟩ := h4.cons
  obtain ⟨g2, o2, z, e2, -, hz, hza, hr2⟩ := hr1.cons
  cases e2
  obtain ⟨g3, o3, u, e3, -, hu0, hua, -⟩ := hr2.cons
  cases e3
  have hu : At w g (o + 12) u := hu0
  have HE := Lib.hid fun w' (hb : Below w.heap.size w w') => isBlock_any b z w' (Is.below hb _ _ hza)
  have HF := Lib.hid fun w' (hb : Below w.heap.size w w') => isBlock_any c u w' (Is.below hb _ _ hua)
  have HZ := Lib.hid fun w' (hb : Below w.heap.size w w') => hz.below hg hb
  have HU := Lib.hid fun w' (hb : Below w.heap.size w w') => hu.below hg hb
  clear h h1 h2 h3 h4 hk hl hl3 hz hza hu hu0 hua hg hr1 hr2
  obtain ⟨zk, znm, zn, zs, zka, zkn, zkc, zla, zln, zlc⟩ := z
  obtain ⟨uk, unm, un, us, uka, ukn, ukc, ula, uln, ulc⟩ := u
  simp only [X.v] at HE HF
  generalize isK 25 b = Q at *
  generalize isK 25 c = R at *
  generalize v.nm = nm at *
  generalize v.n = n at *
  generalize v.s = s at *
  generalize v.ks.length = kn at *
  generalize v.l.length = ln at *
  subst hln
  go_enter Try.func66, Try.ntmps66
  go_wp2_with fail
  refine (HC.out _ _ HB.out (by simp) (by simp) (by simp) (by simp)).mono ?_
  rintro e w' ⟨rfl, hb⟩
  have hb2 := HB.out.trans (hb.mono HB.out.size)
  clear hb
  cases P
  · go_wp2_with fail
    go_ret
    exact ⟨rfl, hb2⟩
  obtain ⟨c0, c1, c2, c3, c4, c5⟩ := HZ.out w' hb2
  obtain ⟨d0, d1, d2, d3, d4, d5⟩ := HU.out w' hb2
  dsimp only at c0 c1 c2 c3 c4 c5 d0 d1 d2 d3 d4 d5
  go_wp2_with fail
  refine (HE.out _ hb2).mono ?_
  rintro e w2 ⟨rfl, hb⟩
  have hb3 := hb2.trans (hb.mono hb2.size)
  clear hb c0 c1 c2 c3 c4 c5 d0 d1 d2 d3 d4 d5
  obtain ⟨d0, d1, d2, d3, d4, d5⟩ := HU.out w2 hb3
  dsimp only at d0 d1 d2 d3 d4 d5
  cases Q
  · go_wp2_with fail
    refine (HF.out _ hb3).mono ?_
    rintro e w3 ⟨rfl, hb⟩
    have hb4 := hb3.trans (hb.mono hb3.size)
    clear hb d0 d1 d2 d3 d4 d5
    go_wp2_with fail
    go_ret
    exact ⟨rfl, hb4⟩
  · go_wp2_with fail
    go_ret
    exact ⟨rfl, hb3⟩
theorem hc_35 (v : V) (x : X) (w : World) (h : Is w v x) (hk : v.k = 35) (hl : v.l.length ≤ 4194304) : Calls Try.prog 66 #[x.v] w fun e w' => e = .returned (.bool (kids v)) ∧ Below w.heap.size w w' := by
  rcases hl3 : v.l with _ | ⟨a, _ | ⟨b, _ | ⟨c, _ | ⟨d, r⟩⟩⟩⟩
  · exact hc_35a v x w h hk hl (by rw [hl3]; simp)
  · exact hc_35a v x w h hk hl (by rw [hl3]; simp)
  · exact hc_35a v x w h hk hl (by rw [hl3]; simp)
  · exact hc_35b v x w h hk hl a b c hl3
  · exact hc_35a v x w h hk hl (by rw [hl3]; simp)
/-- .. of its children's sizes, too -/
def Small2 (v : V) : Prop := Small v ∧ ∀ u ∈ v.l, u.l.length ≤ 4194304
theorem hasChildren_any (v : V) (x : X) (w : World) (h : Is w v x) (hs : Small2 v) : Calls Try.prog 66 #[x.v] w fun e w' => e = .returned (.bool (kids v)) ∧ Below w.heap.size w w' := by
  obtain ⟨⟨-, -, -, -, s5⟩, s6⟩ := hs
  by_cases h41 : v.k = 41
  · exact hc_41 v x w h h41 s5
  by_cases h10 : v.k = 10
  · exact hc_10 v x w h h10 s5
  by_cases h39 : v.k = 39
  · exact hc_39 v x w h h39 s5
  by_cases h7 : v.k = 7
  · exact hc_7 v x w h h7 s5
  by_cases h8 : v.k = 8
  · exact hc_8 v x w h h8 s5
  by_cases h13 : v.k = 13
  · exact hc_13 v x w h h13 s5
  by_cases h14 : v.k = 14
  · exact hc_14 v x w h h14 s5
  by_cases h9 : v.k = 9
  · exact hc_9 v x w h h9 s5
  by_cases h11 : v.k = 11
  · exact hc_11 v x w h h11 s5
  by_cases h15 : v.k = 15
  · exact hc_15 v x w h h15 s5
  by_cases h24 : v.k = 24
  · exact hc_24 v x w h h24 s5
  by_cases h34 : v.k = 34
  · exact hc_34 v x w h h34 s5
  by_cases h12 : v.k = 12
  · exact hc_12 v x w h h12 s5
  by_cases h17 : v.k = 17
  · exact hc_17 v x w h h17 s5
  by_cases h18 : v.k = 18
  · exact hc_18 v x w h h18 s5
  by_cases h21 : v.k = 21
  · exact hc_21 v x w h h21 s5
  by_cases h19 : v.k = 19
  · exact hc_19 v x w h h19 s5
  by_cases h16 : v.k = 16
  · exact hc_16 v x w h h16 s5
  by_cases h20 : v.k = 20
  · exact hc_20 v x w h h20 s5
  by_cases h22 : v.k = 22
  · exact hc_22 v x w h h22 s5
  by_cases h23 : v.k = 23
  · exact hc_23 v x w h h23 s5
  by_cases h33 : v.k = 33
  · exact hc_33 v x w h h33 s5
  by_cases h25 : v.k = 25
  · exact hc_25 v x w h h25 s5
  by_cases h26 : v.k = 26
  · exact hc_26 v x w h h26 s5
  by_cases h27 : v.k = 27
  · exact hc_27 v x w h h27 s5
  by_cases h28 : v.k = 28
  · exact hc_28 v x w h h28 s5
  by_cases h29 : v.k = 29
  · exact hc_29 v x w h h29 s5
  by_cases h30 : v.k = 30
  · exact hc_30 v x w h h30 s5 s6
  by_cases h35 : v.k = 35
  · exact hc_35 v x w h h35 s5
  by_cases h36 : v.k = 36
  · exact hc_36 v x w h h36 s5 s6
  by_cases h37 : v.k = 37
  · exact hc_37 v x w h h37 s5 s6
  by_cases h38 : v.k = 38
  · exact hc_38 v x w h h38 s5
  exact hc_x v x w h (by simp only [h41, h10, h39, h7, h8, h13, h14, h9, h11, h15, h24, h34, h12, h17, h18, h21, h19, h16, h20, h22, h23, h33, h25, h26, h27, h28, h29, h30, h35, h36, h37, h38, not_false_eq_true, and_self])
set_option maxRecDepth 8000 in
theorem isRight_any (v : V) (x : X) (w : World) (h : Is w v x) (hs : Small2 v) : Calls Try.prog 39 #[x.v] w fun e w' => e = .returned (.bool (right v)) ∧ Below w.heap.size w w' := by
  have HF := Lib.hid fun w' (hb : Below w.heap.size w w') => hasFields_any v x w' (Is.below hb _ _ h) hs.1
  have HK := Lib.hid fun w' (hb : Below w.heap.size w w') => hasChildren_any v x w' (Is.below hb _ _ h) hs
  have HV : Hid (right v = (fields (ctch v) v && kids v)) := Lib.hid rfl
  rw [HV.out]
  clear HV
  generalize fields (ctch v) v = P at *
  generalize kids v = Q at *
  clear h hs
  obtain ⟨k, nm, n, s, ka, kn, kc, la, ln, lc⟩ := x
  simp only [X.v] at *
  have HB := Lib.hid (below_alloc w (.cells #[.int .i64 k, .string nm, .int .i64 n, .string s, .slice ka kn kc, .slice la ln lc] 25))
  go_enter Try.func39, Try.ntmps39
  go_wp2_with fail
  refine (HF.out _ HB.out).mono ?_
  rintro e w' ⟨rfl, hb⟩
  have hb2 := HB.out.trans (hb.mono HB.out.size)
  have c0 : w'.cell? ⟨w.heap.size, 0, none⟩ = some (.int .i64 k) := (hb.cell (p := ⟨w.heap.size, 0, none⟩) (by simp)).trans (by simp)
  have c1 : w'.cell? ⟨w.heap.size, 1, none⟩ = some (.string nm) := (hb.cell (p := ⟨w.heap.size, 1, none⟩) (by simp)).trans (by simp)
  have c2 : w'.cell? ⟨w.heap.size, 2, none⟩ = some (.int .i64 n) := (hb.cell (p := ⟨w.heap.size, 2, none⟩) (by simp)).trans (by simp)
  have c3 : w'.cell? ⟨w.heap.size, 3, none⟩ = some (.string s) := (hb.cell (p := ⟨w.heap.size, 3, none⟩) (by simp)).trans (by simp)
  have c4 : w'.cell? ⟨w.heap.size, 4, none⟩ = some (.slice ka kn kc) := (hb.cell (p := ⟨w.heap.size, 4, none⟩) (by simp)).trans (by simp)
  have c5 : w'.cell? ⟨w.heap.size, 5, none⟩ = some (.slice la ln lc) := (hb.cell (p := ⟨w.heap.size, 5, none⟩) (by simp)).trans (by simp)
  clear hb
  cases P
  · go_wp2_with fail
    go_ret
    exact ⟨rfl, hb2⟩
  · go_wp2_with fail
    refine (HK.out _ hb2).mono ?_
    rintro e w2 ⟨rfl, hb⟩
    have hb3 := hb2.trans (hb.mono hb2.size)
    clear hb c0 c1 c2 c3 c4 c5
    go_wp2_with fail
    go_ret
    exact ⟨rfl, hb3⟩
end Go.Proofs.Ytgehgccgologpaa.R
namespace Go.Proofs.Ytgehgccgologpaa.R
open Go.RowKit Go.Shelf Go.Proofs.Ytgehgccgologpaa Go.Proofs.Ytgehgccgologpaa.T
attribute [local go_sem] Oper.semAt_some
theorem small2_of {v : V} (h : v.bulk ≤ 4194304) : Small2 v := by
  have e : v.bulk = 1 + v.nm.size + v.s.size + keysBulk v.ks + V.bulks v.l := by cases v; rfl
  have h1 := length_le_keysBulk v.ks
  have h2 := length_le_bulks v.l
  refine ⟨⟨by omega, by omega, by omega, fun k hk => by have := key_le_keysBulk hk; omega, by omega⟩, fun u hu => ?_⟩
  have h3 := bulk_le_of_mem hu
  have h4 := length_le_bulks u.l
  have h5 := bulk_ge u
  omega
theorem keepsFrom_below {B : Nat} {W W' : World} (h : Below W.heap.size W W') : KeepsFrom B W W' := ⟨h.size, fun k _ _ hk _ => (h.block k (Array.getElem?_eq_some_iff.1 hk).1).trans hk⟩
theorem Num.lt {w W : World} {B : Nat} {m : Int} (h : Num w W B m) : B < W.heap.size := by
  obtain ⟨o, ho, _⟩ := cells_of_cell h.c
  exact (Array.getElem?_eq_some_iff.1 ho).1
theorem Num.after {w W W' : World} {B : Nat} {m : Int} (h : Num w W B m) (hb : Below W.heap.size W W') : Num w W' B m := h.low hb h.lt h.b.size
/-- behind a loop over an iterator: its block of deferred calls is taken -/
theorem Num.took {w W : World} {B D : Nat} {m : Int} {o o' : Obj} (h : Num w W B m) (hK : W.heap[D]? = some o) (hD : B < D) (hw : w.heap.size ≤ D) : Num w (W.putObj D o') B m :=
  h.low (n := D) (below_put W D o o' (Nat.le_refl _) hK) hD hw
theorem predB_right {l : List V} (h : V.bulks l ≤ 4194304) : PredB 39 right l := fun v hv x w hx => isRight_any v x w hx (small2_of (by have := bulk_le_of_mem hv; omega))
set_option maxRecDepth 8000 in
theorem check_any (v : V) (x : X) (w : World) (hx : Is w v x) (hb : v.bulk ≤ 4194304) :
    Calls Try.prog 24 #[x.v] w fun e w' => e = .returned (.int .i64 v.chk) ∧ Below w.heap.size w w' := by
  obtain ⟨ch, hch0⟩ : ∃ ch, v.chk = ch := ⟨_, rfl⟩
  rw [hch0]
  have HC := Lib.hid hch0
  clear hch0
  by_cases hk41 : v.k = 41
  · have HL := Lib.hid (lists_any x)
    have HI := Lib.hid hx
    have HT := Lib.hid (three_num w x 27)
    have HD := Lib.hid fun w' (h : Below w.heap.size w w') => deep_any v x w' (Is.below h _ _ hx) hb
    have hxk : x.k = 41 := by
      have := (isB_iff w w.heap.size v x).1 hx
      rw [this.1.1, hk41]
    obtain ⟨xk, xnm, xn, xs, xka, xkn, xkc, xla, xln, xlc⟩ := x
    simp only [X.v, X.cells] at HL HT HD
    simp only at hxk
    subst hxk
    clear hx
    refine (callsIn_wide (n := 9)).1 ?_
    refine callsIn_of_wp_marks Try.func24 rfl trivial ?_ rfl
    simp only [X.v, Try.ntmps24, List.size_toArray, List.length_cons, List.length_nil, Nat.reduceAdd, Nat.reduceSub, Array.replicate_succ, Array.replicate_zero, List.push_toArray, List.append_toArray, List.nil_append, List.cons_append]
    gi_wp2_with fail
    refine ⟨trivial, (callsIn_wide.2 (HL.out _)).mono ?_⟩
    rintro e w1 ⟨rfl, rfl⟩
    gi_wp2_with fail
    obtain ⟨W0, hW0, hz, hnum, hat, hat0⟩ := HT.out
    rw [hW0]
    have hb0 := hnum.b
    have HN0 : Hid (W0.heap.size = w.heap.size + 3) := hz
    refine range_low rfl (by omega) (gf := 63) (lb := #[.pointer (some ⟨w.heap.size + 2, 0, none⟩)]) rfl trivial (enters_of Try.func63 (by kernel_rfl) rfl)
      (lists_seq Fence.wide 8 trivial rfl (by omega) (w.heap.size + 2) w.heap.size (w.heap.size + 1) v _ W0 (by omega) (by omega) (by omega) (IsB.to hb0 (Nat.le_refl _) _ _ HI.out) hat hb)
      (fun x A C h k => h.kept x A C k) (fun h k => h.trans k) (fun W l o o' hl h hc hw => Kp.turn (by omega) W l o o' hl h hc hw) (Below.refl _ _) (fun _ => rfl)
      (fun (pre : List El) W => Num w W (w.heap.size + 1) 0 ∧ rightP (pre.map (·.2)) = true ∧ At W w.heap.size 0 ⟨41, xnm, xn, xs, xka, xkn, xkc, xla, xln, xlc⟩)
      (fun c (pre : List El) W => c = .ret ∧ Num w W (w.heap.size + 1) 70 ∧ rightP (pre.map (·.2)) = false)
      (fun _ _ _ h k => ⟨Num.low h.1 k (by omega) (by omega), h.2.1, h.2.2.below (B := W0.heap.size) (by omega) k⟩) (fun _ _ _ _ h k => ⟨h.1, Num.low h.2.1 k (by omega) (by omega), h.2.2⟩) ⟨hnum, rfl, hat0⟩
      (fun x => { tmps := #[.agg #[.int .i64 41, .string xnm, .int .i64 xn, .string xs, .slice xka xkn xkc, .slice xla xln xlc], .pointer (some ⟨w.heap.size, 0, none⟩), .pointer (some ⟨w.heap.size + 1, 0, none⟩), undef, .slice x.1.A x.1.n x.1.c, .pointer (some ⟨w.heap.size, 0, none⟩), .int .i64 41, .bool false,
        .agg #[.int .i64 41, .string xnm, .int .i64 xn, .string xs, .slice xka xkn xkc, .slice xla xln xlc], .func (.func 63) #[] #[.pointer (some ⟨w.heap.size + 1 + 1, 0, none⟩)], .int .i64 x.1.d, .slice x.1.A x.1.n x.1.c, undef, undef, undef, undef, undef, undef], defers := [] }) ?assign ?body ?done ?stop
    case assign =>
      intro l x W C hC
      gi_wp2
      exact hC
    case body =>
      rintro l pre x W ⟨⟨hc, hf, hB⟩, hr, ha0⟩ ⟨hg1, ⟨c, hc2, hp⟩, hg3, hg4⟩ hlt
      have HB := Lib.hid hB
      have hl4 := length_le_bulks x.2.2
      have HA := Lib.hid (all_any 39 right (enters_of Try.func39 (by kernel_rfl) rfl) x.2.2 (predB_right (by omega)) x.1.A x.1.c W (hp.row.row hg1 hc2) (by omega))
      have hpn : x.1.n = x.2.2.length := hp.n
      rw [<- hpn] at HA
      have HR : Hid (rightP ((pre ++ [x]).map (·.2)) = x.2.2.all right) := by
        show rightP ((pre ++ [x]).map (·.2)) = x.2.2.all right
        rw [List.map_append, List.map_singleton, rightP_snoc, hr, Bool.true_and]
      clear hp hg4 hc2 hB hz hat hat0 hnum HI HL HT HD hlt hl4 hpn hr hg3
      generalize x.2.2.all right = b at *
      gi_wp2_with fail
      refine ⟨trivial, (CallsIn.inRound l (callsIn_wide.2 HA.out)).mono ?_⟩
      rintro e w1 ⟨rfl, hb1⟩
      have HA1 := Lib.hid (ha0.below (B := W.heap.size) (by have := Num.lt (w := w) (W := W) ⟨hc, hf, HB.out⟩; omega) hb1)
      have hn1 := Num.after (w := w) (W := W) ⟨hc, hf, HB.out⟩ hb1
      have HN1 := Lib.hid hn1
      obtain ⟨hc1, hf1, -⟩ := hn1
      have HK1 : Hid (KeepsFrom W0.heap.size W w1 ∧ Kp w.heap.size (w.heap.size + 1) W w1) := ⟨keepsFrom_below hb1, Kp.of_below hg1 hb1⟩
      clear hb1 hc hf hg1
      cases b
      · gi_wp2
        exact ⟨HK1.out.1.trans ((KeepsOthers.setCell _ _ _).from _), rfl, HN1.out.set (by omega) 70, HR.out⟩
      · gi_wp2
        exact ⟨HK1.out.1, HK1.out.2, HN1.out, HR.out, HA1.out⟩
    case done =>
      rintro D xs' W hD hS ⟨⟨hc, hf, hB⟩, hr, ha0⟩ hK
      have hok : v.ok = true := by
        have := hS.kept.oks
        rw [hr] at this
        exact this.symm
      have hch : v.chk = if (64 : Int) < (v.deep : Int) then 31 else 0 := by
        unfold V.chk
        rw [if_pos ⟨hk41, hok⟩]
        by_cases h : 64 < v.deep
        · rw [if_pos h, if_pos (by omega)]
        · rw [if_neg h, if_neg (by omega)]
      rw [HC.out] at hch
      have HB := Lib.hid hB
      have hDD : w.heap.size + 1 < D := by omega
      obtain ⟨a0, a1, a2, a3, a4, a5⟩ := ha0
      clear hok hS hr hB hz hat hat0 hnum HL HT hk41
      gi_wp2_with fail
      refine ⟨trivial, (callsIn_wide.2 (HD.out W HB.out)).mono ?_⟩
      rintro e w2 ⟨rfl, hb2⟩
      have hn2 := Num.after (w := w) (W := W) ⟨hc, hf, HB.out⟩ hb2
      have hK2 : w2.heap[D]? = some (.deferred (some [])) := (hb2.block D (Array.getElem?_eq_some_iff.1 hK).1).trans hK
      have HN2 := Lib.hid hn2
      have HK2 := Lib.hid hK2
      have HDD := Lib.hid hDD
      obtain ⟨hc2, hf2, -⟩ := hn2
      clear hb2 hc hf hK hK2 HD HI
      generalize (v.deep : Int) = dd at *
      by_cases hdd : (64 : Int) < dd
      · rw [if_pos hdd] at hch
        have HCH := Lib.hid hch
        clear hch
        gi_wp2
        have hs3 := HN2.out.set (by omega) 31
        have hK3 := (KeepsOthers.setCell w2 ⟨w.heap.size + 1, 0, none⟩ (.int .i64 31)).same D _ HK2.out rfl
        have hs4 := hs3.took (o' := .deferred none) hK3 HDD.out (by have := HDD.out; omega)
        have hc4 := hs4.c
        refine ⟨by simp, .inl ⟨_, _, rfl, run_takeDeferred hK3, ?_⟩⟩
        exact ⟨.int .i64 31, by simp [results, Try.f24, go_sem, hc4], by rw [HCH.out], hs4.b⟩
      · rw [if_neg hdd] at hch
        have HCH := Lib.hid hch
        clear hch
        gi_wp2
        have hs3 := HN2.out.set (by omega) 0
        have hK3 := (KeepsOthers.setCell w2 ⟨w.heap.size + 1, 0, none⟩ (.int .i64 0)).same D _ HK2.out rfl
        have hs4 := hs3.took (o' := .deferred none) hK3 HDD.out (by have := HDD.out; omega)
        have hc4 := hs4.c
        refine ⟨by simp, .inl ⟨_, _, rfl, run_takeDeferred hK3, ?_⟩⟩
        exact ⟨.int .i64 0, by simp [results, Try.f24, go_sem, hc4], by rw [HCH.out], hs4.b⟩
    case stop =>
      rintro D c pre W hD ⟨st, hre⟩ ⟨rfl, hN, hr⟩ hK
      have hok : v.ok = false := by
        have := hre.kept.oks
        rw [hr] at this
        exact this.symm
      have hch : v.chk = 70 := by
        unfold V.chk
        rw [if_neg (by rw [hok]; simp)]
      rw [HC.out] at hch
      have HCH := Lib.hid hch
      have HN := Lib.hid hN
      have HDD : Hid (w.heap.size + 1 < D) := by
        show w.heap.size + 1 < D
        omega
      clear hch hok hre hr hz hat hnum HL HT hk41 HD HI hN
      gi_wp2
      have hs4 := HN.out.took (o' := .deferred none) hK HDD.out (by have := HDD.out; omega)
      have hc4 := hs4.c
      refine ⟨by simp, .inl ⟨_, _, rfl, run_takeDeferred hK, ?_⟩⟩
      exact ⟨.int .i64 70, by simp [results, Try.f24, go_sem, hc4], by rw [HCH.out], hs4.b⟩
  · have hch : v.chk = 70 := by
      unfold V.chk
      rw [if_neg (fun h => hk41 h.1)]
    rw [HC.out] at hch
    subst hch
    have hxk : ¬ x.k = 41 := by
      have := (isB_iff w w.heap.size v x).1 hx
      rw [this.1.1]
      exact hk41
    obtain ⟨xk, xnm, xn, xs, xka, xkn, xkc, xla, xln, xlc⟩ := x
    simp only at hxk
    have hxb : (xk == 41) = false := by rw [beq_eq_false_iff_ne]; exact hxk
    simp only [X.v]
    clear hx hk41 hxk HC
    go_enter Try.func24, Try.ntmps24
    go_wp2_with fail
    refine bodyPost_ret (v := .int .i64 70) (by simp [results, Try.f24, go_sem]) rfl ⟨rfl, ?_⟩
    exact (below_alloc w _).alloc (by simp) _
end Go.Proofs.Ytgehgccgologpaa.R
