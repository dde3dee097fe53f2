/-
  Laid by wip/scope/lay.py out of wip/tree: Vu Vv.
  The reference's expr, stmt, block, decls and stmts of any tree.
  The reference's Check; TreeChecks, walked.
-/
import Derived.Test.YtgehgccgologpaaVt
namespace Go.Proofs.Ytgehgccgologpaa.R
open Go.RowKit Go.Proofs.Ytgehgccgologpaa Go.Proofs.Ytgehgccgologpaa.T
/-- what the reference's functions answer of v -/
structure Told (v : V) : Prop where
  ex : Tells 79 v (EE v)
  st : Tells 62 v (SS v)
  bl : Tells 80 v (BB v)
  de : Tells 78 v (DD v)
  tl : TellsL v (v.l.all FF)
theorem len_bulk {v : V} (hb : v.bulk ≤ 4194304) : v.l.length ≤ 4194304 := by have := length_le_bulks v.l; have := bulk_ge v; omega
theorem kid_bulk {u v : V} (hu : u ∈ v.l) (hb : v.bulk ≤ 4194304) : u.bulk ≤ 4194304 := by have := bulk_le_of_mem hu; have := bulk_ge v; omega
theorem tx_of {v : V} (hb : v.bulk ≤ 4194304) (H : ∀ u ∈ v.l, Tells 79 u (EE u)) : TellsX v (v.l.all EE) := fun A c w hr => refExprs_of EE v.l A c w hr (len_bulk hb) H
theorem tf_of {v : V} (hb : v.bulk ≤ 4194304) (H : ∀ u ∈ v.l, Told u) : TellsF v (v.l.all SS) := fun A c w hr =>
  refStmts_of false (fun u => u.l.all FF) SS SS v.l A c w hr (len_bulk hb) (fun _ hu => kid_bulk hu hb) (fun u hu _ => (H u hu).tl) (fun u hu _ => (H u hu).st)
    (fun _ _ h => by rw [SS_no (by omega)]; rfl) (fun _ _ _ => rfl)
theorem tl_of {v : V} (hb : v.bulk ≤ 4194304) (H : ∀ u ∈ v.l, Told u) : TellsL v (v.l.all FF) := fun A c w hr =>
  refStmts_of true (fun u => u.l.all FF) SS FF v.l A c w hr (len_bulk hb) (fun _ hu => kid_bulk hu hb) (fun u hu _ => (H u hu).tl) (fun u hu _ => (H u hu).st)
    (fun _ _ h => ff_39 h) (fun _ _ h => FF_SS h)
theorem tt_of {v : V} (hb : v.bulk ≤ 4194304) (H : ∀ u ∈ v.l, Told u) : TellsT v (v.l.tail.all SS) := fun A c w hr => by
  have hl := List.length_tail (l := v.l)
  rw [← hl]
  exact refStmts_of false (fun u => u.l.all FF) SS SS v.l.tail A c w hr (by have := len_bulk hb; omega) (fun _ hu => kid_bulk (List.mem_of_mem_tail hu) hb) (fun u hu _ => (H u (List.mem_of_mem_tail hu)).tl) (fun u hu _ => (H u (List.mem_of_mem_tail hu)).st)
    (fun _ _ h => by rw [SS_no (by omega)]; rfl) (fun _ _ _ => rfl)
theorem tc_of {v : V} (hb : v.bulk ≤ 4194304) (H : ∀ u ∈ v.l, ∀ x ∈ u.l, Told x) : TellsC v (v.l.tail.all (caseV EE fun u => u.l.tail.all SS) && decide (v.l.tail.countP dfV ≤ 1)) := fun A c w hr => by
  have hl := List.length_tail (l := v.l)
  rw [← hl]
  exact refCases_of EE (fun u => u.l.tail.all SS) v.l.tail A c w hr (by have := len_bulk hb; omega) (fun _ hu => kid_bulk (List.mem_of_mem_tail hu) hb)
    (fun u hu x hx => (H u (List.mem_of_mem_tail hu) x hx).ex) (fun u hu => tt_of (kid_bulk (List.mem_of_mem_tail hu) hb) (H u (List.mem_of_mem_tail hu)))
theorem cut1 {l : List V} (h : l.length = 1) : ∃ a, l = [a] := by
  rcases l with _ | ⟨a, _ | ⟨b, r⟩⟩
  · cases h
  · exact ⟨a, rfl⟩
  · simp at h
theorem cut2 {l : List V} (h : l.length = 2) : ∃ a b, l = [a, b] := by
  rcases l with _ | ⟨a, _ | ⟨b, _ | ⟨c, r⟩⟩⟩
  · cases h
  · simp at h
  · exact ⟨a, b, rfl⟩
  · simp at h
theorem cut3 {l : List V} (h : l.length = 3) : ∃ a b c, l = [a, b, c] := by
  rcases l with _ | ⟨a, _ | ⟨b, _ | ⟨c, _ | ⟨d, r⟩⟩⟩⟩
  · cases h
  · simp at h
  · simp at h
  · exact ⟨a, b, c, rfl⟩
  · simp at h
theorem cut4 {l : List V} (h : l.length = 4) : ∃ a b c d, l = [a, b, c, d] := by
  rcases l with _ | ⟨a, _ | ⟨b, _ | ⟨c, _ | ⟨d, _ | ⟨e, r⟩⟩⟩⟩⟩
  · cases h
  · simp at h
  · simp at h
  · simp at h
  · exact ⟨a, b, c, d, rfl⟩
  · simp at h
/-- an expression, kind for kind -/
theorem rex_of (v : V) (hb : v.bulk ≤ 4194304) (H : ∀ u ∈ v.l, Told u) (HG : ∀ u ∈ v.l, ∀ x ∈ u.l, Told x) : Tells 79 v (EE v) := by
  have TX : TellsX v (v.l.all EE) := tx_of hb fun u hu => (H u hu).ex
  by_cases h : 1 ≤ v.k ∧ v.k ≤ 21 ∧ ¬ v.k = 9
  · obtain ⟨k, hk⟩ : ∃ k, v.k = k := ⟨_, rfl⟩
    rw [hk] at h
    have hc : k = 1 ∨ k = 2 ∨ k = 3 ∨ k = 4 ∨ k = 5 ∨ k = 6 ∨ k = 7 ∨ k = 8 ∨ k = 10 ∨ k = 11 ∨ k = 12 ∨ k = 13 ∨ k = 14 ∨ k = 15 ∨ k = 16 ∨ k = 17 ∨ k = 18 ∨ k = 19 ∨ k = 20 ∨ k = 21 := by omega
    clear h
    rcases hc with rfl | rfl | rfl | rfl | rfl | rfl | rfl | rfl | rfl | rfl | rfl | rfl | rfl | rfl | rfl | rfl | rfl | rfl | rfl | rfl
    · rw [ee_leaf hk (by decide) (kids_1 hk)]; exact expr_1 v hb hk
    · rw [ee_leaf hk (by decide) (kids_2 hk)]; exact expr_2 v hb hk
    · rw [ee_leaf hk (by decide) (kids_3 hk)]; exact expr_3 v hb hk
    · rw [ee_leaf hk (by decide) (kids_4 hk)]; exact expr_4 v hb hk
    · rw [ee_leaf hk (by decide) (kids_5 hk)]; exact expr_5 v hb hk
    · rw [ee_leaf hk (by decide) (kids_6 hk)]; exact expr_6 v hb hk
    · rw [ee_7 hk]; exact expr_7 v hb hk _ TX
    · rw [ee_8 hk]; exact expr_8 v EE hb hk fun u hu x hx => (HG u hu x hx).ex
    · rw [ee_10 hk]; exact expr_10 v hb hk _ (tl_of hb H)
    · rw [ee_1 hk (by decide) (kids_11 hk)]; exact expr_11 v hb hk _ TX
    · rw [ee_2 hk (by decide) (kids_12 hk)]; exact expr_12 v hb hk _ TX
    · rw [ee_some hk (by decide) (kids_13 hk)]; exact expr_13 v hb hk _ TX
    · rw [ee_some hk (by decide) (kids_14 hk)]; exact expr_14 v hb hk _ TX
    · rw [ee_1 hk (by decide) (kids_15 hk)]; exact expr_15 v hb hk _ TX
    · by_cases hl : v.l.length = 1
      · rw [ee_16 hk hl]; exact expr_16 v hb hk hl _ TX
      · rw [ee_16n hk hl]; exact expr_16n v hb hk hl
    · rw [ee_2 hk (by decide) (kids_17 hk)]; exact expr_17 v hb hk _ TX
    · rw [ee_2 hk (by decide) (kids_18 hk)]; exact expr_18 v hb hk _ TX
    · rw [ee_3 hk (by decide) (kids_19 hk)]; exact expr_19 v hb hk _ TX
    · by_cases hl : v.l.length = 2
      · rw [ee_20 hk hl]; exact expr_20 v hb hk hl _ TX
      · rw [ee_20n hk hl]; exact expr_20n v hb hk hl
    · rw [ee_2 hk (by decide) (kids_21 hk)]; exact expr_21 v hb hk _ TX
  · rw [EE_no h]
    exact rexpr_other v hb fun m hm => by
      intro e
      simp only [List.mem_cons, List.not_mem_nil, or_false] at hm
      omega
theorem bl_of (v : V) (hb : v.bulk ≤ 4194304) (H : ∀ u ∈ v.l, Told u) : Tells 80 v (BB v) := by
  rw [bb_eq]
  exact refBlock_of v _ hb fun _ => tf_of hb H
theorem de_of (v : V) (hb : v.bulk ≤ 4194304) (HG : ∀ u ∈ v.l, ∀ x ∈ u.l, Told x) : Tells 78 v (DD v) := by
  rw [dd_eq]
  exact refDecls_of v _ hb fun u hu => tx_of (kid_bulk hu hb) fun x hx => (HG u hu x hx).ex
/-- a statement, kind for kind -/
theorem rst_of (v : V) (hb : v.bulk ≤ 4194304) (H : ∀ u ∈ v.l, Told u) (HG : ∀ u ∈ v.l, ∀ x ∈ u.l, Told x) : Tells 62 v (SS v) := by
  have TX : TellsX v (v.l.all EE) := tx_of hb fun u hu => (H u hu).ex
  have EM : ∀ u ∈ v.l, Tells 83 u (empV u) := fun u hu => refEmpty_any u (kid_bulk hu hb)
  by_cases h : 22 ≤ v.k ∧ v.k ≤ 40 ∧ ¬ v.k = 23 ∧ ¬ v.k = 37 ∧ ¬ v.k = 39
  · obtain ⟨k, hk⟩ : ∃ k, v.k = k := ⟨_, rfl⟩
    rw [hk] at h
    have hc : k = 22 ∨ k = 24 ∨ k = 25 ∨ k = 26 ∨ k = 27 ∨ k = 28 ∨ k = 29 ∨ k = 30 ∨ k = 31 ∨ k = 32 ∨ k = 33 ∨ k = 34 ∨ k = 35 ∨ k = 36 ∨ k = 38 ∨ k = 40 := by omega
    clear h
    rcases hc with rfl | rfl | rfl | rfl | rfl | rfl | rfl | rfl | rfl | rfl | rfl | rfl | rfl | rfl | rfl | rfl
    · rw [ss_same hk (by decide) (by decide)]; exact rst_22 v hb hk _ (de_of v hb HG)
    · by_cases hl : v.l.length = 1
      · obtain ⟨a, hl⟩ := cut1 hl
        rw [ss_1 hk (by decide) (kids_24 hk) hl]; exact rst_24 v a _ hb hk hl (H a (by rw [hl]; simp)).ex
      · rw [ss_1n hk (by decide) (kids_24 hk) hl]; exact rst_24n v hb hk hl
    · rw [ss_same hk (by decide) (by decide)]; exact rst_25 v hb hk _ (bl_of v hb H)
    · by_cases hl : v.l.length = 2
      · obtain ⟨a, b, hl⟩ := cut2 hl
        rw [ss_26a hk hl]; exact rst_26a v a b _ _ hb hk hl (H a (by rw [hl]; simp)).ex (H b (by rw [hl]; simp)).bl
      · by_cases hl3 : v.l.length = 3
        · obtain ⟨a, b, c, hl⟩ := cut3 hl3
          rw [ss_26b hk hl]; exact rst_26b v a b c _ _ _ hb hk hl (H a (by rw [hl]; simp)).ex (H b (by rw [hl]; simp)).bl (H c (by rw [hl]; simp)).bl
        · rw [ss_26n hk hl hl3]; exact rst_26n v hb hk hl hl3
    · by_cases hl : v.l.length = 2
      · obtain ⟨a, b, hl⟩ := cut2 hl
        rw [ss_27 hk hl]; exact rst_27 v hb hk _ (loop_27 v a b _ _ hk hl (H a (by rw [hl]; simp)).ex (H b (by rw [hl]; simp)).bl)
      · rw [ss_27n hk hl]; exact rst_27 v hb hk _ (loop_27n v hk hl)
    · by_cases hl : v.l.length = 2
      · obtain ⟨a, b, hl⟩ := cut2 hl
        rw [ss_28 hk hl]; exact rst_28 v hb hk _ (loop_28 v a b _ _ hk hl (H a (by rw [hl]; simp)).bl (H b (by rw [hl]; simp)).ex)
      · rw [ss_28n hk hl]; exact rst_28 v hb hk _ (loop_28n v hk hl)
    · by_cases hl : v.l.length = 4
      · obtain ⟨a, b, c, d, hl⟩ := cut4 hl
        rw [ss_29 hk hl]
        exact rst_29 v hb hk _ (loop_29 v a b c d _ _ _ _ _ _ _ _ hk hl (H a (by rw [hl]; simp)).de (H a (by rw [hl]; simp)).ex (EM a (by rw [hl]; simp)) (H b (by rw [hl]; simp)).ex (EM b (by rw [hl]; simp)) (H c (by rw [hl]; simp)).ex (EM c (by rw [hl]; simp)) (H d (by rw [hl]; simp)).bl)
      · rw [ss_29n hk hl]; exact rst_29 v hb hk _ (loop_29n v hk hl)
    · by_cases hl : v.l.length = 3
      · obtain ⟨a, b, c, hl⟩ := cut3 hl
        have Ha := H a (by rw [hl]; simp)
        have Hb := H b (by rw [hl]; simp)
        have Hc := H c (by rw [hl]; simp)
        by_cases ha : a.k = 22
        · by_cases hal : a.l.length = 1
          · obtain ⟨x0, hal⟩ := cut1 hal
            rw [ss_30a2 hk hl ha hal]; exact rst_30 v hb hk _ (loop_30a2 v a b c x0 _ _ _ hk ha hal hl Hb.ex Hc.bl Ha.de)
          · rw [ss_30a1 hk hl ha hal]; exact rst_30 v hb hk _ (loop_30a1 v a b c _ _ _ hk ha hal hl Hb.ex Hc.bl Ha.de)
        · rw [ss_30b hk hl ha]; exact rst_30 v hb hk _ (loop_30b v a b c _ _ _ _ hk ha hl Hb.ex Hc.bl (fun x w hx => refIsTarget_any a x w hx) Ha.ex)
      · rw [ss_30n hk hl]; exact rst_30 v hb hk _ (loop_30n v hk hl)
    · rw [ss_leaf hk (by decide) (by decide) (kids_31 hk)]; exact rst_31 v hb hk
    · rw [ss_leaf hk (by decide) (by decide) (kids_32 hk)]; exact rst_32 v hb hk
    · rw [ss_33 hk]; exact rst_33 v hb hk _ TX
    · by_cases hl : v.l.length = 1
      · obtain ⟨a, hl⟩ := cut1 hl
        rw [ss_1 hk (by decide) (kids_34 hk) hl]; exact rst_34 v a _ hb hk hl (H a (by rw [hl]; simp)).ex
      · rw [ss_1n hk (by decide) (kids_34 hk) hl]; exact rst_34n v hb hk hl
    · by_cases hl : v.l.length = 3
      · obtain ⟨a, b, c, hl⟩ := cut3 hl
        rw [ss_35 hk hl]
        exact rst_35 v a b c _ _ _ _ _ hb hk hl (H a (by rw [hl]; simp)).bl (H b (by rw [hl]; simp)).bl (EM b (by rw [hl]; simp)) (H c (by rw [hl]; simp)).bl (EM c (by rw [hl]; simp))
      · rw [ss_35n hk hl]; exact rst_35n v hb hk hl
    · rcases hl : v.l with _ | ⟨a, r⟩
      · rw [ss_36n hk hl]; exact rst_36n v hb hk hl
      · have hC := tc_of hb HG
        rw [hl, List.tail_cons] at hC
        rw [ss_36 hk hl]; exact rst_36 v a r _ _ hb hk hl (H a (by rw [hl]; simp)).ex hC
    · by_cases hl : v.l.length = 1
      · obtain ⟨a, hl⟩ := cut1 hl
        rw [ss_38 hk hl]; exact rst_38 v a _ hb hk hl (H a (by rw [hl]; simp)).st
      · rw [ss_38n hk hl]; exact rst_38n v hb hk hl
    · rw [ss_leaf hk (by decide) (by decide) (kids_40 hk)]; exact rst_40 v hb hk
  · rw [SS_no h]
    exact rstmt_other v hb fun m hm => by
      intro e
      simp only [List.mem_cons, List.not_mem_nil, or_false] at hm
      omega
theorem told_any : ∀ (n : Nat) (v : V), v.size ≤ n → v.bulk ≤ 4194304 → Told v
  | 0, v, h, _ => by have := size_pos v; omega
  | n + 1, v, h, hb => by
    have H : ∀ u ∈ v.l, Told u := fun u hu => told_any n u (by have := size_kid hu; omega) (kid_bulk hu hb)
    have HG : ∀ u ∈ v.l, ∀ x ∈ u.l, Told x := fun u hu x hx => told_any n x (by have := size_kid hu; have := size_kid hx; omega) (kid_bulk hx (kid_bulk hu hb))
    exact ⟨rex_of v hb H HG, rst_of v hb H HG, bl_of v hb H, de_of v hb HG, tl_of hb H⟩
end Go.Proofs.Ytgehgccgologpaa.R
namespace Go.Proofs.Ytgehgccgologpaa.R
open Go.RowKit Go.Proofs.Ytgehgccgologpaa Go.Proofs.Ytgehgccgologpaa.T
theorem chk_eq (v : V) : v.chk = (if v.k = 41 ∧ (fields (ctch3 v) v && v.l.all FF) = true then (if 64 < v.deep then 31 else 0) else 70) := by
  unfold V.chk
  by_cases h : v.k = 41
  · have e : (fields (ctch3 v) v && v.l.all FF) = v.ok := by
      rw [ok_cut v (by omega), kids_41 h, all_oks]
      rfl
    rw [e]
  · rw [if_neg (fun e => h e.1), if_neg (fun e => h e.1)]
set_option maxRecDepth 8000 in
set_option maxHeartbeats 1000000 in
theorem refCheck_any (v : V) (x : X) (w : World) (hx : Is w v x) (hb : v.bulk ≤ 4194304) :
    Calls Try.prog 18 #[x.v] w fun e w' => e = .returned (.int .i64 v.chk) ∧ Below w.heap.size w w' := by
  have HC := Lib.hid (chk_eq v)
  have HO := Lib.hid fun w' (hb' : Below w.heap.size w w') => own_any v x w' (Is.below hb' _ _ hx) hb
  have HD := Lib.hid fun w' (h2 : Below w.heap.size w w') => refDeep_any v x w' (Is.below h2 _ _ hx) hb
  have hdb : (v.deep : Int) ≤ 4194304 := by have := deep_le_size v; have := size_le_bulk v; omega
  obtain ⟨xka, xkc, xla, xlc, rfl, -, -, -, hrow⟩ := hx.open
  have HT := Lib.hid fun w' (h2 : Below w.heap.size w w') => (told_any v.size v (Nat.le_refl _) hb).tl xla xlc w' (RowB.below hrow h2)
  obtain ⟨W0, hW0⟩ : ∃ W0, w.alloc (.cells #[.int .i64 v.k, .string v.nm, .int .i64 v.n, .string v.s, .slice xka v.ks.length xkc, .slice xla v.l.length xlc] 25) = W0 := ⟨_, rfl⟩
  have HB0 : Hid (Below w.heap.size w W0) := by rw [← hW0]; exact below_alloc _ _
  have HF : Hid (∀ w', Below W0.heap.size W0 w' → At w' w.heap.size 0 ⟨v.k, v.nm, v.n, v.s, xka, v.ks.length, xkc, xla, v.l.length, xlc⟩) := fun w' hb => by
    have h0 : At W0 w.heap.size 0 ⟨v.k, v.nm, v.n, v.s, xka, v.ks.length, xkc, xla, v.l.length, xlc⟩ := by rw [← hW0]; exact at_row (hp_new rfl) rfl rfl rfl rfl rfl rfl
    exact h0.below (B := W0.heap.size) (by rw [← hW0]; simp) hb
  have HBX := Lib.hid (below_alloc w)
  have HW0 := Lib.hid hW0
  have HDP : Hid (decide ((64 : Int) < (v.deep : Int)) = decide (64 < v.deep)) := by
    show _ = _
    rw [Bool.eq_iff_iff, decide_eq_true_eq, decide_eq_true_eq]
    omega
  simp only [X.v] at HO HD ⊢
  clear hx hb hW0 hrow
  generalize v.chk = ch at *
  generalize fields (ctch3 v) v = bo at *
  generalize v.l.all FF = bs at *
  generalize v.nm = nm at *
  generalize v.n = n at *
  generalize v.s = s at *
  generalize v.ks.length = kn at *
  generalize v.l.length = ln at *
  generalize v.deep = dp at *
  generalize v.k = k at *
  by_cases hk : k = 41
  rotate_left
  · have hq : (k == 41) = false := by rw [beq_eq_false_iff_ne]; exact hk
    have hq2 : (k != 41) = true := bne_iff_ne.2 hk
    have HR : Hid (ch = 70) := by
      show _ = _
      rw [HC.out, if_neg (fun e => hk e.1)]
    clear hk HC
    go_enter Try.func18, Try.ntmps18
    go_wp2_with fail
    go_ret
    exact ⟨by rw [HR.out]; rfl, HBX.out _⟩
  subst hk
  go_enter Try.func18, Try.ntmps18
  go_wp2_with fail
  rw [HW0.out]
  clear HW0
  refine (HO.out _ HB0.out).mono ?_
  rintro e w1 ⟨rfl, hb1⟩
  have HC1 := Lib.hid hb1
  have HB1 := Lib.hid (HB0.out.trans (hb1.mono HB0.out.size))
  obtain ⟨c0, c1, c2, c3, c4, c5⟩ := HF.out _ hb1
  dsimp only at c0 c1 c2 c3 c4 c5
  clear hb1
  cases bo
  · have HR : Hid (ch = 70) := by
      show _ = _
      rw [HC.out, if_neg (fun e => by have := e.2; simp at this)]
    clear HC
    go_wp2_with fail
    go_ret
    exact ⟨by rw [HR.out]; rfl, HB1.out⟩
  go_wp2_with fail
  refine (HT.out _ HB1.out).mono ?_
  rintro e w2 ⟨rfl, hb2⟩
  have HC2 := Lib.hid (HC1.out.trans (hb2.mono HC1.out.size))
  have HB2 := Lib.hid (HB0.out.trans (HC2.out.mono HB0.out.size))
  clear hb2 c0 c1 c2 c3 c4 c5
  obtain ⟨c0, c1, c2, c3, c4, c5⟩ := HF.out _ HC2.out
  dsimp only at c0 c1 c2 c3 c4 c5
  cases bs
  · have HR : Hid (ch = 70) := by
      show _ = _
      rw [HC.out, if_neg (fun e => by have := e.2; simp at this)]
    clear HC
    go_wp2_with fail
    go_ret
    exact ⟨by rw [HR.out]; rfl, HB2.out⟩
  have HR : Hid (ch = if 64 < dp then 31 else 0) := by
    show _ = _
    rw [HC.out]
    exact if_pos (by simp)
  clear HC
  go_wp2_with fail
  refine (HD.out _ HB2.out).mono ?_
  rintro e w3 ⟨rfl, hb3⟩
  have HB3 := Lib.hid (HB2.out.trans (hb3.mono HB2.out.size))
  clear hb3 c0 c1 c2 c3 c4 c5
  by_cases hd : 64 < dp
  · have hdi : (64 : Int) < (dp : Int) := by omega
    have HR2 : Hid (ch = 31) := by
      show _ = _
      rw [HR.out, if_pos hd]
    clear HR hd
    go_wp2_with fail
    go_ret
    exact ⟨by rw [HR2.out]; rfl, HB3.out⟩
  · have hdi : (dp : Int) ≤ 64 := by omega
    have HR2 : Hid (ch = 0) := by
      show _ = _
      rw [HR.out, if_neg hd]
    clear HR hd
    go_wp2_with fail
    go_ret
    exact ⟨by rw [HR2.out]; rfl, HB3.out⟩
end Go.Proofs.Ytgehgccgologpaa.R
