/-
  Laid by wip/prune.py out of wip/data: Size Find Chk.
-/
import Derived.Test.YtnkknlhdbhfjlaaB
import Derived.Deep.LoopGhost
namespace Go.Proofs.Ytnkknlhdbhfjlaa
open Go.RowKit

theorem snoc_of {α : Type} (l : List α) (h : l ≠ []) : ∃ r x, l = r ++ [x] := ⟨l.dropLast, l.getLast h, (List.dropLast_concat_getLast h).symm⟩
theorem sumL_one (f : List V → Nat) (st : List Pl) (p : Pl) : sumL f (st ++ [p]) = sumL f st + f p.l := by
  rw [sumL_append]
  simp [sumL]
/-- the first stack: the value itself -/
def first (g : Nat) (v : V) : Pl := ⟨some ⟨g, 0, none⟩, 1, [v], 1⟩
theorem first_stk {w : World} {g : Nat} {v : V} (hg : g + 1 < w.heap.size) (hown : w.ownsRow 0 51 2 (.slice (some ⟨g + 1, 0, none⟩) 1 1) 1 [.slice (some ⟨g, 0, none⟩) 1 1, .int .i64 1]) :
    Stk (w.alloc (.cells #[.slice (some ⟨g + 1, 0, none⟩) 1 1] 48)) (fun k => k < g + 1) w.heap.size ([first g v].map Pl.pr) := by
  refine ⟨_, by simp, by simp, by simp, by omega, hown.alloc _, fun k hk => ?_⟩
  have : g + 1 = k := by simpa [Value.ownBlock] using hk
  omega
theorem RowsTo {w w' : World} {B : Nat} {st : List Pl} (h : Rows w B st) (hb : Below B w w') : Rows w' B st := fun p hp => ⟨(h p hp).1.to hb (Nat.le_refl _), (h p hp).2⟩
theorem first_row {w w1 : World} {g : Nat} {v : V} {x : X} (h : Is w v x) (hb : Below w.heap.size w w1) (hg : w.heap.size ≤ g) (hh : w1.heap[g]? = some (.cells x.cells 25 (0, 0))) : Rows w1 (g + 1) [first g v] := by
  intro p hp
  simp at hp
  subst hp
  refine ⟨.inr ⟨g, 0, rfl, by omega, ?_⟩, by simp [first]⟩
  show IsAllB w1 (g + 1) g 0 [v]
  rw [IsAllB]
  exact ⟨⟨x, at_of_block hh, IsB.to hb (by omega) _ _ h⟩, by simp [IsAllB]⟩
/-- the first element that is wrong, by its index -/
def badAt : List V → Nat → Int
  | [], _ => -1
  | v :: r, i => if v.own = true then badAt r (i + 1) else i
theorem badAt_skip (l : List V) (j i : Nat) (h : ∀ u ∈ l.take j, u.own = true) (hj : j ≤ l.length) : badAt l i = badAt (l.drop j) (i + j) := by
  induction j generalizing l i with
  | zero => simp
  | succ j ih =>
    cases l with
    | nil => simp at hj
    | cons v r =>
      rw [badAt, if_pos (h v (by simp)), List.drop_succ_cons, ih r (i + 1) (fun u hu => h u (by simp [hu])) (by simpa using hj)]
      congr 1
      omega
theorem badAt_hit (l : List V) (j : Nat) (hj : j < l.length) (h : ∀ u ∈ l.take j, u.own = true) (h1 : l[j].own = false) : badAt l 0 = j := by
  rw [badAt_skip l j 0 h (by omega), List.drop_eq_getElem_cons hj, badAt, if_neg (by rw [h1]; decide)]
  omega
theorem badAt_none (l : List V) (h : ∀ u ∈ l.take l.length, u.own = true) : badAt l 0 = -1 := by
  rw [badAt_skip l l.length 0 h (Nat.le_refl _), List.drop_length]
  rfl
theorem badAt_neg (l : List V) : (decide (0 ≤ badAt l 0) = !(l.all V.own)) := by
  suffices h : ∀ i : Nat, (decide (0 ≤ badAt l i) = !(l.all V.own)) from h 0
  induction l with
  | nil => intro i; rfl
  | cons v r ih =>
    intro i
    rw [badAt, List.all_cons]
    cases h : v.own
    · simp
    · simp only [if_true, Bool.true_and]
      exact ih (i + 1)
theorem own_snoc {l : List V} {j : Nat} (h : j < l.length) (h1 : ∀ u ∈ l.take j, u.own = true) (h2 : l[j].own = true) : ∀ u ∈ l.take (j + 1), u.own = true := by
  intro u hu
  rw [snoc_get l j h, List.mem_append, List.mem_singleton] at hu
  rcases hu with hu | rfl
  · exact h1 u hu
  · exact h2
set_option maxRecDepth 8000 in
set_option maxHeartbeats 1000000 in
theorem indexFunc_any (A : Option Addr) (l : List V) (c : Nat) (w : World) (h : Row w A l) (hb : V.bulks l ≤ 4194304) :
    Calls Try.prog 44 #[.slice A l.length c, .func (.func 27) #[] #[]] w fun e w' => e = .returned (.int .i64 (badAt l 0)) ∧ Below w.heap.size w w' := by
  have hll : l.length ≤ 4194304 := Nat.le_trans (length_le_bulks l) hb
  go_enter Try.func44, Try.ntmps44
  go_wp2_with fail
  go_loopw [8] (fun i wr => ∃ j : Nat, j ≤ l.length ∧ i = .int .i64 j ∧ Hid (∀ u ∈ l.take j, u.own = true) ∧ Below w.heap.size w wr)
    (fun i _ => l.length - (intOf i).toNat)
  case atStart => exact ⟨0, Nat.zero_le _, rfl, fun u hu => by simp at hu, Below.refl _ _⟩
  case round =>
    obtain ⟨j, hj, rfl, ho, hbw⟩ := hrel
    by_cases hlt : j < l.length
    · obtain ⟨g, o, rfl, hg, y, hy, hv⟩ := h.at_ hlt
      have hy' := hy.below hg hbw
      obtain ⟨c0, c1, c2, c3, c4⟩ := hy'
      obtain ⟨ka', kc', la', lc', rfl, h1', h2', h3', h4'⟩ := hv.open
      have hr := Lib.hid (wrong_any l[j] _ wr (Is.below hbw _ _ hv) (Nat.le_trans (bulk_le_of_mem (List.getElem_mem hlt)) hb))
      have HH := Lib.hid (badAt_hit l j hlt ho.out)
      have HN := Lib.hid (own_snoc hlt ho.out)
      simp only [X.v] at *
      generalize l[j] = u at *
      obtain ⟨B, hB⟩ : ∃ B, B = u.own := ⟨_, rfl⟩
      have HB := Lib.hid hB
      rw [← hB] at hr
      clear hv hy hB h
      cases B with
      | true =>
        go_wp2_with fail
        refine hr.out.mono ?_
        rintro e w1 ⟨rfl, hb1⟩
        have hb2 := hbw.trans (hb1.mono hbw.size)
        clear c0 c1 c2 c3 c4 hb1 hbw
        go_wp2_with fail
        go_roundw
        case rel => exact ⟨j + 1, by omega, by go_num, HN.out HB.out.symm, hb2⟩
        case measure => simp [intOf]; omega
      | false =>
        have HV := Lib.hid (HH.out HB.out.symm)
        go_wp2_with fail
        refine hr.out.mono ?_
        rintro e w1 ⟨rfl, hb1⟩
        have hb2 := hbw.trans (hb1.mono hbw.size)
        clear c0 c1 c2 c3 c4 hb1 hbw
        go_wp2_with fail
        go_ret
        exact ⟨by rw [HV.out]; rfl, hb2⟩
    · obtain rfl : j = l.length := by omega
      have HV := Lib.hid (badAt_none l ho.out)
      go_wp2_with fail
      go_ret
      exact ⟨by rw [HV.out]; rfl, hbw⟩
theorem contains_any (A : Option Addr) (l : List V) (c : Nat) (w : World) (h : Row w A l) (hb : V.bulks l ≤ 4194304) :
    Calls Try.prog 26 #[.slice A l.length c, .func (.func 27) #[] #[]] w fun e w' => e = .returned (.bool (!(l.all V.own))) ∧ Below w.heap.size w w' := by
  have HI := Lib.hid (indexFunc_any A l c w h hb)
  have HN := Lib.hid (badAt_neg l)
  generalize badAt l 0 = i at *
  clear h
  go_enter Try.func26, Try.ntmps26
  go_wp2_with fail
  refine HI.out.mono ?_
  rintro e w1 ⟨rfl, hb1⟩
  go_wp2_with fail
  go_ret
  exact ⟨by rw [← HN.out]; rfl, hb1⟩
def mayL : List Pl → Bool
  | [] => true
  | p :: r => V.mays p.l && mayL r
def deepL : List Pl → Nat
  | [] => 0
  | p :: r => max (p.d + V.deeps p.l) (deepL r)
theorem mayL_append (a b : List Pl) : mayL (a ++ b) = (mayL a && mayL b) := by
  induction a with
  | nil => simp [mayL]
  | cons x r ih => simp only [List.cons_append, mayL, ih, Bool.and_assoc]
theorem deepL_append (a b : List Pl) : deepL (a ++ b) = max (deepL a) (deepL b) := by
  induction a with
  | nil => simp [deepL]
  | cons x r ih => simp only [List.cons_append, deepL, ih]; omega
theorem mays_eq (l : List V) : V.mays l = (l.all V.own && l.all fun u => V.mays u.l) := by
  induction l with
  | nil => rfl
  | cons v r ih =>
    rw [V.mays, may_eq, ih, List.all_cons, List.all_cons]
    cases v.own <;> cases V.mays v.l <;> simp
theorem kidsP_may {w : World} {B : Nat} (d : Nat) (ps : List (V × X)) (h : ∀ p ∈ ps, IsB w B p.1 p.2) : mayL (kidsP d ps) = (ps.map (·.1)).all fun u => V.mays u.l := by
  unfold kidsP
  induction ps with
  | nil => rfl
  | cons p r ih =>
    have ih := ih fun q hq => h q (by simp [hq])
    have hl := is_len (h p (by simp))
    rw [List.filter_cons]
    by_cases h0 : 0 < p.2.ln
    · simp only [h0, decide_true, if_true, List.map_cons, mayL, ih, List.all_cons]
    · simp only [h0, decide_false, Bool.false_eq_true, if_false, ih, List.map_cons, List.all_cons]
      have : p.1.l = [] := List.eq_nil_of_length_eq_zero (by omega)
      rw [this]
      simp [V.mays]
theorem kidsP_deep {w : World} {B : Nat} (d : Nat) (ps : List (V × X)) (h : ∀ p ∈ ps, IsB w B p.1 p.2) : max (d + 1) (deepL (kidsP d ps)) = max (d + 1) (d + V.deeps (ps.map (·.1))) := by
  unfold kidsP
  induction ps with
  | nil => simp [deepL, V.deeps]
  | cons p r ih =>
    have ih := ih fun q hq => h q (by simp [hq])
    have hl := is_len (h p (by simp))
    have hd : p.1.deep = V.deeps p.1.l + 1 := by cases p.1; rfl
    rw [List.filter_cons]
    by_cases h0 : 0 < p.2.ln
    · simp only [h0, decide_true, if_true, List.map_cons, deepL, V.deeps]
      omega
    · simp only [h0, decide_false, Bool.false_eq_true, if_false, List.map_cons, V.deeps]
      have : p.1.l = [] := List.eq_nil_of_length_eq_zero (by omega)
      rw [this, V.deeps] at hd
      omega
theorem deeps_pos (l : List V) (h : 1 ≤ l.length) : 1 ≤ V.deeps l := by
  cases l with
  | nil => simp at h
  | cons v r =>
    have hd : v.deep = V.deeps v.l + 1 := by cases v; rfl
    rw [V.deeps]
    omega
set_option maxRecDepth 8000 in
set_option maxHeartbeats 1000000 in
theorem chk_any (v : V) (x : X) (w : World) (h : Is w v x) (hbk : v.bulk ≤ 4194304) :
    Calls Try.prog 17 #[x.v] w fun e w' => e = .returned (.int .i64 v.chk) ∧ Below w.heap.size w w' := by
  have HW := Lib.hid fun w' => walkOf_any x w'
  have HX := Lib.hid h
  have hdp : v.deep ≤ 4194304 := Nat.le_trans (deep_le_size v) (Nat.le_trans (size_le_bulk v) hbk)
  have HV : Hid (v.chk = if v.may = true then (if 20 < v.deep then 31 else 0) else 30) := Lib.hid rfl
  obtain ⟨k, n, s, ka, kn, kc, la, ln, lc⟩ := x
  simp only [X.v] at *
  clear h
  go_enter Try.func17, Try.ntmps17
  go_wp2_with fail
  refine (HW.out _).mono ?_
  rintro e w1 ⟨g, rfl, hg0, hg1, hh, hown, hb1⟩
  have hg0' : w.heap.size ≤ g := by simp at hg0; omega
  have HB1 := Lib.hid ((below_alloc w (.cells #[.int .i64 k, .int .i64 n, .string s, .slice ka kn kc, .slice la ln lc] 25)).trans (hb1.mono (by simp)))
  have HR := Lib.hid (first_row HX.out HB1.out hg0' hh)
  have HS := Lib.hid (first_stk (v := v) hg1 hown)
  clear hown hh hb1 HW
  go_wp2_with fail
  have hgw : g + 1 < (w1.alloc (.cells #[.slice (some ⟨g + 1, 0, none⟩) 1 1] 48)).heap.size := by simp; omega
  have HB2 := Lib.hid (HB1.out.trans ((below_alloc w1 (.cells #[.slice (some ⟨g + 1, 0, none⟩) 1 1] 48)).mono HB1.out.size))
  have HR2 := Lib.hid (RowsTo HR.out ((below_alloc w1 (.cells #[.slice (some ⟨g + 1, 0, none⟩) 1 1] 48)).mono (by omega)))
  generalize w1.heap.size = b1 at *
  generalize w1.alloc (.cells #[.slice (some ⟨g + 1, 0, none⟩) 1 1] 48) = w2 at *
  clear HR HB1
  have hF : ∀ k, k < g + 1 → k < w2.heap.size := fun k hk => by omega
  have HF := Lib.hid hF
  clear hF
  go_loopg [3, 4] v.bulk (fun q t p wr => ∃ (m b : Nat) (st : List Pl), t = .int .i64 m ∧ p = .pointer (some ⟨b, 0, none⟩) ∧ Stk wr (fun k => k < g + 1) b (st.map Pl.pr) ∧ Fr (fun k => k < g + 1) w2 wr ∧ Hid (Rows w2 (g + 1) st) ∧
    Hid (v.may = mayL st) ∧ Hid (v.deep + 1 = max (m + 1) (deepL st)) ∧ sumL V.bulks st ≤ q ∧ q ≤ 4194304 ∧ Hid (∀ p ∈ st, p.d + q ≤ 4194305))
  case atStart =>
    refine ⟨0, b1, [first g v], rfl, rfl, HS.out, Fr.refl _ _, HR2.out, ?_, ?_, ?_, hbk, ?_⟩
    · show v.may = mayL [first g v]
      simp [mayL, first, V.mays]
    · show v.deep + 1 = max (0 + 1) (deepL [first g v])
      simp [deepL, first, V.deeps]
      omega
    · simp [sumL, first, V.bulks]
    · intro p hp
      simp at hp
      subst hp
      show 1 + v.bulk ≤ _
      omega
  case round =>
    obtain ⟨m, b, st, rfl, rfl, hstk, hfr, hrows, hmay, hdeep, hload, hq, hdep⟩ := hrel
    have hm2 : m ≤ 4194304 := by
      have := hdeep.out
      omega
    by_cases h0 : st = []
    · subst h0
      obtain ⟨A, c, hc⟩ := hstk.open
      have hdm : v.deep = m := by
        have := hdeep.out
        rw [deepL] at this
        omega
      have HM : Hid (v.chk = if 20 < m then 31 else 0) := by
        show v.chk = _
        rw [HV.out, hmay.out, hdm]
        simp [mayL]
      clear hstk hmay hdeep hdm
      by_cases h20 : 20 < m
      all_goals
        go_wp2_with fail
        go_ret
        refine ⟨by rw [HM.out]; simp [h20], ?_⟩
        exact HB2.out.trans ((hfr.mono fun k (hk : k < w.heap.size) => by omega).below)
    · obtain ⟨st', p, rfl⟩ := snoc_of st h0
      obtain ⟨A, c, hc⟩ := hstk.open
      rw [List.map_append] at hstk hc
      have hlen : ((st'.map Pl.pr) ++ [p].map Pl.pr).length = st'.length + 1 := by simp
      rw [hlen] at hc
      have hst' : st'.length ≤ 4194304 := by
        have h1 := rows_len (st := st' ++ [p]) hrows.out
        simp at h1
        omega
      have HL := Lib.hid (leave_any (fun k => k < g + 1) b (st'.map Pl.pr) p.pr wr (fun k hk => Nat.lt_of_lt_of_le (HF.out k hk) hfr.size) hstk (by simp; exact hst'))
      clear hstk h0 hlen
      go_wp2_with fail
      refine HL.out.mono ?_
      rintro e wl ⟨rfl, hstk, hfr1⟩
      have hp := hrows.out p (by simp)
      obtain ⟨ps, hps1, hps2, hps3⟩ := row_pairs hp.1
      have hd := hdep.out p (by simp)
      have hsb := sum_bulks p.l
      have hk2 := kidsP_sum V.bulks rfl p.d ps hps3
      have hk3 := kidsP_may p.d ps hps3
      have hk4 := kidsP_deep p.d ps hps3
      rw [hps1] at hk2 hk3 hk4
      have hlp : 1 ≤ p.l.length := by
        cases hl : p.l with
        | nil => exact absurd hl hp.2
        | cons _ _ => simp
      have hdpos := deeps_pos p.l hlp
      rw [sumL_one] at hload
      have hll := length_le_bulks p.l
      have hyl : (ps.map (·.2)).length = p.l.length := by rw [← hps1]; simp
      have hfr2 := hfr.trans hfr1
      have hmay' := hmay.out
      have hdeep' := hdeep.out
      rw [mayL_append, mayL, mayL, Bool.and_true, mays_eq] at hmay'
      rw [deepL_append, deepL, deepL] at hdeep'
      have HC := Lib.hid fun w' (h2 : Fr (fun k => k < g + 1) w2 w') =>
        contains_any p.A p.l p.c w' (hp.1.to h2.below (Nat.le_of_lt (Nat.lt_of_lt_of_le hgw h2.size))) (by omega)
      have HE := Lib.hid fun w' (h1 : Stk w' (fun k => k < g + 1) b (st'.map Pl.pr)) (h2 : Fr (fun k => k < g + 1) w2 w') =>
        enter_any (fun k => k < g + 1) b (st'.map Pl.pr) p.A (ps.map (·.2)) p.c p.d w' (fun k hk => Nat.lt_of_lt_of_le (HF.out k hk) h2.size) h1 (hps2.fr (fun _ h => h) h2) (by
          rw [hyl]
          have h2 := rows_len (st := st') fun q hq => hrows.out q (by simp [hq])
          simp
          omega) (by omega) (by omega)
      rw [hyl] at HE
      have HKP := Lib.hid (kidsP_pr p.d ps hps3)
      have HR' : Hid (Rows w2 (g + 1) (st' ++ kidsP p.d ps)) := by
        intro q hq
        rcases List.mem_append.1 hq with hq | hq
        · exact hrows.out q (by simp [hq])
        · exact kidsP_rows p.d ps hps3 q hq
      have HD' : Hid (∀ x ∈ st' ++ kidsP p.d ps, x.d + (gk - 1) ≤ 4194305) := by
        intro x hx
        rcases List.mem_append.1 hx with hx | hx
        · have := hdep.out x (by simp [hx])
          omega
        · unfold kidsP at hx
          obtain ⟨y, _, rfl⟩ := List.mem_map.1 hx
          show p.d + 1 + _ ≤ _
          omega
      have HY' : Hid (v.deep + 1 = max (max m p.d + 1) (deepL (st' ++ kidsP p.d ps))) := by
        show v.deep + 1 = _
        rw [deepL_append]
        omega
      have HM' : Hid (v.may = (p.l.all V.own && mayL (st' ++ kidsP p.d ps))) := by
        show v.may = _
        rw [mayL_append, hmay', hk3]
        cases p.l.all V.own <;> cases mayL st' <;> simp
      have hload' : sumL V.bulks (st' ++ kidsP p.d ps) ≤ gk - 1 := by
        rw [sumL_append, hk2]
        omega
      have HMX := max_nat m p.d
      have hpd : p.d ≤ 4194305 := by omega
      obtain ⟨O, hO⟩ : ∃ O : Bool, O = p.l.all V.own := ⟨_, rfl⟩
      rw [← hO] at HC HM'
      generalize hpl : p.l.length = pn at *
      generalize kidsP p.d ps = kp at *
      unfold Pl.pr Pr.v
      simp only [hpl]
      have hgk : 1 ≤ gk := by omega
      clear hp hps1 hps2 hps3 hd hsb hk2 hk3 hk4 hmay' hdeep' hmay hdeep hll hyl hfr hfr1 hdep hrows hload hpl hO hdpos
      cases O with
      | false =>
        have HM2 : Hid (v.chk = 30) := by
          show v.chk = 30
          rw [HV.out, HM'.out]
          rfl
        go_wp2_with fail
        refine (HC.out _ (hfr2.alloc HF.out _)).mono ?_
        rintro e wc ⟨rfl, hbc⟩
        go_wp2_with fail
        go_ret
        refine ⟨by rw [HM2.out]; rfl, ?_⟩
        exact HB2.out.trans ((((hfr2.alloc HF.out _).trans (Fr.of hbc fun k hk => Nat.lt_of_lt_of_le (HF.out k hk) (hfr2.alloc HF.out _).size)).mono fun k (hk : k < w.heap.size) => by omega).below)
      | true =>
        go_wp2_with fail
        refine (HC.out _ (hfr2.alloc HF.out _)).mono ?_
        rintro e wc ⟨rfl, hbc⟩
        have c0 : wc.cell? ⟨wl.heap.size, 0, none⟩ = some (.slice p.A pn p.c) := (hbc.cell (p := ⟨wl.heap.size, 0, none⟩) (by simp)).trans (by simp)
        have c1 : wc.cell? ⟨wl.heap.size, 1, none⟩ = some (.int .i64 p.d) := (hbc.cell (p := ⟨wl.heap.size, 1, none⟩) (by simp)).trans (by simp)
        have hstk1 := Lib.hid ((hstk.alloc (.cells #[.slice p.A pn p.c, .int .i64 p.d] 51)).below hbc)
        have hfr3 := Lib.hid ((hfr2.alloc HF.out (.cells #[.slice p.A pn p.c, .int .i64 p.d] 51)).trans (Fr.of hbc fun k hk => Nat.lt_of_lt_of_le (HF.out k hk) (hfr2.alloc HF.out _).size))
        clear hbc hstk hfr2
        go_wp2_with fail
        refine (HE.out _ hstk1.out hfr3.out).mono ?_
        rintro e we ⟨rfl, hstk2, hfr4⟩
        have hfr5 := hfr3.out.trans hfr4
        rw [← HKP.out, ← List.map_append] at hstk2
        obtain ⟨A2, c2, hc2⟩ := hstk2.open
        have hml : (List.map Pl.pr (st' ++ kp)).length = st'.length + kp.length := by simp
        have hmv := Lib.hid (hstk2.move (fun k hk => Nat.lt_of_lt_of_le (HF.out k hk) hfr5.size) hc2)
        rw [hml] at hmv hc2
        clear hstk1 hfr3 hfr4 hstk2 hml c0 c1
        go_wp2_with fail
        go_roundg (gk - 1)
        case measure => omega
        case rel => exact ⟨max m p.d, we.heap.size, st' ++ kp, rfl, rfl, hmv.out, hfr5.alloc HF.out _, HR'.out, HM'.out, HY'.out, hload', by omega, HD'.out⟩
end Go.Proofs.Ytnkknlhdbhfjlaa
