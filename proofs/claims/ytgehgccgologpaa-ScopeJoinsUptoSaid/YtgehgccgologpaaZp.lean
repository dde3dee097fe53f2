/-
  isLabel; isAstray: an early error where it stands.
-/
import Derived.Test.YtgehgccgologpaaZo
namespace Go.Proofs.Ytgehgccgologpaa.Z
open Go.RowKit Go.Shelf Go.Proofs.Ytgehgccgologpaa Go.Proofs.Ytgehgccgologpaa.R Go.Proofs.Ytgehgccgologpaa.T

theorem str_dec (a b : ByteArray) : decide (a = b) = (a.toList == b.toList) := by
  rw [Bool.eq_iff_iff, decide_eq_true_eq, beq_iff_eq]
  refine ⟨fun e => by rw [e], fun e => ?_⟩
  rw [ByteArray.toList_eq, ByteArray.toList_eq] at e
  exact ByteArray.ext (Array.toList_inj.1 e)
theorem isLabel_any (s : ByteArray) (w : World) :
    Calls Try.prog 50 #[.string s] w fun e w' => e = .returned (.func (.func 70) #[] #[.pointer (some ⟨w.heap.size, 0, none⟩)]) ∧ w' = w.alloc (.cells #[.string s] 9) := by
  go_enter Try.func50, Try.ntmps50
  go_wp2_with fail
  go_ret
  exact ⟨rfl, rfl⟩
set_option maxRecDepth 8000 in
theorem pred_label (s : ByteArray) (b : Nat) (w : World) (hb : b < w.heap.size) (hc : w.cell? ⟨b, 0, none⟩ = some (.string s)) : PredN w 70 #[.pointer (some ⟨b, 0, none⟩)] (isLb s) := by
  intro v y w' hw hy
  obtain ⟨yka, ykc, yla, ylc, rfl, -, -, -, -⟩ := hy.open
  have hc1 : w'.cell? ⟨b, 0, none⟩ = some (.string s) := (hw.cell (p := ⟨b, 0, none⟩) hb).trans hc
  have hbA := below_alloc w' (.cells #[.int .i64 v.k, .string v.nm, .int .i64 v.n, .string v.s, .slice yka v.ks.length ykc, .slice yla v.l.length ylc] 25)
  have hc2 : (w'.alloc (.cells #[.int .i64 v.k, .string v.nm, .int .i64 v.n, .string v.s, .slice yka v.ks.length ykc, .slice yla v.l.length ylc] 25)).cell? ⟨b, 0, none⟩ = some (.string s) := (hbA.cell (p := ⟨b, 0, none⟩) (Nat.lt_of_lt_of_le hb hw.size)).trans hc1
  have HB := Lib.hid hbA
  have hd := (str_dec v.nm s).symm
  simp only [X.v, List.append_toArray, List.cons_append, List.nil_append]
  unfold isLb
  clear hy hw hc hb hbA
  by_cases h : v.k = 38
  · rw [decide_eq_true h, Bool.true_and]
    have hq := beqT h
    clear h hc1
    generalize decide (v.nm = s) = d at *
    go_enter Try.func70, Try.ntmps70
    go_wp2
    go_ret
    exact ⟨rfl, HB.out⟩
  · rw [decide_eq_false h, Bool.false_and]
    have hq := beqF h
    clear h hd hc1
    go_enter Try.func70, Try.ntmps70
    go_wp2
    go_ret
    exact ⟨rfl, HB.out⟩
theorem pred_of {f : Nat} {p : V → Bool} (g : Int → Bool) (h : ∀ (x : X) (w : World), Calls Try.prog f #[x.v] w (AnsB w (g x.k))) (hg : ∀ v, g v.k = p v) (w : World) : PredN w f #[] p := by
  intro v y w' _ hy
  have hk := ((isB_iff _ _ _ _).1 hy).1.1
  have := h y w'
  rw [hk, hg] at this
  exact this
theorem pred_loop (w : World) : PredN w 51 #[] isLp := pred_of kLp isLoop_x (fun _ => rfl) w
theorem pred_ls (w : World) : PredN w 49 #[] isLS := pred_of (fun k => kLp k || decide (k = 36)) isLS_x (fun _ => rfl) w


theorem find_fIdx (p : V → Bool) (l : List V) : (∃ j, ∃ h : j < l.length, fIdx p l = (j : Int) ∧ l.find? p = some l[j]) ∨ (fIdx p l = -1 ∧ l.find? p = none) := by
  unfold fIdx
  cases h : l.findIdx? p with
  | none =>
    rw [List.findIdx?_eq_none_iff] at h
    exact .inr ⟨rfl, List.find?_eq_none.2 fun x hx => by rw [h x hx]; simp⟩
  | some j =>
    obtain ⟨hj, h1, h2⟩ := List.findIdx?_eq_some_iff_getElem.1 h
    exact .inl ⟨j, hj, rfl, List.find?_eq_some_iff_getElem.2 ⟨h1, j, hj, rfl, fun i hi => by have := h2 i hi; simpa using this⟩⟩
/-- what isAstray has at hand -/
structure Ast (w : World) (v : V) (xka : Option Addr) (xkc : Nat) (xla : Option Addr) (xlc : Nat) (y : X) (W0 : World) : Prop where
  bl : Below w.heap.size w W0
  n' : At W0 w.heap.size 0 ⟨v.k, v.nm, v.n, v.s, xka, v.ks.length, xkc, xla, v.l.length, xlc⟩
  b' : At W0 (w.heap.size + 1) 0 y
  lt : w.heap.size + 1 < W0.heap.size
theorem Ast.low {w : World} {v : V} {xka : Option Addr} {xkc : Nat} {xla : Option Addr} {xlc : Nat} {y : X} {W0 W1 : World} (h : Ast w v xka xkc xla xlc y W0) (hb : Below W0.heap.size W0 W1) : Ast w v xka xkc xla xlc y W1 :=
  ⟨h.bl.trans (hb.mono h.bl.size), h.n'.below (Nat.lt_of_succ_lt h.lt) hb, h.b'.below h.lt hb, Nat.lt_of_lt_of_le h.lt hb.size⟩
theorem ast_new (w : World) (v : V) (xka : Option Addr) (xkc : Nat) (xla : Option Addr) (xlc : Nat) (y : X) : ∃ W0, (w.alloc (.cells #[.int .i64 v.k, .string v.nm, .int .i64 v.n, .string v.s, .slice xka v.ks.length xkc, .slice xla v.l.length xlc] 25)).alloc (.cells y.cells 25) = W0 ∧ Ast w v xka xkc xla xlc y W0 := by
  have h1 := pre_new w v xka xkc xla xlc
  have hz : (w.alloc (.cells #[.int .i64 v.k, .string v.nm, .int .i64 v.n, .string v.s, .slice xka v.ks.length xkc, .slice xla v.l.length xlc] 25)).heap.size = w.heap.size + 1 := by simp
  generalize w.alloc (.cells #[.int .i64 v.k, .string v.nm, .int .i64 v.n, .string v.s, .slice xka v.ks.length xkc, .slice xla v.l.length xlc] 25) = w1 at *
  have h2 := at_new w1 y
  rw [hz] at h2
  have h3 := h1.low (below_alloc w1 (.cells y.cells 25))
  exact ⟨_, rfl, h3.bl, h3.at', h2, by simp; omega⟩
set_option maxRecDepth 8000 in
set_option maxHeartbeats 1000000 in
theorem astray_33 (v : V) (x : X) (ar : List V) (A : Option Addr) (c : Nat) (y : X) (w : World) (hx : Is w v x) (har : Row w A ar) (hl : ar.length ≤ 4194304) (hk : v.k = 33) : Calls Try.prog 27 #[x.v, .slice A ar.length c, y.v] w (AnsB w (!kFn y.k)) := by
  obtain ⟨xka, xkc, xla, xlc, rfl, -, -, -, -⟩ := hx.open
  have HT := Lib.hid (ast_new w v xka xkc xla xlc y)
  have HAR := Lib.hid fun w' (h : Below w.heap.size w w') => RowB.below har h
  have HL := Lib.hid hl
  have HF := Lib.hid fun w' => isFunction_x y w'
  obtain ⟨bk, bnm, bn, bs, bka, bkn, bkc, bla, bln, blc⟩ := y
  simp only [X.v, X.cells] at HT HF ⊢
  rw [hk] at HT ⊢
  obtain ⟨W0, hW0, hast⟩ := HT.out
  obtain ⟨c0, c1, c2, c3, c4, c5⟩ := hast.n'.six
  obtain ⟨d0, d1, d2, d3, d4, d5⟩ := hast.b'.six
  have HW0 := Lib.hid hW0
  have HA := Lib.hid hast
  rw [hk] at c0
  clear hx har hl hk hW0 hast HT
  go_enter Try.func27, Try.ntmps27
  go_upto_region 3 with (fail)
  rw [HW0.out]
  go_wp2_with fail
  refine (HF.out _).mono ?_
  rintro e w1 ⟨rfl, hb1⟩
  have HB1 := Lib.hid (HA.out.low hb1).bl
  clear hb1
  go_wp2_with fail
  go_ret
  exact ⟨rfl, HB1.out⟩
set_option maxRecDepth 8000 in
set_option maxHeartbeats 1000000 in
theorem astray_31e (v : V) (x : X) (ar : List V) (A : Option Addr) (c : Nat) (y : X) (w : World) (hx : Is w v x) (har : Row w A ar) (hl : ar.length ≤ 4194304) (hk : v.k = 31) (hz : v.nm.size = 0) : Calls Try.prog 27 #[x.v, .slice A ar.length c, y.v] w (AnsB w (!ar.any isLS)) := by
  obtain ⟨xka, xkc, xla, xlc, rfl, -, -, -, -⟩ := hx.open
  have HT := Lib.hid (ast_new w v xka xkc xla xlc y)
  have HAR := Lib.hid fun w' (h : Below w.heap.size w w') => RowB.below har h
  have HL := Lib.hid hl
  have HF := Lib.hid fun w' (h : Below w.heap.size w w') => containsN_any 49 (enters_of Try.func49 (by kernel_rfl) rfl) #[] isLS ar A c w' (RowB.below har h) hl (pred_ls w')
  obtain ⟨bk, bnm, bn, bs, bka, bkn, bkc, bla, bln, blc⟩ := y
  simp only [X.v, X.cells] at HT ⊢
  have htn := toList_nil v.nm
  have htn1 := htn.2 hz
  clear hz htn
  rw [hk] at HT ⊢
  obtain ⟨W0, hW0, hast⟩ := HT.out
  obtain ⟨c0, c1, c2, c3, c4, c5⟩ := hast.n'.six
  obtain ⟨d0, d1, d2, d3, d4, d5⟩ := hast.b'.six
  have HW0 := Lib.hid hW0
  have HA := Lib.hid hast
  rw [hk] at c0
  clear hx har hl hk hW0 hast HT
  go_enter Try.func27, Try.ntmps27
  go_upto_region 5 with (fail)
  rw [HW0.out]
  go_upto_region 6 with (fail)
  go_wp2_with fail
  refine (HF.out _ HA.out.bl).mono ?_
  rintro e w1 ⟨rfl, hb1⟩
  have HB1 := Lib.hid (HA.out.low hb1).bl
  clear hb1
  go_wp2_with fail
  go_ret
  exact ⟨rfl, HB1.out⟩
set_option maxRecDepth 8000 in
set_option maxHeartbeats 1000000 in
theorem astray_32e (v : V) (x : X) (ar : List V) (A : Option Addr) (c : Nat) (y : X) (w : World) (hx : Is w v x) (har : Row w A ar) (hl : ar.length ≤ 4194304) (hk : v.k = 32) (hz : v.nm.size = 0) : Calls Try.prog 27 #[x.v, .slice A ar.length c, y.v] w (AnsB w (!ar.any isLp)) := by
  obtain ⟨xka, xkc, xla, xlc, rfl, -, -, -, -⟩ := hx.open
  have HT := Lib.hid (ast_new w v xka xkc xla xlc y)
  have HAR := Lib.hid fun w' (h : Below w.heap.size w w') => RowB.below har h
  have HL := Lib.hid hl
  have HF := Lib.hid fun w' (h : Below w.heap.size w w') => containsN_any 51 (enters_of Try.func51 (by kernel_rfl) rfl) #[] isLp ar A c w' (RowB.below har h) hl (pred_loop w')
  obtain ⟨bk, bnm, bn, bs, bka, bkn, bkc, bla, bln, blc⟩ := y
  simp only [X.v, X.cells] at HT ⊢
  have htn := toList_nil v.nm
  have htn1 := htn.2 hz
  clear hz htn
  rw [hk] at HT ⊢
  obtain ⟨W0, hW0, hast⟩ := HT.out
  obtain ⟨c0, c1, c2, c3, c4, c5⟩ := hast.n'.six
  obtain ⟨d0, d1, d2, d3, d4, d5⟩ := hast.b'.six
  have HW0 := Lib.hid hW0
  have HA := Lib.hid hast
  rw [hk] at c0
  clear hx har hl hk hW0 hast HT
  go_enter Try.func27, Try.ntmps27
  go_upto_region 9 with (fail)
  rw [HW0.out]
  go_upto_region 10 with (fail)
  go_wp2_with fail
  refine (HF.out _ HA.out.bl).mono ?_
  rintro e w1 ⟨rfl, hb1⟩
  have HB1 := Lib.hid (HA.out.low hb1).bl
  clear hb1
  go_wp2_with fail
  go_ret
  exact ⟨rfl, HB1.out⟩
set_option maxRecDepth 8000 in
set_option maxHeartbeats 1000000 in
theorem astray_31n (v : V) (x : X) (ar : List V) (A : Option Addr) (c : Nat) (y : X) (w : World) (hx : Is w v x) (har : Row w A ar) (hl : ar.length ≤ 4194304) (hk : v.k = 31) (hz : ¬ v.nm.size = 0) : Calls Try.prog 27 #[x.v, .slice A ar.length c, y.v] w (AnsB w (!ar.any (isLb v.nm))) := by
  obtain ⟨xka, xkc, xla, xlc, rfl, -, -, -, -⟩ := hx.open
  have HT := Lib.hid (ast_new w v xka xkc xla xlc y)
  have HAR := Lib.hid fun w' (h : Below w.heap.size w w') => RowB.below har h
  have HL := Lib.hid hl
  obtain ⟨bk, bnm, bn, bs, bka, bkn, bkc, bla, bln, blc⟩ := y
  simp only [X.v, X.cells] at HT ⊢
  have htn := toList_nil v.nm
  have htn1 : ¬ v.nm.toList = [] := fun e => hz (htn.1 e)
  have htn2 : v.nm.toList.isEmpty = false := by simpa using htn1
  clear hz htn
  rw [hk] at HT ⊢
  obtain ⟨W0, hW0, hast⟩ := HT.out
  obtain ⟨c0, c1, c2, c3, c4, c5⟩ := hast.n'.six
  obtain ⟨d0, d1, d2, d3, d4, d5⟩ := hast.b'.six
  have HW0 := Lib.hid hW0
  have HA := Lib.hid hast
  rw [hk] at c0
  clear hx har hl hk hW0 hast HT
  go_enter Try.func27, Try.ntmps27
  go_upto_region 5 with (fail)
  rw [HW0.out]
  go_upto_region 7 with (fail)
  go_wp2_with fail
  refine (isLabel_any v.nm _).mono ?_
  rintro e w1 ⟨rfl, rfl⟩
  have hbL := below_alloc W0 (.cells #[.string v.nm] 9)
  have hcL : (W0.alloc (.cells #[.string v.nm] 9)).cell? ⟨W0.heap.size, 0, none⟩ = some (.string v.nm) := by simp
  have hzL : W0.heap.size < (W0.alloc (.cells #[.string v.nm] 9)).heap.size := by simp
  have HPL := Lib.hid (pred_label v.nm W0.heap.size _ hzL hcL)
  have HAL := Lib.hid (HA.out.low hbL)
  clear hbL hcL hzL
  generalize W0.alloc (.cells #[.string v.nm] 9) = w1 at *
  go_wp2_with fail
  refine (containsN_any 70 (enters_of Try.func70 (by kernel_rfl) rfl) _ (isLb v.nm) ar A c _ (HAR.out _ HAL.out.bl) HL.out HPL.out).mono ?_
  rintro e w2 ⟨rfl, hb2⟩
  have HB1 := Lib.hid (HAL.out.low hb2).bl
  clear hb2
  go_wp2_with fail
  go_ret
  exact ⟨rfl, HB1.out⟩
set_option maxRecDepth 8000 in
set_option maxHeartbeats 1000000 in
theorem astray_38 (v : V) (x : X) (ar : List V) (A : Option Addr) (c : Nat) (y : X) (w : World) (hx : Is w v x) (har : Row w A ar) (hl : ar.length ≤ 4194304) (hk : v.k = 38) : Calls Try.prog 27 #[x.v, .slice A ar.length c, y.v] w (AnsB w (ar.any (isLb v.nm))) := by
  obtain ⟨xka, xkc, xla, xlc, rfl, -, -, -, -⟩ := hx.open
  have HT := Lib.hid (ast_new w v xka xkc xla xlc y)
  have HAR := Lib.hid fun w' (h : Below w.heap.size w w') => RowB.below har h
  have HL := Lib.hid hl
  obtain ⟨bk, bnm, bn, bs, bka, bkn, bkc, bla, bln, blc⟩ := y
  simp only [X.v, X.cells] at HT ⊢
  have htn := toList_nil v.nm
  clear htn
  rw [hk] at HT ⊢
  obtain ⟨W0, hW0, hast⟩ := HT.out
  obtain ⟨c0, c1, c2, c3, c4, c5⟩ := hast.n'.six
  obtain ⟨d0, d1, d2, d3, d4, d5⟩ := hast.b'.six
  have HW0 := Lib.hid hW0
  have HA := Lib.hid hast
  rw [hk] at c0
  clear hx har hl hk hW0 hast HT
  go_enter Try.func27, Try.ntmps27
  go_upto_region 14 with (fail)
  rw [HW0.out]
  go_wp2_with fail
  refine (isLabel_any v.nm _).mono ?_
  rintro e w1 ⟨rfl, rfl⟩
  have hbL := below_alloc W0 (.cells #[.string v.nm] 9)
  have hcL : (W0.alloc (.cells #[.string v.nm] 9)).cell? ⟨W0.heap.size, 0, none⟩ = some (.string v.nm) := by simp
  have hzL : W0.heap.size < (W0.alloc (.cells #[.string v.nm] 9)).heap.size := by simp
  have HPL := Lib.hid (pred_label v.nm W0.heap.size _ hzL hcL)
  have HAL := Lib.hid (HA.out.low hbL)
  clear hbL hcL hzL
  generalize W0.alloc (.cells #[.string v.nm] 9) = w1 at *
  go_wp2_with fail
  refine (containsN_any 70 (enters_of Try.func70 (by kernel_rfl) rfl) _ (isLb v.nm) ar A c _ (HAR.out _ HAL.out.bl) HL.out HPL.out).mono ?_
  rintro e w2 ⟨rfl, hb2⟩
  have HB1 := Lib.hid (HAL.out.low hb2).bl
  clear hb2
  go_wp2_with fail
  go_ret
  exact ⟨rfl, HB1.out⟩
set_option maxRecDepth 8000 in
set_option maxHeartbeats 1000000 in
theorem astray_32n (v : V) (x : X) (ar : List V) (A : Option Addr) (c : Nat) (y : X) (w : World) (hx : Is w v x) (har : Row w A ar) (hl : ar.length ≤ 4194304) (hk : v.k = 32) (hz : ¬ v.nm.size = 0) (hok : ∀ u ∈ ar, u.ok = true ∧ u.bulk ≤ 4194304) : Calls Try.prog 27 #[x.v, .slice A ar.length c, y.v] w (AnsB w (match ar.find? (isLb v.nm) with | none => true | some u => !isLp (lbl u))) := by
  obtain ⟨xka, xkc, xla, xlc, rfl, -, -, -, -⟩ := hx.open
  have HT := Lib.hid (ast_new w v xka xkc xla xlc y)
  have HAR := Lib.hid fun w' (h : Below w.heap.size w w') => RowB.below har h
  have HL := Lib.hid hl
  have HOK := Lib.hid hok
  obtain ⟨rr, hrr⟩ : ∃ rr, (match ar.find? (isLb v.nm) with | none => true | some u => !isLp (lbl u)) = rr := ⟨_, rfl⟩
  rw [hrr]
  have HRR := Lib.hid hrr
  clear hrr
  obtain ⟨bk, bnm, bn, bs, bka, bkn, bkc, bla, bln, blc⟩ := y
  simp only [X.v, X.cells] at HT ⊢
  have htn := toList_nil v.nm
  have htn1 : ¬ v.nm.toList = [] := fun e => hz (htn.1 e)
  have htn2 : v.nm.toList.isEmpty = false := by simpa using htn1
  clear hz hok htn
  rw [hk] at HT ⊢
  obtain ⟨W0, hW0, hast⟩ := HT.out
  obtain ⟨c0, c1, c2, c3, c4, c5⟩ := hast.n'.six
  obtain ⟨d0, d1, d2, d3, d4, d5⟩ := hast.b'.six
  have HW0 := Lib.hid hW0
  have HA := Lib.hid hast
  rw [hk] at c0
  clear hx har hl hk hW0 hast HT
  go_enter Try.func27, Try.ntmps27
  go_upto_region 9 with (fail)
  rw [HW0.out]
  go_upto_region 11 with (fail)
  go_wp2_with fail
  refine (isLabel_any v.nm _).mono ?_
  rintro e w1 ⟨rfl, rfl⟩
  have hbL := below_alloc W0 (.cells #[.string v.nm] 9)
  have hcL : (W0.alloc (.cells #[.string v.nm] 9)).cell? ⟨W0.heap.size, 0, none⟩ = some (.string v.nm) := by simp
  have hzL : W0.heap.size < (W0.alloc (.cells #[.string v.nm] 9)).heap.size := by simp
  have HPL := Lib.hid (pred_label v.nm W0.heap.size _ hzL hcL)
  have HAL := Lib.hid (HA.out.low hbL)
  clear hbL hcL hzL
  generalize W0.alloc (.cells #[.string v.nm] 9) = w1 at *
  go_wp2_with fail
  refine (indexN_any 70 (enters_of Try.func70 (by kernel_rfl) rfl) _ (isLb v.nm) ar A c _ (HAR.out _ HAL.out.bl) HL.out HPL.out).mono ?_
  rintro e w2 ⟨rfl, hb2⟩
  have HA2 := Lib.hid (HAL.out.low hb2)
  clear hb2
  have hfi := find_fIdx (isLb v.nm) ar
  rcases hfi with ⟨j, hj, e1, e2⟩ | ⟨e1, e2⟩
  · have hr := HRR.out
    rw [e2] at hr
    dsimp only at hr
    have HR2 := Lib.hid hr
    clear hr
    generalize fIdx (isLb v.nm) ar = ix at *
    subst e1
    obtain ⟨g, o, hA, hg, y, hat, hy⟩ := (HAR.out _ HA2.out.bl).at_ hj
    obtain ⟨f0, f1, f2, f3, f4, f5⟩ := hat.six
    have HLB := Lib.hid (labelled_any ar[j] y w2 hy (HOK.out _ (List.getElem_mem hj)).1 (HOK.out _ (List.getElem_mem hj)).2)
    obtain ⟨yka, ykc, yla, ylc, rfl, -, -, -, -⟩ := hy.open
    simp only [X.v] at HLB
    have hjl : (j : Int) < (ar.length : Int) := by omega
    have hli : (ar.length : Int) ≤ 4194304 := by have := HL.out; omega
    have hjn : decide ((j : Int) < 0) = false := by rw [decide_eq_false_iff_not]; omega
    subst hA
    generalize ar[j] = u at *
    clear hy hat e2 hg
    go_wp2_with fail
    refine HLB.out.mono ?_
    rintro e w3 ⟨z, rfl, hz3, hb3⟩
    have hzk : z.k = (lbl u).k := ((isB_iff _ _ _ _).1 hz3).1.1
    have HA3 := Lib.hid (HA2.out.low hb3)
    have HZ := Lib.hid hzk
    have HF := Lib.hid fun w' => isLoop_x z w'
    obtain ⟨zk, znm, zn, zs, zka, zkn, zkc, zla, zln, zlc⟩ := z
    simp only [X.v] at HF ⊢
    clear hzk hz3 hb3 f0 f1 f2 f3 f4 f5
    go_wp2_with fail
    refine (HF.out _).mono ?_
    rintro e w4 ⟨rfl, hb4⟩
    have HB4 := Lib.hid (HA3.out.low hb4).bl
    have HV : Hid (rr = !kLp zk) := by
      show rr = !kLp zk
      rw [← HR2.out]
      show (!kLp (lbl u).k) = !kLp zk
      rw [← HZ.out]
    clear hb4
    go_wp2_with fail
    go_ret
    exact ⟨by rw [HV.out]; rfl, HB4.out⟩
  · have hr := HRR.out
    rw [e2] at hr
    dsimp only at hr
    subst hr
    rw [e1]
    clear e1 e2
    go_wp2_with fail
    go_ret
    exact ⟨rfl, HA2.out.bl⟩
set_option maxRecDepth 8000 in
theorem astray_no (v : V) (x : X) (ar : List V) (A : Option Addr) (c : Nat) (y : X) (w : World) (hx : Is w v x) (hk : ¬ (v.k = 33 ∨ v.k = 31 ∨ v.k = 32 ∨ v.k = 38)) : Calls Try.prog 27 #[x.v, .slice A ar.length c, y.v] w (AnsB w false) := by
  obtain ⟨xka, xkc, xla, xlc, rfl, -, -, -, -⟩ := hx.open
  have HT := Lib.hid (ast_new w v xka xkc xla xlc y)
  obtain ⟨bk, bnm, bn, bs, bka, bkn, bkc, bla, bln, blc⟩ := y
  simp only [X.v, X.cells] at HT ⊢
  obtain ⟨W0, hW0, hast⟩ := HT.out
  have HW0 := Lib.hid hW0
  have HB := Lib.hid hast.bl
  clear HT hast hW0
  have e1 := beqF (a := v.k) (b := 33) (by omega)
  have e2 := beqF (a := v.k) (b := 31) (by omega)
  have e3 := beqF (a := v.k) (b := 32) (by omega)
  have e4 := beqF (a := v.k) (b := 38) (by omega)
  clear hx hk
  go_enter Try.func27, Try.ntmps27
  go_wp2_with fail
  rw [HW0.out]
  go_ret
  exact ⟨rfl, HB.out⟩
theorem isAstray_any (v : V) (x : X) (ar : List V) (A : Option Addr) (c : Nat) (bd : V) (y : X) (w : World) (hx : Is w v x) (har : Row w A ar) (hl : ar.length ≤ 4194304) (hy : y.k = bd.k) (hok : ∀ u ∈ ar, u.ok = true ∧ u.bulk ≤ 4194304) :
    Calls Try.prog 27 #[x.v, .slice A ar.length c, y.v] w (AnsB w (astray v ar (isFn bd))) := by
  unfold astray
  split
  · rename_i h
    have := astray_33 v x ar A c y w hx har hl h
    rw [hy] at this
    exact this
  split
  · rename_i h
    split
    · rename_i hz; exact astray_31e v x ar A c y w hx har hl h hz
    · rename_i hz; exact astray_31n v x ar A c y w hx har hl h hz
  split
  · rename_i h
    split
    · rename_i hz; exact astray_32e v x ar A c y w hx har hl h hz
    · rename_i hz; exact astray_32n v x ar A c y w hx har hl h hz hok
  split
  · rename_i h
    exact astray_38 v x ar A c y w hx har hl h
  · exact astray_no v x ar A c y w hx (by omega)
end Go.Proofs.Ytgehgccgologpaa.Z
