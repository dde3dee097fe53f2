/-
  Laid by wip/scope/lay.py out of wip/tree: La Va Vb.
  The examples, in plain Lean and in memory.
  The reference's name, has, operator.
  The reference's named. (gen_vb.py)
-/
import Derived.Test.YtgehgccgologpaaWr
import Derived.Test.YtgehgccgologpaaQ0
import Derived.Test.YtgehgccgologpaaQ
import Derived.Test.YtgehgccgologpaaKd
import Derived.Test.YtgehgccgologpaaS
import Derived.Test.YtgehgccgologpaaWn
import Derived.Test.YtgehgccgologpaaSc
import Derived.Test.YtgehgccgologpaaIt
import Derived.Test.YtgehgccgologpaaHg
import Derived.Laws.Rows
import Derived.Sort.Grow
import Derived.Deep.RegionHeld3
import Derived.StillTailTactics
import Derived.Deep.Draws
import Derived.Lib.ItoaLen
import Derived.Shelf.Spec.SlicesInsert
import Derived.Shelf.Spec.SlicesInsertGrow
import Derived.Deep.Upon
import Derived.Lib.Join
import Derived.Lib.ItoaNum
import Derived.Laws.RangeAny
import Derived.Laws.Runes
import Derived.Deep.LoopGhost
import Derived.Deep.DeepMust
import Derived.Lib.OthersKept
import Derived.Deep.CutBlock
import Derived.Deep.DeepCutAuto
import Derived.Lib.MinMax
import Derived.Laws.StructEq
import Derived.BigQuiet
import Derived.Deep.QuietTactic
namespace Go.Proofs.Ytgehgccgologpaa.R
open Go.RowKit Go.Proofs.Ytgehgccgologpaa Go.Proofs.Ytgehgccgologpaa.T
theorem hp_new {w : World} {o : Obj} {g : Nat} (h : g = w.heap.size) : (w.alloc o).heap[g]? = some o := by subst h; exact World.alloc_heap_new w o
theorem at_row {w : World} {g o : Nat} {cs : Array Value} {t : TypeId} {fr : Nat × Nat} {y : X} (h : w.heap[g]? = some (.cells cs t fr)) (h0 : cs[o]? = some (.int .i64 y.k)) (h1 : cs[o + 1]? = some (.string y.nm)) (h2 : cs[o + 2]? = some (.int .i64 y.n)) (h3 : cs[o + 3]? = some (.string y.s))
    (h4 : cs[o + 4]? = some (.slice y.ka y.kn y.kc)) (h5 : cs[o + 5]? = some (.slice y.la y.ln y.lc)) : At w g o y :=
  ⟨(cell_of_row w g o _ _ _ h).trans h0, (cell_of_row w g (o + 1) _ _ _ h).trans h1, (cell_of_row w g (o + 2) _ _ _ h).trans h2, (cell_of_row w g (o + 3) _ _ _ h).trans h3, (cell_of_row w g (o + 4) _ _ _ h).trans h4, (cell_of_row w g (o + 5) _ _ _ h).trans h5⟩
theorem infoNode : (Try.prog.info? 25).map (fun i => (i.zero, i.size, i.bytes)) = some (some (.agg #[.int .i64 0, .string ⟨#[]⟩, .int .i64 0, .string ⟨#[]⟩, .slice none 0 0, .slice none 0 0]), 6, 96) := by kernel_rfl
end Go.Proofs.Ytgehgccgologpaa.R
namespace Go.Proofs.Ytgehgccgologpaa.R
open Go.RowKit Go.Proofs.Ytgehgccgologpaa Go.Proofs.Ytgehgccgologpaa.T
theorem has_yes {ws : List Bs} {l : Bs} {j : Nat} (h : j < ws.length) (e : l = ws[j]) : ws.contains l = true := by
  rw [List.contains_iff_mem, e]
  exact List.getElem_mem h
theorem has_no {ws : List Bs} {l : Bs} (h : ∀ i (h : i < ws.length), ¬ l = ws[i]) : ws.contains l = false := by
  rw [Bool.eq_false_iff]
  intro hc
  rw [List.contains_iff_mem] at hc
  obtain ⟨i, hi, e⟩ := List.getElem_of_mem hc
  exact h i hi e.symm
set_option maxRecDepth 8000 in
set_option maxHeartbeats 1000000 in
theorem refHas_any (ws : List Bs) (s : ByteArray) (g n c : Nat) (w : World) (hn : ws.length = n) (hs : n ≤ 64) (hc : ∀ j (h : j < ws.length), w.cell? ⟨g, j, none⟩ = some (.string ⟨ws[j].toArray⟩)) :
    Calls Try.prog 108 #[.slice (some ⟨g, 0, none⟩) n c, .string s] w fun e w' => e = .returned (.bool (ws.contains (bl s))) ∧ w = w' := by
  have HC := Lib.hid hc
  have HL := Lib.hid hn
  have HY := Lib.hid (fun j h e => has_yes (ws := ws) (l := s.data.toList) (j := j) h e)
  have HN := Lib.hid (fun h => has_no (ws := ws) (l := s.data.toList) h)
  clear hc hn
  generalize ws.contains (bl s) = b at *
  go_enter Try.func108, Try.ntmps108
  go_wp2_with fail
  go_loopw [9] (fun i wr => ∃ j : Nat, j ≤ n ∧ i = .int .i64 j ∧ Hid (∀ i, i < j → (h : i < ws.length) → ¬ s.data.toList = ws[i]) ∧ w = wr)
    (fun i _ => n - (intOf i).toNat)
  case atStart => exact ⟨0, Nat.zero_le _, rfl, Lib.hid fun i hi => by omega, rfl⟩
  case round =>
    obtain ⟨j, hj, rfl, hh, rfl⟩ := hrel
    by_cases hlt : j < n
    · have hlt' : j < ws.length := by rw [HL.out]; exact hlt
      have hc := HC.out j hlt'
      have hlti : (j : Int) < (n : Int) := by omega
      by_cases he : s.data.toList = ws[j]
      · have hq : ((⟨ws[j].toArray⟩ : ByteArray).toList == s.toList) = true := by
          rw [Lib.toList_data, Lib.toList_data, he]
          exact beq_self_eq_true _
        have hV := HY.out j hlt' he
        subst hV
        clear he HY HN
        generalize (⟨ws[j].toArray⟩ : ByteArray) = x at *
        go_wp2_with fail
        go_ret
        exact ⟨rfl, rfl⟩
      · have hq : ((⟨ws[j].toArray⟩ : ByteArray).toList == s.toList) = false := by
          rw [Lib.toList_data, Lib.toList_data, beq_eq_false_iff_ne]
          exact fun e => he e.symm
        have HS : Hid (∀ i, i < j + 1 → (h : i < ws.length) → ¬ s.data.toList = ws[i]) := Lib.hid fun i hi h => by
          rcases Nat.lt_succ_iff_lt_or_eq.1 hi with hi | rfl
          · exact hh.out i hi h
          · exact he
        clear he
        generalize (⟨ws[j].toArray⟩ : ByteArray) = x at *
        go_wp2_with fail
        go_roundw
        case rel => exact ⟨j + 1, by omega, by go_num, HS, by first | rfl | trivial⟩
        case measure => simp [intOf]; omega
    · obtain rfl : j = n := by omega
      have hV := HN.out fun i hi => hh.out i (by rw [HL.out] at hi; exact hi) hi
      subst hV
      clear HY HN
      go_wp2_with fail
      go_ret
      exact ⟨rfl, rfl⟩
theorem refName_any (s : ByteArray) (w : World) (hs : s.size ≤ 4194304) : Calls Try.prog 61 #[.string s] w fun e w' => e = .returned (.bool (isNm s)) ∧ Below w.heap.size w w' := by
  have H1 := Lib.hid fun w' => refIsIdent_any s w' (by omega)
  have H2 := Lib.hid fun w' => refIsWord_any s w'
  have HV : Hid (isNm s = (isI s.data.toList && !isW s.data.toList)) := Lib.hid rfl
  generalize isI s.data.toList = b1 at *
  generalize isW s.data.toList = b2 at *
  cases b1
  · go_enter Try.func61, Try.ntmps61
    go_wp2_with (go_at_call 75; refine (H1.out _).mono ?_; rintro e w' ⟨rfl, rfl⟩)
    go_ret
    exact ⟨by rw [HV.out]; rfl, Below.refl _ _⟩
  · cases b2
    · go_enter Try.func61, Try.ntmps61
      go_wp2_with (first | (go_at_call 75; refine (H1.out _).mono ?_; rintro e w' ⟨rfl, rfl⟩) | (go_at_call 77; refine (H2.out _).mono ?_; rintro e w1 ⟨rfl, hb1⟩; have HB1 := Lib.hid hb1; clear hb1))
      go_ret
      exact ⟨by rw [HV.out]; rfl, HB1.out⟩
    · go_enter Try.func61, Try.ntmps61
      go_wp2_with (first | (go_at_call 75; refine (H1.out _).mono ?_; rintro e w' ⟨rfl, rfl⟩) | (go_at_call 77; refine (H2.out _).mono ?_; rintro e w1 ⟨rfl, hb1⟩; have HB1 := Lib.hid hb1; clear hb1))
      go_ret
      exact ⟨by rw [HV.out]; rfl, HB1.out⟩
set_option maxRecDepth 8000 in
set_option maxHeartbeats 1000000 in
theorem refOperator_any (k : Int) (s : ByteArray) (w : World) : Calls Try.prog 76 #[.int .i64 k, .string s] w fun e w' => e = .returned (.bool (opOk k (bl s))) ∧ Below w.heap.size w w' := by
  by_cases h15 : k = 15
  · subst h15
    have HC : Hid (∀ j (h : j < unOps.length), (w.alloc (strsO unOps)).cell? ⟨w.heap.size, j, none⟩ = some (.string ⟨unOps[j].toArray⟩)) := Lib.hid (strs_at w unOps)
    have HH := Lib.hid fun w' h => refHas_any unOps s w.heap.size 6 6 w' rfl (by omega) h
    have HV : Hid (opOk 15 (bl s) = unOps.contains (bl s)) := Lib.hid rfl
    generalize unOps.contains (bl s) = q at *
    go_enter Try.func76, Try.ntmps76
    go_wp2_with fail
    refine (HH.out _ HC.out).mono ?_
    rintro e w' ⟨rfl, rfl⟩
    go_wp2_with fail
    go_ret
    exact ⟨by rw [HV.out]; rfl, below_alloc _ _⟩
  by_cases h16 : k = 16
  · subst h16
    by_cases e1 : bl s = [43, 43]
    · obtain rfl := of_bl' e1
      clear e1
      go_enter Try.func76, Try.ntmps76
      go_wp2_with fail
      go_ret
      exact ⟨rfl, Below.refl _ _⟩
    · by_cases e2 : bl s = [45, 45]
      · obtain rfl := of_bl' e2
        clear e1 e2
        go_enter Try.func76, Try.ntmps76
        go_wp2_with fail
        go_ret
        exact ⟨rfl, Below.refl _ _⟩
      · have hv : opOk 16 (bl s) = false := by
          show ([[43, 43], [45, 45]] : List Bs).contains (bl s) = false
          simp [e1, e2]
        rw [hv]
        rw [show bl s = s.toList from (Lib.toList_data s).symm] at e1 e2
        have q1 : (s.toList == [43, 43]) = false := by rw [beq_eq_false_iff_ne]; exact e1
        have q2 : (s.toList == [45, 45]) = false := by rw [beq_eq_false_iff_ne]; exact e2
        clear hv
        go_enter Try.func76, Try.ntmps76
        go_wp2_with fail
        go_ret
        exact ⟨rfl, Below.refl _ _⟩
  by_cases h17 : k = 17
  · subst h17
    have HC : Hid (∀ j (h : j < biOps.length), (w.alloc (strsO biOps)).cell? ⟨w.heap.size, j, none⟩ = some (.string ⟨biOps[j].toArray⟩)) := Lib.hid (strs_at w biOps)
    have HH := Lib.hid fun w' h => refHas_any biOps s w.heap.size 15 15 w' rfl (by omega) h
    have HV : Hid (opOk 17 (bl s) = biOps.contains (bl s)) := Lib.hid rfl
    generalize biOps.contains (bl s) = q at *
    go_enter Try.func76, Try.ntmps76
    go_wp2_with fail
    refine (HH.out _ HC.out).mono ?_
    rintro e w' ⟨rfl, rfl⟩
    go_wp2_with fail
    go_ret
    exact ⟨by rw [HV.out]; rfl, below_alloc _ _⟩
  by_cases h18 : k = 18
  · subst h18
    by_cases e1 : bl s = [38, 38]
    · obtain rfl := of_bl' e1
      clear e1
      go_enter Try.func76, Try.ntmps76
      go_wp2_with fail
      go_ret
      exact ⟨rfl, Below.refl _ _⟩
    · by_cases e2 : bl s = [124, 124]
      · obtain rfl := of_bl' e2
        clear e1 e2
        go_enter Try.func76, Try.ntmps76
        go_wp2_with fail
        go_ret
        exact ⟨rfl, Below.refl _ _⟩
      · have hv : opOk 18 (bl s) = false := by
          show ([[38, 38], [124, 124]] : List Bs).contains (bl s) = false
          simp [e1, e2]
        rw [hv]
        rw [show bl s = s.toList from (Lib.toList_data s).symm] at e1 e2
        have q1 : (s.toList == [38, 38]) = false := by rw [beq_eq_false_iff_ne]; exact e1
        have q2 : (s.toList == [124, 124]) = false := by rw [beq_eq_false_iff_ne]; exact e2
        clear hv
        go_enter Try.func76, Try.ntmps76
        go_wp2_with fail
        go_ret
        exact ⟨rfl, Below.refl _ _⟩
  by_cases h20 : k = 20
  · subst h20
    have HC : Hid (∀ j (h : j < asOps.length), (w.alloc (strsO asOps)).cell? ⟨w.heap.size, j, none⟩ = some (.string ⟨asOps[j].toArray⟩)) := Lib.hid (strs_at w asOps)
    have HH := Lib.hid fun w' h => refHas_any asOps s w.heap.size 6 6 w' rfl (by omega) h
    have HV : Hid (opOk 20 (bl s) = asOps.contains (bl s)) := Lib.hid rfl
    generalize asOps.contains (bl s) = q at *
    go_enter Try.func76, Try.ntmps76
    go_wp2_with fail
    refine (HH.out _ HC.out).mono ?_
    rintro e w' ⟨rfl, rfl⟩
    go_wp2_with fail
    go_ret
    exact ⟨by rw [HV.out]; rfl, below_alloc _ _⟩
  have b1 : (k == 15) = false := by rw [beq_eq_false_iff_ne]; exact h15
  have b2 : (k == 16) = false := by rw [beq_eq_false_iff_ne]; exact h16
  have b3 : (k == 17) = false := by rw [beq_eq_false_iff_ne]; exact h17
  have b4 : (k == 18) = false := by rw [beq_eq_false_iff_ne]; exact h18
  have b5 : (k == 20) = false := by rw [beq_eq_false_iff_ne]; exact h20
  have HV : Hid (opOk k (bl s) = false) := Lib.hid (by unfold opOk ops; rw [if_neg h15, if_neg h16, if_neg h17, if_neg h18, if_neg h20]; rfl)
  clear h15 h16 h17 h18 h20
  go_enter Try.func76, Try.ntmps76
  go_wp2_with fail
  go_ret
  exact ⟨by rw [HV.out]; rfl, Below.refl _ _⟩
end Go.Proofs.Ytgehgccgologpaa.R
namespace Go.Proofs.Ytgehgccgologpaa.R
open Go.RowKit Go.Proofs.Ytgehgccgologpaa Go.Proofs.Ytgehgccgologpaa.T
theorem nil_of {s : ByteArray} (h : s.size = 0) : s = ⟨#[]⟩ := list_nil (List.eq_nil_of_length_eq_zero (by rw [size_list]; exact h))
theorem ctch3_yes {v : V} (h : v.l.length = 3) : ctch3 v = decide ((v.l[1]'(by omega)).k = 25) := by
  rcases v with ⟨k, nm, n, s, ks, l⟩
  rcases l with _ | ⟨a, _ | ⟨b, _ | ⟨c, _ | ⟨d, r⟩⟩⟩⟩ <;> first | rfl | (simp [V.l] at h)
set_option maxRecDepth 8000 in
set_option maxHeartbeats 1000000 in
theorem named_3 (v : V) (x : X) (w : World) (h : Is w v x) (hs : v.nm.size ≤ 4194304) (hk : v.k = 3) : Calls Try.prog 59 #[x.v] w fun e w' => e = .returned (.bool (nmOk (ctch3 v) v)) ∧ Below w.heap.size w w' := by
  obtain ⟨ka, kc, la, lc, rfl, h1, h2, h3, h4⟩ := h.open
  have HB := Lib.hid (below_alloc w)
  rw [nm_3 hk]
  have HN := Lib.hid fun w' => refName_any v.nm w' hs
  simp only [X.v]
  rw [hk]
  clear h h1 h2 h3 h4 hk
  generalize v.nm = nm at *
  generalize v.n = n at *
  generalize v.s = s at *
  generalize v.ks.length = kn at *
  generalize v.l.length = ln at *
  generalize isNm nm = b at *
  go_enter Try.func59, Try.ntmps59
  go_wp2_with fail
  refine (HN.out _).mono ?_
  rintro e w1 ⟨rfl, hb1⟩
  have HB1 := Lib.hid ((HB.out _).trans (hb1.mono (HB.out _).size))
  clear hb1
  go_wp2_with fail
  go_ret
  exact ⟨rfl, HB1.out⟩
set_option maxRecDepth 8000 in
set_option maxHeartbeats 1000000 in
theorem named_23 (v : V) (x : X) (w : World) (h : Is w v x) (hs : v.nm.size ≤ 4194304) (hk : v.k = 23) : Calls Try.prog 59 #[x.v] w fun e w' => e = .returned (.bool (nmOk (ctch3 v) v)) ∧ Below w.heap.size w w' := by
  obtain ⟨ka, kc, la, lc, rfl, h1, h2, h3, h4⟩ := h.open
  have HB := Lib.hid (below_alloc w)
  rw [nm_23 hk]
  have HN := Lib.hid fun w' => refName_any v.nm w' hs
  simp only [X.v]
  rw [hk]
  clear h h1 h2 h3 h4 hk
  generalize v.nm = nm at *
  generalize v.n = n at *
  generalize v.s = s at *
  generalize v.ks.length = kn at *
  generalize v.l.length = ln at *
  generalize isNm nm = b at *
  go_enter Try.func59, Try.ntmps59
  go_wp2_with fail
  refine (HN.out _).mono ?_
  rintro e w1 ⟨rfl, hb1⟩
  have HB1 := Lib.hid ((HB.out _).trans (hb1.mono (HB.out _).size))
  clear hb1
  go_wp2_with fail
  go_ret
  exact ⟨rfl, HB1.out⟩
set_option maxRecDepth 8000 in
set_option maxHeartbeats 1000000 in
theorem named_38 (v : V) (x : X) (w : World) (h : Is w v x) (hs : v.nm.size ≤ 4194304) (hk : v.k = 38) : Calls Try.prog 59 #[x.v] w fun e w' => e = .returned (.bool (nmOk (ctch3 v) v)) ∧ Below w.heap.size w w' := by
  obtain ⟨ka, kc, la, lc, rfl, h1, h2, h3, h4⟩ := h.open
  have HB := Lib.hid (below_alloc w)
  rw [nm_38 hk]
  have HN := Lib.hid fun w' => refName_any v.nm w' hs
  simp only [X.v]
  rw [hk]
  clear h h1 h2 h3 h4 hk
  generalize v.nm = nm at *
  generalize v.n = n at *
  generalize v.s = s at *
  generalize v.ks.length = kn at *
  generalize v.l.length = ln at *
  generalize isNm nm = b at *
  go_enter Try.func59, Try.ntmps59
  go_wp2_with fail
  refine (HN.out _).mono ?_
  rintro e w1 ⟨rfl, hb1⟩
  have HB1 := Lib.hid ((HB.out _).trans (hb1.mono (HB.out _).size))
  clear hb1
  go_wp2_with fail
  go_ret
  exact ⟨rfl, HB1.out⟩
set_option maxRecDepth 8000 in
set_option maxHeartbeats 1000000 in
theorem named_39 (v : V) (x : X) (w : World) (h : Is w v x) (hs : v.nm.size ≤ 4194304) (hk : v.k = 39) : Calls Try.prog 59 #[x.v] w fun e w' => e = .returned (.bool (nmOk (ctch3 v) v)) ∧ Below w.heap.size w w' := by
  obtain ⟨ka, kc, la, lc, rfl, h1, h2, h3, h4⟩ := h.open
  have HB := Lib.hid (below_alloc w)
  rw [nm_39 hk]
  have HN := Lib.hid fun w' => refName_any v.nm w' hs
  simp only [X.v]
  rw [hk]
  clear h h1 h2 h3 h4 hk
  generalize v.nm = nm at *
  generalize v.n = n at *
  generalize v.s = s at *
  generalize v.ks.length = kn at *
  generalize v.l.length = ln at *
  generalize isNm nm = b at *
  go_enter Try.func59, Try.ntmps59
  go_wp2_with fail
  refine (HN.out _).mono ?_
  rintro e w1 ⟨rfl, hb1⟩
  have HB1 := Lib.hid ((HB.out _).trans (hb1.mono (HB.out _).size))
  clear hb1
  go_wp2_with fail
  go_ret
  exact ⟨rfl, HB1.out⟩
set_option maxRecDepth 8000 in
set_option maxHeartbeats 1000000 in
theorem named_10 (v : V) (x : X) (w : World) (h : Is w v x) (hs : v.nm.size ≤ 4194304) (hk : v.k = 10) : Calls Try.prog 59 #[x.v] w fun e w' => e = .returned (.bool (nmOk (ctch3 v) v)) ∧ Below w.heap.size w w' := by
  obtain ⟨ka, kc, la, lc, rfl, h1, h2, h3, h4⟩ := h.open
  have HB := Lib.hid (below_alloc w)
  rw [nm_10 hk]
  have HN := Lib.hid fun w' => refName_any v.nm w' hs
  simp only [X.v]
  rw [hk]
  clear h h1 h2 h3 h4 hk
  generalize v.nm = nm at *
  generalize v.n = n at *
  generalize v.s = s at *
  generalize v.ks.length = kn at *
  generalize v.l.length = ln at *
  by_cases hn : nm = ⟨#[]⟩
  · subst hn
    go_enter Try.func59, Try.ntmps59
    go_wp2_with fail
    go_ret
    exact ⟨rfl, HB.out _⟩
  · have hz : ¬ nm.size = 0 := fun h => hn (nil_of h)
    obtain ⟨z1, z2⟩ := str_some hz
    rw [decide_eq_false hz]
    clear hn hz
    rw [Bool.false_or]
    generalize isNm nm = b at *
    go_enter Try.func59, Try.ntmps59
    go_wp2_with fail
    refine (HN.out _).mono ?_
    rintro e w1 ⟨rfl, hb1⟩
    have HB1 := Lib.hid ((HB.out _).trans (hb1.mono (HB.out _).size))
    clear hb1
    go_wp2_with fail
    go_ret
    exact ⟨rfl, HB1.out⟩
set_option maxRecDepth 8000 in
set_option maxHeartbeats 1000000 in
theorem named_31 (v : V) (x : X) (w : World) (h : Is w v x) (hs : v.nm.size ≤ 4194304) (hk : v.k = 31) : Calls Try.prog 59 #[x.v] w fun e w' => e = .returned (.bool (nmOk (ctch3 v) v)) ∧ Below w.heap.size w w' := by
  obtain ⟨ka, kc, la, lc, rfl, h1, h2, h3, h4⟩ := h.open
  have HB := Lib.hid (below_alloc w)
  rw [nm_31 hk]
  have HN := Lib.hid fun w' => refName_any v.nm w' hs
  simp only [X.v]
  rw [hk]
  clear h h1 h2 h3 h4 hk
  generalize v.nm = nm at *
  generalize v.n = n at *
  generalize v.s = s at *
  generalize v.ks.length = kn at *
  generalize v.l.length = ln at *
  by_cases hn : nm = ⟨#[]⟩
  · subst hn
    go_enter Try.func59, Try.ntmps59
    go_wp2_with fail
    go_ret
    exact ⟨rfl, HB.out _⟩
  · have hz : ¬ nm.size = 0 := fun h => hn (nil_of h)
    obtain ⟨z1, z2⟩ := str_some hz
    rw [decide_eq_false hz]
    clear hn hz
    rw [Bool.false_or]
    generalize isNm nm = b at *
    go_enter Try.func59, Try.ntmps59
    go_wp2_with fail
    refine (HN.out _).mono ?_
    rintro e w1 ⟨rfl, hb1⟩
    have HB1 := Lib.hid ((HB.out _).trans (hb1.mono (HB.out _).size))
    clear hb1
    go_wp2_with fail
    go_ret
    exact ⟨rfl, HB1.out⟩
set_option maxRecDepth 8000 in
set_option maxHeartbeats 1000000 in
theorem named_32 (v : V) (x : X) (w : World) (h : Is w v x) (hs : v.nm.size ≤ 4194304) (hk : v.k = 32) : Calls Try.prog 59 #[x.v] w fun e w' => e = .returned (.bool (nmOk (ctch3 v) v)) ∧ Below w.heap.size w w' := by
  obtain ⟨ka, kc, la, lc, rfl, h1, h2, h3, h4⟩ := h.open
  have HB := Lib.hid (below_alloc w)
  rw [nm_32 hk]
  have HN := Lib.hid fun w' => refName_any v.nm w' hs
  simp only [X.v]
  rw [hk]
  clear h h1 h2 h3 h4 hk
  generalize v.nm = nm at *
  generalize v.n = n at *
  generalize v.s = s at *
  generalize v.ks.length = kn at *
  generalize v.l.length = ln at *
  by_cases hn : nm = ⟨#[]⟩
  · subst hn
    go_enter Try.func59, Try.ntmps59
    go_wp2_with fail
    go_ret
    exact ⟨rfl, HB.out _⟩
  · have hz : ¬ nm.size = 0 := fun h => hn (nil_of h)
    obtain ⟨z1, z2⟩ := str_some hz
    rw [decide_eq_false hz]
    clear hn hz
    rw [Bool.false_or]
    generalize isNm nm = b at *
    go_enter Try.func59, Try.ntmps59
    go_wp2_with fail
    refine (HN.out _).mono ?_
    rintro e w1 ⟨rfl, hb1⟩
    have HB1 := Lib.hid ((HB.out _).trans (hb1.mono (HB.out _).size))
    clear hb1
    go_wp2_with fail
    go_ret
    exact ⟨rfl, HB1.out⟩
set_option maxRecDepth 8000 in
set_option maxHeartbeats 1000000 in
theorem named_11 (v : V) (x : X) (w : World) (h : Is w v x) (hs : v.nm.size ≤ 4194304) (hk : v.k = 11) : Calls Try.prog 59 #[x.v] w fun e w' => e = .returned (.bool (nmOk (ctch3 v) v)) ∧ Below w.heap.size w w' := by
  obtain ⟨ka, kc, la, lc, rfl, h1, h2, h3, h4⟩ := h.open
  have HB := Lib.hid (below_alloc w)
  rw [nm_11 hk]
  have HN : Hid (∀ w', Calls Try.prog 75 #[.string v.nm] w' fun e w'' => e = .returned (.bool (isI (bl v.nm))) ∧ Below w'.heap.size w' w'') := Lib.hid fun w' => (refIsIdent_any v.nm w' (by omega)).mono fun e w'' ⟨h1, h2⟩ => ⟨h1, by rw [← h2]; exact Below.refl _ _⟩
  simp only [X.v]
  rw [hk]
  clear h h1 h2 h3 h4 hk
  generalize v.nm = nm at *
  generalize v.n = n at *
  generalize v.s = s at *
  generalize v.ks.length = kn at *
  generalize v.l.length = ln at *
  generalize isI (bl nm) = b at *
  go_enter Try.func59, Try.ntmps59
  go_wp2_with fail
  refine (HN.out _).mono ?_
  rintro e w1 ⟨rfl, hb1⟩
  have HB1 := Lib.hid ((HB.out _).trans (hb1.mono (HB.out _).size))
  clear hb1
  go_wp2_with fail
  go_ret
  exact ⟨rfl, HB1.out⟩
set_option maxRecDepth 8000 in
set_option maxHeartbeats 1000000 in
theorem named_15 (v : V) (x : X) (w : World) (h : Is w v x) (_hs : v.nm.size ≤ 4194304) (hk : v.k = 15) : Calls Try.prog 59 #[x.v] w fun e w' => e = .returned (.bool (nmOk (ctch3 v) v)) ∧ Below w.heap.size w w' := by
  obtain ⟨ka, kc, la, lc, rfl, h1, h2, h3, h4⟩ := h.open
  have HB := Lib.hid (below_alloc w)
  rw [nm_15 hk]
  have HN := Lib.hid fun w' => refOperator_any 15 v.nm w' 
  simp only [X.v]
  rw [hk]
  clear h h1 h2 h3 h4 hk
  generalize v.nm = nm at *
  generalize v.n = n at *
  generalize v.s = s at *
  generalize v.ks.length = kn at *
  generalize v.l.length = ln at *
  generalize opOk 15 (bl nm) = b at *
  go_enter Try.func59, Try.ntmps59
  go_wp2_with fail
  refine (HN.out _).mono ?_
  rintro e w1 ⟨rfl, hb1⟩
  have HB1 := Lib.hid ((HB.out _).trans (hb1.mono (HB.out _).size))
  clear hb1
  go_wp2_with fail
  go_ret
  exact ⟨rfl, HB1.out⟩
set_option maxRecDepth 8000 in
set_option maxHeartbeats 1000000 in
theorem named_16 (v : V) (x : X) (w : World) (h : Is w v x) (_hs : v.nm.size ≤ 4194304) (hk : v.k = 16) : Calls Try.prog 59 #[x.v] w fun e w' => e = .returned (.bool (nmOk (ctch3 v) v)) ∧ Below w.heap.size w w' := by
  obtain ⟨ka, kc, la, lc, rfl, h1, h2, h3, h4⟩ := h.open
  have HB := Lib.hid (below_alloc w)
  rw [nm_16 hk]
  have HN := Lib.hid fun w' => refOperator_any 16 v.nm w' 
  simp only [X.v]
  rw [hk]
  clear h h1 h2 h3 h4 hk
  generalize v.nm = nm at *
  generalize v.n = n at *
  generalize v.s = s at *
  generalize v.ks.length = kn at *
  generalize v.l.length = ln at *
  generalize opOk 16 (bl nm) = b at *
  go_enter Try.func59, Try.ntmps59
  go_wp2_with fail
  refine (HN.out _).mono ?_
  rintro e w1 ⟨rfl, hb1⟩
  have HB1 := Lib.hid ((HB.out _).trans (hb1.mono (HB.out _).size))
  clear hb1
  go_wp2_with fail
  go_ret
  exact ⟨rfl, HB1.out⟩
set_option maxRecDepth 8000 in
set_option maxHeartbeats 1000000 in
theorem named_17 (v : V) (x : X) (w : World) (h : Is w v x) (_hs : v.nm.size ≤ 4194304) (hk : v.k = 17) : Calls Try.prog 59 #[x.v] w fun e w' => e = .returned (.bool (nmOk (ctch3 v) v)) ∧ Below w.heap.size w w' := by
  obtain ⟨ka, kc, la, lc, rfl, h1, h2, h3, h4⟩ := h.open
  have HB := Lib.hid (below_alloc w)
  rw [nm_17 hk]
  have HN := Lib.hid fun w' => refOperator_any 17 v.nm w' 
  simp only [X.v]
  rw [hk]
  clear h h1 h2 h3 h4 hk
  generalize v.nm = nm at *
  generalize v.n = n at *
  generalize v.s = s at *
  generalize v.ks.length = kn at *
  generalize v.l.length = ln at *
  generalize opOk 17 (bl nm) = b at *
  go_enter Try.func59, Try.ntmps59
  go_wp2_with fail
  refine (HN.out _).mono ?_
  rintro e w1 ⟨rfl, hb1⟩
  have HB1 := Lib.hid ((HB.out _).trans (hb1.mono (HB.out _).size))
  clear hb1
  go_wp2_with fail
  go_ret
  exact ⟨rfl, HB1.out⟩
set_option maxRecDepth 8000 in
set_option maxHeartbeats 1000000 in
theorem named_18 (v : V) (x : X) (w : World) (h : Is w v x) (_hs : v.nm.size ≤ 4194304) (hk : v.k = 18) : Calls Try.prog 59 #[x.v] w fun e w' => e = .returned (.bool (nmOk (ctch3 v) v)) ∧ Below w.heap.size w w' := by
  obtain ⟨ka, kc, la, lc, rfl, h1, h2, h3, h4⟩ := h.open
  have HB := Lib.hid (below_alloc w)
  rw [nm_18 hk]
  have HN := Lib.hid fun w' => refOperator_any 18 v.nm w' 
  simp only [X.v]
  rw [hk]
  clear h h1 h2 h3 h4 hk
  generalize v.nm = nm at *
  generalize v.n = n at *
  generalize v.s = s at *
  generalize v.ks.length = kn at *
  generalize v.l.length = ln at *
  generalize opOk 18 (bl nm) = b at *
  go_enter Try.func59, Try.ntmps59
  go_wp2_with fail
  refine (HN.out _).mono ?_
  rintro e w1 ⟨rfl, hb1⟩
  have HB1 := Lib.hid ((HB.out _).trans (hb1.mono (HB.out _).size))
  clear hb1
  go_wp2_with fail
  go_ret
  exact ⟨rfl, HB1.out⟩
set_option maxRecDepth 8000 in
set_option maxHeartbeats 1000000 in
theorem named_20 (v : V) (x : X) (w : World) (h : Is w v x) (_hs : v.nm.size ≤ 4194304) (hk : v.k = 20) : Calls Try.prog 59 #[x.v] w fun e w' => e = .returned (.bool (nmOk (ctch3 v) v)) ∧ Below w.heap.size w w' := by
  obtain ⟨ka, kc, la, lc, rfl, h1, h2, h3, h4⟩ := h.open
  have HB := Lib.hid (below_alloc w)
  rw [nm_20 hk]
  have HN := Lib.hid fun w' => refOperator_any 20 v.nm w' 
  simp only [X.v]
  rw [hk]
  clear h h1 h2 h3 h4 hk
  generalize v.nm = nm at *
  generalize v.n = n at *
  generalize v.s = s at *
  generalize v.ks.length = kn at *
  generalize v.l.length = ln at *
  generalize opOk 20 (bl nm) = b at *
  go_enter Try.func59, Try.ntmps59
  go_wp2_with fail
  refine (HN.out _).mono ?_
  rintro e w1 ⟨rfl, hb1⟩
  have HB1 := Lib.hid ((HB.out _).trans (hb1.mono (HB.out _).size))
  clear hb1
  go_wp2_with fail
  go_ret
  exact ⟨rfl, HB1.out⟩
set_option maxRecDepth 8000 in
set_option maxHeartbeats 1000000 in
theorem named_35 (v : V) (x : X) (w : World) (h : Is w v x) (hs : v.nm.size ≤ 4194304) (hk : v.k = 35) : Calls Try.prog 59 #[x.v] w fun e w' => e = .returned (.bool (nmOk (ctch3 v) v)) ∧ Below w.heap.size w w' := by
  obtain ⟨ka, kc, la, lc, rfl, h1, h2, h3, h4⟩ := h.open
  have HB := Lib.hid (below_alloc w)
  rw [nm_35 hk]
  have HN := Lib.hid fun w' => refName_any v.nm w' hs
  have HE : Hid (v.nm = ⟨#[]⟩ ∨ ¬ v.nm.size = 0) := by
    by_cases h : v.nm = ⟨#[]⟩
    · exact .inl h
    · exact .inr fun e => h (nil_of e)
  by_cases h3' : v.l.length = 3
  · obtain ⟨g, o, rfl, hg, y, hy, hyb⟩ := h4.at_ (i := 1) (by omega)
    have hyk := ((isB_iff _ _ _ _).1 hyb).1.1
    have hct : ctch3 v = decide (y.k = 25) := by rw [ctch3_yes h3', hyk]
    rw [hct]
    have c0 := (World.cell?_alloc_lt w (.cells #[.int .i64 35, .string v.nm, .int .i64 v.n, .string v.s, .slice ka v.ks.length kc, .slice (some ⟨g, o, none⟩) 3 lc] 25) ⟨g, o + 1 * 6, none⟩ hg).trans hy.c0
    simp only [X.v]
    rw [hk, h3']
    clear h h1 h2 h3 h4 hk hy hyb hyk hct h3' hg
    generalize v.nm = nm at *
    generalize v.n = n at *
    generalize v.s = s at *
    generalize v.ks.length = kn at *
    generalize y.k = yk at *
    by_cases hy : yk = 25
    · rw [decide_eq_true hy, if_pos rfl]
      subst hy
      generalize isNm nm = b at *
      go_enter Try.func59, Try.ntmps59
      go_wp2_with fail
      refine (HN.out _).mono ?_
      rintro e w1 ⟨rfl, hb1⟩
      have HB1 := Lib.hid ((HB.out _).trans (hb1.mono (HB.out _).size))
      clear hb1
      go_wp2_with fail
      go_ret
      exact ⟨rfl, HB1.out⟩
    · rw [decide_eq_false hy, if_neg (by simp)]
      have hq : (yk == 25) = false := by rw [beq_eq_false_iff_ne]; exact hy
      clear hy
      rcases HE.out with rfl | hz
      · go_enter Try.func59, Try.ntmps59
        go_wp2_with fail
        go_ret
        exact ⟨rfl, HB.out _⟩
      · obtain ⟨z1, z2⟩ := str_some hz
        rw [decide_eq_false hz]
        clear hz
        go_enter Try.func59, Try.ntmps59
        go_wp2_with fail
        go_ret
        exact ⟨rfl, HB.out _⟩
  · have hct : ctch3 v = false := by
      unfold ctch3
      rw [decide_eq_false h3']
      rfl
    rw [hct, if_neg (by simp)]
    have hq : ((v.l.length : Int) == 3) = false := by rw [beq_eq_false_iff_ne]; omega
    simp only [X.v]
    rw [hk]
    clear h h1 h2 h3 h4 hk hct h3'
    generalize v.nm = nm at *
    generalize v.n = n at *
    generalize v.s = s at *
    generalize v.ks.length = kn at *
    generalize v.l.length = ln at *
    rcases HE.out with rfl | hz
    · go_enter Try.func59, Try.ntmps59
      go_wp2_with fail
      go_ret
      exact ⟨rfl, HB.out _⟩
    · obtain ⟨z1, z2⟩ := str_some hz
      rw [decide_eq_false hz]
      clear hz
      go_enter Try.func59, Try.ntmps59
      go_wp2_with fail
      go_ret
      exact ⟨rfl, HB.out _⟩
set_option maxRecDepth 8000 in
set_option maxHeartbeats 1000000 in
theorem named_else (v : V) (x : X) (w : World) (h : Is w v x) (g3 : ¬ v.k = 3) (g23 : ¬ v.k = 23) (g38 : ¬ v.k = 38) (g39 : ¬ v.k = 39) (g10 : ¬ v.k = 10) (g31 : ¬ v.k = 31) (g32 : ¬ v.k = 32) (g11 : ¬ v.k = 11) (g15 : ¬ v.k = 15) (g16 : ¬ v.k = 16) (g17 : ¬ v.k = 17) (g18 : ¬ v.k = 18) (g20 : ¬ v.k = 20) (g35 : ¬ v.k = 35) : Calls Try.prog 59 #[x.v] w fun e w' => e = .returned (.bool (nmOk (ctch3 v) v)) ∧ Below w.heap.size w w' := by
  obtain ⟨ka, kc, la, lc, rfl, h1, h2, h3, h4⟩ := h.open
  have HB := Lib.hid (below_alloc w)
  have hv : nmOk (ctch3 v) v = decide (v.nm.size = 0) := by
    unfold nmOk
    rw [if_neg (by omega), if_neg (by omega), if_neg (by omega), if_neg (by omega), if_neg (by omega)]
  rw [hv]
  simp only [X.v]
  clear h h1 h2 h3 h4 hv
  generalize v.nm = nm at *
  generalize v.n = n at *
  generalize v.s = s at *
  generalize v.ks.length = kn at *
  generalize v.l.length = ln at *
  generalize v.k = k at *
  have b3 : (k == 3) = false := by rw [beq_eq_false_iff_ne]; exact g3
  have b23 : (k == 23) = false := by rw [beq_eq_false_iff_ne]; exact g23
  have b38 : (k == 38) = false := by rw [beq_eq_false_iff_ne]; exact g38
  have b39 : (k == 39) = false := by rw [beq_eq_false_iff_ne]; exact g39
  have b10 : (k == 10) = false := by rw [beq_eq_false_iff_ne]; exact g10
  have b31 : (k == 31) = false := by rw [beq_eq_false_iff_ne]; exact g31
  have b32 : (k == 32) = false := by rw [beq_eq_false_iff_ne]; exact g32
  have b11 : (k == 11) = false := by rw [beq_eq_false_iff_ne]; exact g11
  have b15 : (k == 15) = false := by rw [beq_eq_false_iff_ne]; exact g15
  have b16 : (k == 16) = false := by rw [beq_eq_false_iff_ne]; exact g16
  have b17 : (k == 17) = false := by rw [beq_eq_false_iff_ne]; exact g17
  have b18 : (k == 18) = false := by rw [beq_eq_false_iff_ne]; exact g18
  have b20 : (k == 20) = false := by rw [beq_eq_false_iff_ne]; exact g20
  have b35 : (k == 35) = false := by rw [beq_eq_false_iff_ne]; exact g35
  clear g3 g23 g38 g39 g10 g31 g32 g11 g15 g16 g17 g18 g20 g35
  by_cases hn : nm = ⟨#[]⟩
  · subst hn
    go_enter Try.func59, Try.ntmps59
    go_wp2_with fail
    go_ret
    exact ⟨rfl, HB.out _⟩
  · have hz : ¬ nm.size = 0 := fun h => hn (nil_of h)
    obtain ⟨z1, z2⟩ := str_some hz
    rw [decide_eq_false hz]
    clear hn hz
    go_enter Try.func59, Try.ntmps59
    go_wp2_with fail
    go_ret
    exact ⟨rfl, HB.out _⟩
theorem named_any (v : V) (x : X) (w : World) (h : Is w v x) (hs : v.nm.size ≤ 4194304) : Calls Try.prog 59 #[x.v] w fun e w' => e = .returned (.bool (nmOk (ctch3 v) v)) ∧ Below w.heap.size w w' := by
  by_cases g3 : v.k = 3
  · exact named_3 v x w h hs g3
  by_cases g23 : v.k = 23
  · exact named_23 v x w h hs g23
  by_cases g38 : v.k = 38
  · exact named_38 v x w h hs g38
  by_cases g39 : v.k = 39
  · exact named_39 v x w h hs g39
  by_cases g10 : v.k = 10
  · exact named_10 v x w h hs g10
  by_cases g31 : v.k = 31
  · exact named_31 v x w h hs g31
  by_cases g32 : v.k = 32
  · exact named_32 v x w h hs g32
  by_cases g11 : v.k = 11
  · exact named_11 v x w h hs g11
  by_cases g15 : v.k = 15
  · exact named_15 v x w h hs g15
  by_cases g16 : v.k = 16
  · exact named_16 v x w h hs g16
  by_cases g17 : v.k = 17
  · exact named_17 v x w h hs g17
  by_cases g18 : v.k = 18
  · exact named_18 v x w h hs g18
  by_cases g20 : v.k = 20
  · exact named_20 v x w h hs g20
  by_cases g35 : v.k = 35
  · exact named_35 v x w h hs g35
  exact named_else v x w h g3 g23 g38 g39 g10 g31 g32 g11 g15 g16 g17 g18 g20 g35
end Go.Proofs.Ytgehgccgologpaa.R
