/-

-/
import Derived.Test.YtllpgoaanbiodaaGreatDoorMBx
import Derived.Test.YtllpgoaanbiodaaGreatDoorMHf
set_option maxHeartbeats 2000000
set_option maxRecDepth 20000
namespace Go.Proofs.YtllpgoaanbiodaaGreatDoor.R
open Go.RowKit Go.Proofs.YtllpgoaanbiodaaGreatDoor Go.Proofs.YtllpgoaanbiodaaGreatDoor.T
theorem has_yes {ws : List Bs} {l : Bs} {j : Nat} (h : j < ws.length) (e : l = ws[j]) : ws.contains l = true := by
 rw [List.contains_iff_mem, e]
 exact List.getElem_mem h
theorem has_no {ws : List Bs} {l : Bs} (h : ∀ i (h : i < ws.length), ¬ l = ws[i]) : ws.contains l = false := by
 rw [Bool.eq_false_iff]
 intro hc
 rw [List.contains_iff_mem] at hc
 obtain ⟨i, hi, e⟩ := List.getElem_of_mem hc
 exact h i hi e.symm
theorem refHas_any (ws : List Bs) (s : ByteArray) (g n c : Nat) (w : World) (hn : ws.length = n) (hs : n ≤ 64) (hc : ∀ j (h : j < ws.length), w.cell? ⟨g, j, none⟩ = some (.string ⟨ws[j].toArray⟩)) :
  Calls Tryz.prog 111 #[.slice (some ⟨g, 0, none⟩) n c, .string s] w fun e w' => e = .returned (.bool (ws.contains (bl s))) ∧ w = w' := by
 have HC := Lib.hid hc
 have HL := Lib.hid hn
 have HY := Lib.hid (fun j h e => has_yes (ws := ws) (l := s.data.toList) (j := j) h e)
 have HN := Lib.hid (fun h => has_no (ws := ws) (l := s.data.toList) h)
 clear hc hn
 generalize ws.contains (bl s) = b at *
 go_enter Tryz.func111, Tryz.ntmps111
 go_wp2_with fail
 go_loopw [9] (fun i wr => ∃ j : Nat, j ≤ n ∧ i = .int .i64 j ∧ Hid (∀ i, i < j → (h : i < ws.length) → ¬ s.data.toList = ws[i]) ∧ w = wr)
  (fun i _ => n - (intOf i).toNat)
 case atStart => exact ⟨0, Nat.zero_le _, rfl, Lib.hid fun i hi => by omega, rfl⟩
 case round =>
  obtain ⟨j, hj, rfl, hh, rfl⟩ := hrel
  by_cases hlt : j < n
  ·have hlt' : j < ws.length := by rw [HL.out]; exact hlt
   have hc := HC.out j hlt'
   have hlti : (j : Int) < (n : Int) := by omega
   by_cases he : s.data.toList = ws[j]
   ·have hq : ((⟨ws[j].toArray⟩ : ByteArray).toList == s.toList) = true := by
     rw [Lib.toList_data, Lib.toList_data, he]
     exact beq_self_eq_true _
    have hV := HY.out j hlt' he
    subst hV
    clear he HY HN
    generalize (⟨ws[j].toArray⟩ : ByteArray) = x at *
    go_wp2_with fail
    go_ret
    exact ⟨rfl, rfl⟩
   ·have hq : ((⟨ws[j].toArray⟩ : ByteArray).toList == s.toList) = false := by
     rw [Lib.toList_data, Lib.toList_data, beq_eq_false_iff_ne]
     exact fun e => he e.symm
    have HS : Hid (∀ i, i < j + 1 → (h : i < ws.length) → ¬ s.data.toList = ws[i]) := Lib.hid fun i hi h => by
     rcases Nat.lt_succ_iff_lt_or_eq.1 hi with hi | rfl
     ·exact hh.out i hi h
     ·exact he
    clear he
    generalize (⟨ws[j].toArray⟩ : ByteArray) = x at *
    go_wp2_with fail
    go_roundw
    case rel => exact ⟨j + 1, by omega, by go_num, HS, by first | rfl | trivial⟩
    case measure => simp [intOf]; omega
  ·obtain rfl : j = n := by omega
   have hV := HN.out fun i hi => hh.out i (by rw [HL.out] at hi; exact hi) hi
   subst hV
   clear HY HN
   go_wp2_with fail
   go_ret
   exact ⟨rfl, rfl⟩
theorem refName_any (s : ByteArray) (w : World) (hs : s.size ≤ 4194304) : Calls Tryz.prog 41 #[.string s] w fun e w' => e = .returned (.bool (isNm s)) ∧ Below w.heap.size w w' := by
 have H1 := Lib.hid fun w' => refIsIdent_any s w' (by omega)
 have H2 := Lib.hid fun w' => refIsWord_any s w'
 have HV : Hid (isNm s = (isI s.data.toList && !isW s.data.toList)) := Lib.hid rfl
 generalize isI s.data.toList = b1 at *
 generalize isW s.data.toList = b2 at *
 cases b1
 ·go_enter Tryz.func41, Tryz.ntmps41
  go_wp2_with (go_at_call 70; refine (H1.out _).mono ?_; rintro e w' ⟨rfl, rfl⟩)
  go_ret
  exact ⟨by rw [HV.out]; rfl, Below.refl _ _⟩
 ·cases b2
  ·go_enter Tryz.func41, Tryz.ntmps41
   go_wp2_with (first | (go_at_call 70; refine (H1.out _).mono ?_; rintro e w' ⟨rfl, rfl⟩) | (go_at_call 72; refine (H2.out _).mono ?_; rintro e w1 ⟨rfl, hb1⟩; have HB1 := Lib.hid hb1; clear hb1))
   go_ret
   exact ⟨by rw [HV.out]; rfl, HB1.out⟩
  ·go_enter Tryz.func41, Tryz.ntmps41
   go_wp2_with (first | (go_at_call 70; refine (H1.out _).mono ?_; rintro e w' ⟨rfl, rfl⟩) | (go_at_call 72; refine (H2.out _).mono ?_; rintro e w1 ⟨rfl, hb1⟩; have HB1 := Lib.hid hb1; clear hb1))
   go_ret
   exact ⟨by rw [HV.out]; rfl, HB1.out⟩
theorem refOperator_any (k : Int) (s : ByteArray) (w : World) : Calls Tryz.prog 71 #[.int .i64 k, .string s] w fun e w' => e = .returned (.bool (opOk k (bl s))) ∧ Below w.heap.size w w' := by
 by_cases h15 : k = 15
 ·subst h15
  have HC : Hid (∀ j (h : j < unOps.length), (w.alloc (strsO unOps)).cell? ⟨w.heap.size, j, none⟩ = some (.string ⟨unOps[j].toArray⟩)) := Lib.hid (strs_at w unOps)
  have HH := Lib.hid fun w' h => refHas_any unOps s w.heap.size 6 6 w' rfl (by omega) h
  have HV : Hid (opOk 15 (bl s) = unOps.contains (bl s)) := Lib.hid rfl
  generalize unOps.contains (bl s) = q at *
  go_enter Tryz.func71, Tryz.ntmps71
  go_wp2_with fail
  refine (HH.out _ HC.out).mono ?_
  rintro e w' ⟨rfl, rfl⟩
  go_wp2_with fail
  go_ret
  exact ⟨by rw [HV.out]; rfl, below_alloc _ _⟩
 by_cases h16 : k = 16
 ·subst h16
  by_cases e1 : bl s = [43, 43]
  ·obtain rfl := of_bl' e1
   clear e1
   go_enter Tryz.func71, Tryz.ntmps71
   go_wp2_with fail
   go_ret
   exact ⟨rfl, Below.refl _ _⟩
  ·by_cases e2 : bl s = [45, 45]
   ·obtain rfl := of_bl' e2
    clear e1 e2
    go_enter Tryz.func71, Tryz.ntmps71
    go_wp2_with fail
    go_ret
    exact ⟨rfl, Below.refl _ _⟩
   ·have hv : opOk 16 (bl s) = false := by
     show ([[43, 43], [45, 45]] : List Bs).contains (bl s) = false
     simp [e1, e2]
    rw [hv]
    rw [show bl s = s.toList from (Lib.toList_data s).symm] at e1 e2
    have q1 : (s.toList == [43, 43]) = false := by rw [beq_eq_false_iff_ne]; exact e1
    have q2 : (s.toList == [45, 45]) = false := by rw [beq_eq_false_iff_ne]; exact e2
    clear hv
    go_enter Tryz.func71, Tryz.ntmps71
    go_wp2_with fail
    go_ret
    exact ⟨rfl, Below.refl _ _⟩
 by_cases h17 : k = 17
 ·subst h17
  have HC : Hid (∀ j (h : j < biOps.length), (w.alloc (strsO biOps)).cell? ⟨w.heap.size, j, none⟩ = some (.string ⟨biOps[j].toArray⟩)) := Lib.hid (strs_at w biOps)
  have HH := Lib.hid fun w' h => refHas_any biOps s w.heap.size 15 15 w' rfl (by omega) h
  have HV : Hid (opOk 17 (bl s) = biOps.contains (bl s)) := Lib.hid rfl
  generalize biOps.contains (bl s) = q at *
  go_enter Tryz.func71, Tryz.ntmps71
  go_wp2_with fail
  refine (HH.out _ HC.out).mono ?_
  rintro e w' ⟨rfl, rfl⟩
  go_wp2_with fail
  go_ret
  exact ⟨by rw [HV.out]; rfl, below_alloc _ _⟩
 by_cases h18 : k = 18
 ·subst h18
  by_cases e1 : bl s = [38, 38]
  ·obtain rfl := of_bl' e1
   clear e1
   go_enter Tryz.func71, Tryz.ntmps71
   go_wp2_with fail
   go_ret
   exact ⟨rfl, Below.refl _ _⟩
  ·by_cases e2 : bl s = [124, 124]
   ·obtain rfl := of_bl' e2
    clear e1 e2
    go_enter Tryz.func71, Tryz.ntmps71
    go_wp2_with fail
    go_ret
    exact ⟨rfl, Below.refl _ _⟩
   ·have hv : opOk 18 (bl s) = false := by
     show ([[38, 38], [124, 124]] : List Bs).contains (bl s) = false
     simp [e1, e2]
    rw [hv]
    rw [show bl s = s.toList from (Lib.toList_data s).symm] at e1 e2
    have q1 : (s.toList == [38, 38]) = false := by rw [beq_eq_false_iff_ne]; exact e1
    have q2 : (s.toList == [124, 124]) = false := by rw [beq_eq_false_iff_ne]; exact e2
    clear hv
    go_enter Tryz.func71, Tryz.ntmps71
    go_wp2_with fail
    go_ret
    exact ⟨rfl, Below.refl _ _⟩
 by_cases h20 : k = 20
 ·subst h20
  have HC : Hid (∀ j (h : j < asOps.length), (w.alloc (strsO asOps)).cell? ⟨w.heap.size, j, none⟩ = some (.string ⟨asOps[j].toArray⟩)) := Lib.hid (strs_at w asOps)
  have HH := Lib.hid fun w' h => refHas_any asOps s w.heap.size 6 6 w' rfl (by omega) h
  have HV : Hid (opOk 20 (bl s) = asOps.contains (bl s)) := Lib.hid rfl
  generalize asOps.contains (bl s) = q at *
  go_enter Tryz.func71, Tryz.ntmps71
  go_wp2_with fail
  refine (HH.out _ HC.out).mono ?_
  rintro e w' ⟨rfl, rfl⟩
  go_wp2_with fail
  go_ret
  exact ⟨by rw [HV.out]; rfl, below_alloc _ _⟩
 have b1 : (k == 15) = false := by rw [beq_eq_false_iff_ne]; exact h15
 have b2 : (k == 16) = false := by rw [beq_eq_false_iff_ne]; exact h16
 have b3 : (k == 17) = false := by rw [beq_eq_false_iff_ne]; exact h17
 have b4 : (k == 18) = false := by rw [beq_eq_false_iff_ne]; exact h18
 have b5 : (k == 20) = false := by rw [beq_eq_false_iff_ne]; exact h20
 have HV : Hid (opOk k (bl s) = false) := Lib.hid (by unfold opOk ops; rw [if_neg h15, if_neg h16, if_neg h17, if_neg h18, if_neg h20]; rfl)
 clear h15 h16 h17 h18 h20
 go_enter Tryz.func71, Tryz.ntmps71
 go_wp2_with fail
 go_ret
 exact ⟨by rw [HV.out]; rfl, Below.refl _ _⟩
theorem nil_of {s : ByteArray} (h : s.size = 0) : s = ⟨#[]⟩ := list_nil (List.eq_nil_of_length_eq_zero (by rw [size_list]; exact h))
theorem ctch3_yes {v : V} (h : v.l.length = 3) : ctch3 v = decide ((v.l[1]'(by omega)).k = 25) := by
 rcases v with ⟨k, nm, n, s, ks, l⟩
 rcases l with _ | ⟨a, _ | ⟨b, _ | ⟨c, _ | ⟨d, r⟩⟩⟩⟩ <;> first | rfl | (simp [V.l] at h)
theorem named_3 (v : V) (x : X) (w : World) (h : Is w v x) (hs : v.nm.size ≤ 4194304) (hk : v.k = 3) : Calls Tryz.prog 39 #[x.v] w fun e w' => e = .returned (.bool (nmOk (ctch3 v) v)) ∧ Below w.heap.size w w' := by
 obtain ⟨ka, kc, la, lc, rfl, h1, h2, h3, h4⟩ := h.open
 have HB := Lib.hid (below_alloc w)
 rw [nm_3 hk]
 have HN := Lib.hid fun w' => refName_any v.nm w' hs
 simp only [X.v]
 rw [hk]
 clear h h1 h2 h3 h4 hk
 generalize v.nm = nm, v.n = n, v.s = s, v.ks.length = kn, v.l.length = ln at *
 generalize isNm nm = b at *
 go_enter Tryz.func39, Tryz.ntmps39
 go_wp2_with fail
 refine (HN.out _).mono ?_
 rintro e w1 ⟨rfl, hb1⟩
 have HB1 := Lib.hid ((HB.out _).trans (hb1.mono (HB.out _).size))
 clear hb1
 go_wp2_with fail
 go_ret
 exact ⟨rfl, HB1.out⟩
theorem named_23 (v : V) (x : X) (w : World) (h : Is w v x) (hs : v.nm.size ≤ 4194304) (hk : v.k = 23) : Calls Tryz.prog 39 #[x.v] w fun e w' => e = .returned (.bool (nmOk (ctch3 v) v)) ∧ Below w.heap.size w w' := by
 obtain ⟨ka, kc, la, lc, rfl, h1, h2, h3, h4⟩ := h.open
 have HB := Lib.hid (below_alloc w)
 rw [nm_23 hk]
 have HN := Lib.hid fun w' => refName_any v.nm w' hs
 simp only [X.v]
 rw [hk]
 clear h h1 h2 h3 h4 hk
 generalize v.nm = nm, v.n = n, v.s = s, v.ks.length = kn, v.l.length = ln at *
 generalize isNm nm = b at *
 go_enter Tryz.func39, Tryz.ntmps39
 go_wp2_with fail
 refine (HN.out _).mono ?_
 rintro e w1 ⟨rfl, hb1⟩
 have HB1 := Lib.hid ((HB.out _).trans (hb1.mono (HB.out _).size))
 clear hb1
 go_wp2_with fail
 go_ret
 exact ⟨rfl, HB1.out⟩
theorem named_38 (v : V) (x : X) (w : World) (h : Is w v x) (hs : v.nm.size ≤ 4194304) (hk : v.k = 38) : Calls Tryz.prog 39 #[x.v] w fun e w' => e = .returned (.bool (nmOk (ctch3 v) v)) ∧ Below w.heap.size w w' := by
 obtain ⟨ka, kc, la, lc, rfl, h1, h2, h3, h4⟩ := h.open
 have HB := Lib.hid (below_alloc w)
 rw [nm_38 hk]
 have HN := Lib.hid fun w' => refName_any v.nm w' hs
 simp only [X.v]
 rw [hk]
 clear h h1 h2 h3 h4 hk
 generalize v.nm = nm, v.n = n, v.s = s, v.ks.length = kn, v.l.length = ln at *
 generalize isNm nm = b at *
 go_enter Tryz.func39, Tryz.ntmps39
 go_wp2_with fail
 refine (HN.out _).mono ?_
 rintro e w1 ⟨rfl, hb1⟩
 have HB1 := Lib.hid ((HB.out _).trans (hb1.mono (HB.out _).size))
 clear hb1
 go_wp2_with fail
 go_ret
 exact ⟨rfl, HB1.out⟩
theorem named_39 (v : V) (x : X) (w : World) (h : Is w v x) (hs : v.nm.size ≤ 4194304) (hk : v.k = 39) : Calls Tryz.prog 39 #[x.v] w fun e w' => e = .returned (.bool (nmOk (ctch3 v) v)) ∧ Below w.heap.size w w' := by
 obtain ⟨ka, kc, la, lc, rfl, h1, h2, h3, h4⟩ := h.open
 have HB := Lib.hid (below_alloc w)
 rw [nm_39 hk]
 have HN := Lib.hid fun w' => refName_any v.nm w' hs
 simp only [X.v]
 rw [hk]
 clear h h1 h2 h3 h4 hk
 generalize v.nm = nm, v.n = n, v.s = s, v.ks.length = kn, v.l.length = ln at *
 generalize isNm nm = b at *
 go_enter Tryz.func39, Tryz.ntmps39
 go_wp2_with fail
 refine (HN.out _).mono ?_
 rintro e w1 ⟨rfl, hb1⟩
 have HB1 := Lib.hid ((HB.out _).trans (hb1.mono (HB.out _).size))
 clear hb1
 go_wp2_with fail
 go_ret
 exact ⟨rfl, HB1.out⟩
theorem named_10 (v : V) (x : X) (w : World) (h : Is w v x) (hs : v.nm.size ≤ 4194304) (hk : v.k = 10) : Calls Tryz.prog 39 #[x.v] w fun e w' => e = .returned (.bool (nmOk (ctch3 v) v)) ∧ Below w.heap.size w w' := by
 obtain ⟨ka, kc, la, lc, rfl, h1, h2, h3, h4⟩ := h.open
 have HB := Lib.hid (below_alloc w)
 rw [nm_10 hk]
 have HN := Lib.hid fun w' => refName_any v.nm w' hs
 simp only [X.v]
 rw [hk]
 clear h h1 h2 h3 h4 hk
 generalize v.nm = nm, v.n = n, v.s = s, v.ks.length = kn, v.l.length = ln at *
 by_cases hn : nm = ⟨#[]⟩
 ·subst hn
  go_enter Tryz.func39, Tryz.ntmps39
  go_wp2_with fail
  go_ret
  exact ⟨rfl, HB.out _⟩
 ·have hz : ¬ nm.size = 0 := fun h => hn (nil_of h)
  obtain ⟨z1, z2⟩ := str_some hz
  rw [decide_eq_false hz]
  clear hn hz
  rw [Bool.false_or]
  generalize isNm nm = b at *
  go_enter Tryz.func39, Tryz.ntmps39
  go_wp2_with fail
  refine (HN.out _).mono ?_
  rintro e w1 ⟨rfl, hb1⟩
  have HB1 := Lib.hid ((HB.out _).trans (hb1.mono (HB.out _).size))
  clear hb1
  go_wp2_with fail
  go_ret
  exact ⟨rfl, HB1.out⟩
theorem named_31 (v : V) (x : X) (w : World) (h : Is w v x) (hs : v.nm.size ≤ 4194304) (hk : v.k = 31) : Calls Tryz.prog 39 #[x.v] w fun e w' => e = .returned (.bool (nmOk (ctch3 v) v)) ∧ Below w.heap.size w w' := by
 obtain ⟨ka, kc, la, lc, rfl, h1, h2, h3, h4⟩ := h.open
 have HB := Lib.hid (below_alloc w)
 rw [nm_31 hk]
 have HN := Lib.hid fun w' => refName_any v.nm w' hs
 simp only [X.v]
 rw [hk]
 clear h h1 h2 h3 h4 hk
 generalize v.nm = nm, v.n = n, v.s = s, v.ks.length = kn, v.l.length = ln at *
 by_cases hn : nm = ⟨#[]⟩
 ·subst hn
  go_enter Tryz.func39, Tryz.ntmps39
  go_wp2_with fail
  go_ret
  exact ⟨rfl, HB.out _⟩
 ·have hz : ¬ nm.size = 0 := fun h => hn (nil_of h)
  obtain ⟨z1, z2⟩ := str_some hz
  rw [decide_eq_false hz]
  clear hn hz
  rw [Bool.false_or]
  generalize isNm nm = b at *
  go_enter Tryz.func39, Tryz.ntmps39
  go_wp2_with fail
  refine (HN.out _).mono ?_
  rintro e w1 ⟨rfl, hb1⟩
  have HB1 := Lib.hid ((HB.out _).trans (hb1.mono (HB.out _).size))
  clear hb1
  go_wp2_with fail
  go_ret
  exact ⟨rfl, HB1.out⟩
theorem named_32 (v : V) (x : X) (w : World) (h : Is w v x) (hs : v.nm.size ≤ 4194304) (hk : v.k = 32) : Calls Tryz.prog 39 #[x.v] w fun e w' => e = .returned (.bool (nmOk (ctch3 v) v)) ∧ Below w.heap.size w w' := by
 obtain ⟨ka, kc, la, lc, rfl, h1, h2, h3, h4⟩ := h.open
 have HB := Lib.hid (below_alloc w)
 rw [nm_32 hk]
 have HN := Lib.hid fun w' => refName_any v.nm w' hs
 simp only [X.v]
 rw [hk]
 clear h h1 h2 h3 h4 hk
 generalize v.nm = nm, v.n = n, v.s = s, v.ks.length = kn, v.l.length = ln at *
 by_cases hn : nm = ⟨#[]⟩
 ·subst hn
  go_enter Tryz.func39, Tryz.ntmps39
  go_wp2_with fail
  go_ret
  exact ⟨rfl, HB.out _⟩
 ·have hz : ¬ nm.size = 0 := fun h => hn (nil_of h)
  obtain ⟨z1, z2⟩ := str_some hz
  rw [decide_eq_false hz]
  clear hn hz
  rw [Bool.false_or]
  generalize isNm nm = b at *
  go_enter Tryz.func39, Tryz.ntmps39
  go_wp2_with fail
  refine (HN.out _).mono ?_
  rintro e w1 ⟨rfl, hb1⟩
  have HB1 := Lib.hid ((HB.out _).trans (hb1.mono (HB.out _).size))
  clear hb1
  go_wp2_with fail
  go_ret
  exact ⟨rfl, HB1.out⟩
theorem named_11 (v : V) (x : X) (w : World) (h : Is w v x) (hs : v.nm.size ≤ 4194304) (hk : v.k = 11) : Calls Tryz.prog 39 #[x.v] w fun e w' => e = .returned (.bool (nmOk (ctch3 v) v)) ∧ Below w.heap.size w w' := by
 obtain ⟨ka, kc, la, lc, rfl, h1, h2, h3, h4⟩ := h.open
 have HB := Lib.hid (below_alloc w)
 rw [nm_11 hk]
 have HN : Hid (∀ w', Calls Tryz.prog 70 #[.string v.nm] w' fun e w'' => e = .returned (.bool (isI (bl v.nm))) ∧ Below w'.heap.size w' w'') := Lib.hid fun w' => (refIsIdent_any v.nm w' (by omega)).mono fun e w'' ⟨h1, h2⟩ => ⟨h1, by rw [← h2]; exact Below.refl _ _⟩
 simp only [X.v]
 rw [hk]
 clear h h1 h2 h3 h4 hk
 generalize v.nm = nm, v.n = n, v.s = s, v.ks.length = kn, v.l.length = ln at *
 generalize isI (bl nm) = b at *
 go_enter Tryz.func39, Tryz.ntmps39
 go_wp2_with fail
 refine (HN.out _).mono ?_
 rintro e w1 ⟨rfl, hb1⟩
 have HB1 := Lib.hid ((HB.out _).trans (hb1.mono (HB.out _).size))
 clear hb1
 go_wp2_with fail
 go_ret
 exact ⟨rfl, HB1.out⟩
theorem named_15 (v : V) (x : X) (w : World) (h : Is w v x) (_hs : v.nm.size ≤ 4194304) (hk : v.k = 15) : Calls Tryz.prog 39 #[x.v] w fun e w' => e = .returned (.bool (nmOk (ctch3 v) v)) ∧ Below w.heap.size w w' := by
 obtain ⟨ka, kc, la, lc, rfl, h1, h2, h3, h4⟩ := h.open
 have HB := Lib.hid (below_alloc w)
 rw [nm_15 hk]
 have HN := Lib.hid fun w' => refOperator_any 15 v.nm w' 
 simp only [X.v]
 rw [hk]
 clear h h1 h2 h3 h4 hk
 generalize v.nm = nm, v.n = n, v.s = s, v.ks.length = kn, v.l.length = ln at *
 generalize opOk 15 (bl nm) = b at *
 go_enter Tryz.func39, Tryz.ntmps39
 go_wp2_with fail
 refine (HN.out _).mono ?_
 rintro e w1 ⟨rfl, hb1⟩
 have HB1 := Lib.hid ((HB.out _).trans (hb1.mono (HB.out _).size))
 clear hb1
 go_wp2_with fail
 go_ret
 exact ⟨rfl, HB1.out⟩
theorem named_16 (v : V) (x : X) (w : World) (h : Is w v x) (_hs : v.nm.size ≤ 4194304) (hk : v.k = 16) : Calls Tryz.prog 39 #[x.v] w fun e w' => e = .returned (.bool (nmOk (ctch3 v) v)) ∧ Below w.heap.size w w' := by
 obtain ⟨ka, kc, la, lc, rfl, h1, h2, h3, h4⟩ := h.open
 have HB := Lib.hid (below_alloc w)
 rw [nm_16 hk]
 have HN := Lib.hid fun w' => refOperator_any 16 v.nm w' 
 simp only [X.v]
 rw [hk]
 clear h h1 h2 h3 h4 hk
 generalize v.nm = nm, v.n = n, v.s = s, v.ks.length = kn, v.l.length = ln at *
 generalize opOk 16 (bl nm) = b at *
 go_enter Tryz.func39, Tryz.ntmps39
 go_wp2_with fail
 refine (HN.out _).mono ?_
 rintro e w1 ⟨rfl, hb1⟩
 have HB1 := Lib.hid ((HB.out _).trans (hb1.mono (HB.out _).size))
 clear hb1
 go_wp2_with fail
 go_ret
 exact ⟨rfl, HB1.out⟩
theorem named_17 (v : V) (x : X) (w : World) (h : Is w v x) (_hs : v.nm.size ≤ 4194304) (hk : v.k = 17) : Calls Tryz.prog 39 #[x.v] w fun e w' => e = .returned (.bool (nmOk (ctch3 v) v)) ∧ Below w.heap.size w w' := by
 obtain ⟨ka, kc, la, lc, rfl, h1, h2, h3, h4⟩ := h.open
 have HB := Lib.hid (below_alloc w)
 rw [nm_17 hk]
 have HN := Lib.hid fun w' => refOperator_any 17 v.nm w' 
 simp only [X.v]
 rw [hk]
 clear h h1 h2 h3 h4 hk
 generalize v.nm = nm, v.n = n, v.s = s, v.ks.length = kn, v.l.length = ln at *
 generalize opOk 17 (bl nm) = b at *
 go_enter Tryz.func39, Tryz.ntmps39
 go_wp2_with fail
 refine (HN.out _).mono ?_
 rintro e w1 ⟨rfl, hb1⟩
 have HB1 := Lib.hid ((HB.out _).trans (hb1.mono (HB.out _).size))
 clear hb1
 go_wp2_with fail
 go_ret
 exact ⟨rfl, HB1.out⟩
theorem named_18 (v : V) (x : X) (w : World) (h : Is w v x) (_hs : v.nm.size ≤ 4194304) (hk : v.k = 18) : Calls Tryz.prog 39 #[x.v] w fun e w' => e = .returned (.bool (nmOk (ctch3 v) v)) ∧ Below w.heap.size w w' := by
 obtain ⟨ka, kc, la, lc, rfl, h1, h2, h3, h4⟩ := h.open
 have HB := Lib.hid (below_alloc w)
 rw [nm_18 hk]
 have HN := Lib.hid fun w' => refOperator_any 18 v.nm w' 
 simp only [X.v]
 rw [hk]
 clear h h1 h2 h3 h4 hk
 generalize v.nm = nm, v.n = n, v.s = s, v.ks.length = kn, v.l.length = ln at *
 generalize opOk 18 (bl nm) = b at *
 go_enter Tryz.func39, Tryz.ntmps39
 go_wp2_with fail
 refine (HN.out _).mono ?_
 rintro e w1 ⟨rfl, hb1⟩
 have HB1 := Lib.hid ((HB.out _).trans (hb1.mono (HB.out _).size))
 clear hb1
 go_wp2_with fail
 go_ret
 exact ⟨rfl, HB1.out⟩
theorem named_20 (v : V) (x : X) (w : World) (h : Is w v x) (_hs : v.nm.size ≤ 4194304) (hk : v.k = 20) : Calls Tryz.prog 39 #[x.v] w fun e w' => e = .returned (.bool (nmOk (ctch3 v) v)) ∧ Below w.heap.size w w' := by
 obtain ⟨ka, kc, la, lc, rfl, h1, h2, h3, h4⟩ := h.open
 have HB := Lib.hid (below_alloc w)
 rw [nm_20 hk]
 have HN := Lib.hid fun w' => refOperator_any 20 v.nm w' 
 simp only [X.v]
 rw [hk]
 clear h h1 h2 h3 h4 hk
 generalize v.nm = nm, v.n = n, v.s = s, v.ks.length = kn, v.l.length = ln at *
 generalize opOk 20 (bl nm) = b at *
 go_enter Tryz.func39, Tryz.ntmps39
 go_wp2_with fail
 refine (HN.out _).mono ?_
 rintro e w1 ⟨rfl, hb1⟩
 have HB1 := Lib.hid ((HB.out _).trans (hb1.mono (HB.out _).size))
 clear hb1
 go_wp2_with fail
 go_ret
 exact ⟨rfl, HB1.out⟩
theorem named_35 (v : V) (x : X) (w : World) (h : Is w v x) (hs : v.nm.size ≤ 4194304) (hk : v.k = 35) : Calls Tryz.prog 39 #[x.v] w fun e w' => e = .returned (.bool (nmOk (ctch3 v) v)) ∧ Below w.heap.size w w' := by
 obtain ⟨ka, kc, la, lc, rfl, h1, h2, h3, h4⟩ := h.open
 have HB := Lib.hid (below_alloc w)
 rw [nm_35 hk]
 have HN := Lib.hid fun w' => refName_any v.nm w' hs
 have HE : Hid (v.nm = ⟨#[]⟩ ∨ ¬ v.nm.size = 0) := by
  by_cases h : v.nm = ⟨#[]⟩
  ·exact .inl h
  ·exact .inr fun e => h (nil_of e)
 by_cases h3' : v.l.length = 3
 ·obtain ⟨g, o, rfl, hg, y, hy, hyb⟩ := h4.at_ (i := 1) (by omega)
  have hyk := ((isB_iff _ _ _ _).1 hyb).1.1
  have hct : ctch3 v = decide (y.k = 25) := by rw [ctch3_yes h3', hyk]
  rw [hct]
  have c0 := (World.cell?_alloc_lt w (.cells #[.int .i64 35, .string v.nm, .int .i64 v.n, .string v.s, .slice ka v.ks.length kc, .slice (some ⟨g, o, none⟩) 3 lc] 25) ⟨g, o + 1 * 6, none⟩ hg).trans hy.c0
  simp only [X.v]
  rw [hk, h3']
  clear h h1 h2 h3 h4 hk hy hyb hyk hct h3' hg
  generalize v.nm = nm, v.n = n, v.s = s, v.ks.length = kn at *
  generalize y.k = yk at *
  by_cases hy : yk = 25
  ·rw [decide_eq_true hy, if_pos rfl]
   subst hy
   generalize isNm nm = b at *
   go_enter Tryz.func39, Tryz.ntmps39
   go_wp2_with fail
   refine (HN.out _).mono ?_
   rintro e w1 ⟨rfl, hb1⟩
   have HB1 := Lib.hid ((HB.out _).trans (hb1.mono (HB.out _).size))
   clear hb1
   go_wp2_with fail
   go_ret
   exact ⟨rfl, HB1.out⟩
  ·rw [decide_eq_false hy, if_neg (by simp)]
   have hq : (yk == 25) = false := by rw [beq_eq_false_iff_ne]; exact hy
   clear hy
   rcases HE.out with rfl | hz
   ·go_enter Tryz.func39, Tryz.ntmps39
    go_wp2_with fail
    go_ret
    exact ⟨rfl, HB.out _⟩
   ·obtain ⟨z1, z2⟩ := str_some hz
    rw [decide_eq_false hz]
    clear hz
    go_enter Tryz.func39, Tryz.ntmps39
    go_wp2_with fail
    go_ret
    exact ⟨rfl, HB.out _⟩
 ·have hct : ctch3 v = false := by
   unfold ctch3
   rw [decide_eq_false h3']
   rfl
  rw [hct, if_neg (by simp)]
  have hq : ((v.l.length : Int) == 3) = false := by rw [beq_eq_false_iff_ne]; omega
  simp only [X.v]
  rw [hk]
  clear h h1 h2 h3 h4 hk hct h3'
  generalize v.nm = nm, v.n = n, v.s = s, v.ks.length = kn, v.l.length = ln at *
  rcases HE.out with rfl | hz
  ·go_enter Tryz.func39, Tryz.ntmps39
   go_wp2_with fail
   go_ret
   exact ⟨rfl, HB.out _⟩
  ·obtain ⟨z1, z2⟩ := str_some hz
   rw [decide_eq_false hz]
   clear hz
   go_enter Tryz.func39, Tryz.ntmps39
   go_wp2_with fail
   go_ret
   exact ⟨rfl, HB.out _⟩
theorem named_else (v : V) (x : X) (w : World) (h : Is w v x) (g3 : ¬ v.k = 3) (g23 : ¬ v.k = 23) (g38 : ¬ v.k = 38) (g39 : ¬ v.k = 39) (g10 : ¬ v.k = 10) (g31 : ¬ v.k = 31) (g32 : ¬ v.k = 32) (g11 : ¬ v.k = 11) (g15 : ¬ v.k = 15) (g16 : ¬ v.k = 16) (g17 : ¬ v.k = 17) (g18 : ¬ v.k = 18) (g20 : ¬ v.k = 20) (g35 : ¬ v.k = 35) : Calls Tryz.prog 39 #[x.v] w fun e w' => e = .returned (.bool (nmOk (ctch3 v) v)) ∧ Below w.heap.size w w' := by
 obtain ⟨ka, kc, la, lc, rfl, h1, h2, h3, h4⟩ := h.open
 have HB := Lib.hid (below_alloc w)
 have hv : nmOk (ctch3 v) v = decide (v.nm.size = 0) := by
  unfold nmOk
  rw [if_neg (by omega), if_neg (by omega), if_neg (by omega), if_neg (by omega), if_neg (by omega)]
 rw [hv]
 simp only [X.v]
 clear h h1 h2 h3 h4 hv
 generalize v.nm = nm, v.n = n, v.s = s, v.ks.length = kn, v.l.length = ln, v.k = k at *
 have b3 : (k == 3) = false := by rw [beq_eq_false_iff_ne]; exact g3
 have b23 : (k == 23) = false := by rw [beq_eq_false_iff_ne]; exact g23
 have b38 : (k == 38) = false := by rw [beq_eq_false_iff_ne]; exact g38
 have b39 : (k == 39) = false := by rw [beq_eq_false_iff_ne]; exact g39
 have b10 : (k == 10) = false := by rw [beq_eq_false_iff_ne]; exact g10
 have b31 : (k == 31) = false := by rw [beq_eq_false_iff_ne]; exact g31
 have b32 : (k == 32) = false := by rw [beq_eq_false_iff_ne]; exact g32
 have b11 : (k == 11) = false := by rw [beq_eq_false_iff_ne]; exact g11
 have b15 : (k == 15) = false := by rw [beq_eq_false_iff_ne]; exact g15
 have b16 : (k == 16) = false := by rw [beq_eq_false_iff_ne]; exact g16
 have b17 : (k == 17) = false := by rw [beq_eq_false_iff_ne]; exact g17
 have b18 : (k == 18) = false := by rw [beq_eq_false_iff_ne]; exact g18
 have b20 : (k == 20) = false := by rw [beq_eq_false_iff_ne]; exact g20
 have b35 : (k == 35) = false := by rw [beq_eq_false_iff_ne]; exact g35
 clear g3 g23 g38 g39 g10 g31 g32 g11 g15 g16 g17 g18 g20 g35
 by_cases hn : nm = ⟨#[]⟩
 ·subst hn
  go_enter Tryz.func39, Tryz.ntmps39
  go_wp2_with fail
  go_ret
  exact ⟨rfl, HB.out _⟩
 ·have hz : ¬ nm.size = 0 := fun h => hn (nil_of h)
  obtain ⟨z1, z2⟩ := str_some hz
  rw [decide_eq_false hz]
  clear hn hz
  go_enter Tryz.func39, Tryz.ntmps39
  go_wp2_with fail
  go_ret
  exact ⟨rfl, HB.out _⟩
theorem named_any (v : V) (x : X) (w : World) (h : Is w v x) (hs : v.nm.size ≤ 4194304) : Calls Tryz.prog 39 #[x.v] w fun e w' => e = .returned (.bool (nmOk (ctch3 v) v)) ∧ Below w.heap.size w w' := by
 by_cases g3 : v.k = 3
 ·exact named_3 v x w h hs g3
 by_cases g23 : v.k = 23
 ·exact named_23 v x w h hs g23
 by_cases g38 : v.k = 38
 ·exact named_38 v x w h hs g38
 by_cases g39 : v.k = 39
 ·exact named_39 v x w h hs g39
 by_cases g10 : v.k = 10
 ·exact named_10 v x w h hs g10
 by_cases g31 : v.k = 31
 ·exact named_31 v x w h hs g31
 by_cases g32 : v.k = 32
 ·exact named_32 v x w h hs g32
 by_cases g11 : v.k = 11
 ·exact named_11 v x w h hs g11
 by_cases g15 : v.k = 15
 ·exact named_15 v x w h hs g15
 by_cases g16 : v.k = 16
 ·exact named_16 v x w h hs g16
 by_cases g17 : v.k = 17
 ·exact named_17 v x w h hs g17
 by_cases g18 : v.k = 18
 ·exact named_18 v x w h hs g18
 by_cases g20 : v.k = 20
 ·exact named_20 v x w h hs g20
 by_cases g35 : v.k = 35
 ·exact named_35 v x w h hs g35
 exact named_else v x w h g3 g23 g38 g39 g10 g31 g32 g11 g15 g16 g17 g18 g20 g35
theorem key_le : ∀ (l : List ByteArray) (j : Nat) (h : j < l.length), l[j].size ≤ keysBulk l
 | s :: l, 0, _ => by show s.size ≤ s.size + 1 + keysBulk l; omega
 | s :: l, j + 1, h => by
  have := key_le l j (by simpa using h)
  show (l[j]'(by simpa using h)).size ≤ s.size + 1 + keysBulk l
  omega
theorem own_sizes (v : V) (hb : v.bulk ≤ 4194304) : v.nm.size ≤ 4194304 ∧ v.s.size ≤ 4194304 ∧ keysBulk v.ks ≤ 4194304 := by
 cases v
 simp only [V.bulk, V.nm, V.s, V.ks] at *
 omega
theorem own_1 (v : V) (x : X) (w : World) (h : Is w v x) (hb : v.bulk ≤ 4194304) (hk : v.k = 1) : Calls Tryz.prog 28 #[x.v] w fun e w' => e = .returned (.bool (fields (ctch3 v) v)) ∧ Below w.heap.size w w' := by
 have hsz := own_sizes v hb
 have HNM := Lib.hid fun w' (hb' : Below w.heap.size w w') => named_any v x w' (Is.below hb' _ _ h) hsz.1
 have HCK := Lib.hid fun w' => refCheck_any v.s w' (by unfold maxLen; omega)
 have HKN : Hid (∀ (j : Nat) (hj : j < v.ks.length) (w' : World), Calls Tryz.prog 41 #[.string v.ks[j]] w' fun e w'' => e = .returned (.bool (isNm v.ks[j])) ∧ Below w'.heap.size w' w'') := fun j hj w' => refName_any _ w' (by have := key_le v.ks j hj; omega)
 obtain ⟨xka, xkc, xla, xlc, rfl, -, -, h3, -⟩ := h.open
 have HST := Lib.hid h3
 have hkl : (v.ks.length : Int) ≤ 4194304 := by have := length_le_keysBulk v.ks; omega
 obtain ⟨W0, hW0, HB0, HF⟩ := box_new w v.k v.nm v.n v.s xka v.ks.length xkc xla v.l.length xlc
 have HW0 := Lib.hid hW0
 have hnum : numOk v = decide (0 ≤ v.n ∧ v.n ≤ 9007199254740991) := by unfold numOk; rw [hk]; rfl
 have htx : txOk v = decide (v.s.size = 0) := by unfold txOk; rw [hk]; rfl
 have hns : nsOk v = v.ks.isEmpty := by unfold nsOk; rw [hk]; rfl
 obtain ⟨r, hr⟩ : ∃ r, fields (ctch3 v) v = r := ⟨_, rfl⟩
 rw [hr]
 have HR : Hid (r = (nmOk (ctch3 v) v && (decide (0 ≤ v.n ∧ v.n ≤ 9007199254740991) && (decide (v.s.size = 0) && v.ks.isEmpty)))) := by
  show _ = _
  rw [← hr, ← hnum, ← htx, ← hns]
  rfl
 simp only [X.v] at HNM ⊢
 rw [hk] at HNM HF HW0 ⊢
 clear h h3 hb hsz hW0 hnum htx hns hr hk
 generalize nmOk (ctch3 v) v = bn at *
 generalize v.nm = nm, v.n = n, v.s = s, v.ks = ks, v.l.length = ln at *
 go_enter Tryz.func28, Tryz.ntmps28
 go_wp2_with fail
 rw [HW0.out]
 clear HW0
 refine (HNM.out _ HB0.out).mono ?_
 rintro e w1 ⟨rfl, hb1⟩
 have HB1 := Lib.hid hb1
 have HBW := Lib.hid (HB0.out.trans (hb1.mono HB0.out.size))
 clear hb1 HNM
 obtain ⟨c0, c1, c2, c3, c4, c5⟩ := (HF.out _ HB1.out).six
 cases bn
 ·have HV : Hid (r = false) := by show _ = _; rw [HR.out]; rfl
  clear HR
  go_wp2_with (go_at_call 40; refine (HCK.out _).mono ?_; rintro e w' ⟨rfl, rfl⟩)
  go_ret
  exact ⟨by rw [HV.out]; rfl, HBW.out⟩
 rw [Bool.true_and] at HR
 by_cases hs : s = ⟨#[]⟩
 ·subst hs
  rw [decide_eq_true (show (⟨#[]⟩ : ByteArray).size = 0 from rfl), Bool.true_and] at HR
  rw [decide_eq_true (show (⟨#[]⟩ : ByteArray).size % 2 = 0 from rfl)] at HCK
  -- number
  by_cases hn0 : n < 0
  ·rw [decide_eq_false (by omega)] at HR
   have HV : Hid (r = false) := by show _ = _; rw [HR.out]; rfl
   clear HR
   go_wp2_with (go_at_call 40; refine (HCK.out _).mono ?_; rintro e w' ⟨rfl, rfl⟩)
   go_ret
   exact ⟨by rw [HV.out]; rfl, HBW.out⟩
  by_cases hn1 : 9007199254740991 < n
  ·rw [decide_eq_false (by omega)] at HR
   have HV : Hid (r = false) := by show _ = _; rw [HR.out]; rfl
   clear HR
   go_wp2_with (go_at_call 40; refine (HCK.out _).mono ?_; rintro e w' ⟨rfl, rfl⟩)
   go_ret
   exact ⟨by rw [HV.out]; rfl, HBW.out⟩
  rw [decide_eq_true (by omega), Bool.true_and] at HR
  by_cases hks : ks = []
  ·subst hks
   have HV : Hid (r = true) := by show _ = _; rw [HR.out]; rfl
   clear HR HST HKN
   go_wp2_with (go_at_call 40; refine (HCK.out _).mono ?_; rintro e w' ⟨rfl, rfl⟩)
   go_loopw [72] (fun i wr => i = .int .i64 0 ∧ w1 = wr) (fun _ _ => 0)
   case atStart => exact ⟨rfl, rfl⟩
   case round =>
    obtain ⟨rfl, rfl⟩ := hrel
    go_wp2_with fail
    go_ret
    exact ⟨by rw [HV.out]; rfl, HBW.out⟩
  ·have HV : Hid (r = false) := by
    show _ = _
    rw [HR.out]
    cases ks
    ·exact absurd rfl hks
    ·rfl
   have hpos : (0 : Int) < (ks.length : Int) := by
    have := List.length_pos_iff.2 hks
    omega
   clear HR HST HKN hks
   generalize ks.length = kn at *
   go_wp2_with (go_at_call 40; refine (HCK.out _).mono ?_; rintro e w' ⟨rfl, rfl⟩)
   go_ret
   exact ⟨by rw [HV.out]; rfl, HBW.out⟩
 ·have hz : ¬ s.size = 0 := fun h => hs (nil_of h)
  obtain ⟨z1, z2⟩ := str_some hz
  rw [decide_eq_false hz] at HR
  clear hs hz
  have HV : Hid (r = false) := by show _ = _; rw [HR.out]; simp
  clear HR
  go_wp2_with (go_at_call 40; refine (HCK.out _).mono ?_; rintro e w' ⟨rfl, rfl⟩)
  go_ret
  exact ⟨by rw [HV.out]; rfl, HBW.out⟩
theorem own_6 (v : V) (x : X) (w : World) (h : Is w v x) (hb : v.bulk ≤ 4194304) (hk : v.k = 6) : Calls Tryz.prog 28 #[x.v] w fun e w' => e = .returned (.bool (fields (ctch3 v) v)) ∧ Below w.heap.size w w' := by
 have hsz := own_sizes v hb
 have HNM := Lib.hid fun w' (hb' : Below w.heap.size w w') => named_any v x w' (Is.below hb' _ _ h) hsz.1
 have HCK := Lib.hid fun w' => refCheck_any v.s w' (by unfold maxLen; omega)
 have HKN : Hid (∀ (j : Nat) (hj : j < v.ks.length) (w' : World), Calls Tryz.prog 41 #[.string v.ks[j]] w' fun e w'' => e = .returned (.bool (isNm v.ks[j])) ∧ Below w'.heap.size w' w'') := fun j hj w' => refName_any _ w' (by have := key_le v.ks j hj; omega)
 obtain ⟨xka, xkc, xla, xlc, rfl, -, -, h3, -⟩ := h.open
 have HST := Lib.hid h3
 have hkl : (v.ks.length : Int) ≤ 4194304 := by have := length_le_keysBulk v.ks; omega
 obtain ⟨W0, hW0, HB0, HF⟩ := box_new w v.k v.nm v.n v.s xka v.ks.length xkc xla v.l.length xlc
 have HW0 := Lib.hid hW0
 have hnum : numOk v = decide (v.n = 0 ∨ v.n = 1) := by unfold numOk; rw [hk]; rfl
 have htx : txOk v = decide (v.s.size = 0) := by unfold txOk; rw [hk]; rfl
 have hns : nsOk v = v.ks.isEmpty := by unfold nsOk; rw [hk]; rfl
 obtain ⟨r, hr⟩ : ∃ r, fields (ctch3 v) v = r := ⟨_, rfl⟩
 rw [hr]
 have HR : Hid (r = (nmOk (ctch3 v) v && (decide (v.n = 0 ∨ v.n = 1) && (decide (v.s.size = 0) && v.ks.isEmpty)))) := by
  show _ = _
  rw [← hr, ← hnum, ← htx, ← hns]
  rfl
 simp only [X.v] at HNM ⊢
 rw [hk] at HNM HF HW0 ⊢
 clear h h3 hb hsz hW0 hnum htx hns hr hk
 generalize nmOk (ctch3 v) v = bn at *
 generalize v.nm = nm, v.n = n, v.s = s, v.ks = ks, v.l.length = ln at *
 go_enter Tryz.func28, Tryz.ntmps28
 go_wp2_with fail
 rw [HW0.out]
 clear HW0
 refine (HNM.out _ HB0.out).mono ?_
 rintro e w1 ⟨rfl, hb1⟩
 have HB1 := Lib.hid hb1
 have HBW := Lib.hid (HB0.out.trans (hb1.mono HB0.out.size))
 clear hb1 HNM
 obtain ⟨c0, c1, c2, c3, c4, c5⟩ := (HF.out _ HB1.out).six
 cases bn
 ·have HV : Hid (r = false) := by show _ = _; rw [HR.out]; rfl
  clear HR
  go_wp2_with (go_at_call 40; refine (HCK.out _).mono ?_; rintro e w' ⟨rfl, rfl⟩)
  go_ret
  exact ⟨by rw [HV.out]; rfl, HBW.out⟩
 rw [Bool.true_and] at HR
 by_cases hs : s = ⟨#[]⟩
 ·subst hs
  rw [decide_eq_true (show (⟨#[]⟩ : ByteArray).size = 0 from rfl), Bool.true_and] at HR
  rw [decide_eq_true (show (⟨#[]⟩ : ByteArray).size % 2 = 0 from rfl)] at HCK
  -- number
  by_cases hn0 : n = 0
  ·rw [decide_eq_true (.inl hn0), Bool.true_and] at HR
   subst hn0
   by_cases hks : ks = []
   ·subst hks
    have HV : Hid (r = true) := by show _ = _; rw [HR.out]; rfl
    clear HR HST HKN
    go_wp2_with (go_at_call 40; refine (HCK.out _).mono ?_; rintro e w' ⟨rfl, rfl⟩)
    go_loopw [72] (fun i wr => i = .int .i64 0 ∧ w1 = wr) (fun _ _ => 0)
    case atStart => exact ⟨rfl, rfl⟩
    case round =>
     obtain ⟨rfl, rfl⟩ := hrel
     go_wp2_with fail
     go_ret
     exact ⟨by rw [HV.out]; rfl, HBW.out⟩
   ·have HV : Hid (r = false) := by
     show _ = _
     rw [HR.out]
     cases ks
     ·exact absurd rfl hks
     ·rfl
    have hpos : (0 : Int) < (ks.length : Int) := by
     have := List.length_pos_iff.2 hks
     omega
    clear HR HST HKN hks
    generalize ks.length = kn at *
    go_wp2_with (go_at_call 40; refine (HCK.out _).mono ?_; rintro e w' ⟨rfl, rfl⟩)
    go_ret
    exact ⟨by rw [HV.out]; rfl, HBW.out⟩
  by_cases hn1 : n = 1
  ·rw [decide_eq_true (.inr hn1), Bool.true_and] at HR
   subst hn1
   by_cases hks : ks = []
   ·subst hks
    have HV : Hid (r = true) := by show _ = _; rw [HR.out]; rfl
    clear HR HST HKN
    go_wp2_with (go_at_call 40; refine (HCK.out _).mono ?_; rintro e w' ⟨rfl, rfl⟩)
    go_loopw [72] (fun i wr => i = .int .i64 0 ∧ w1 = wr) (fun _ _ => 0)
    case atStart => exact ⟨rfl, rfl⟩
    case round =>
     obtain ⟨rfl, rfl⟩ := hrel
     go_wp2_with fail
     go_ret
     exact ⟨by rw [HV.out]; rfl, HBW.out⟩
   ·have HV : Hid (r = false) := by
     show _ = _
     rw [HR.out]
     cases ks
     ·exact absurd rfl hks
     ·rfl
    have hpos : (0 : Int) < (ks.length : Int) := by
     have := List.length_pos_iff.2 hks
     omega
    clear HR HST HKN hks
    generalize ks.length = kn at *
    go_wp2_with (go_at_call 40; refine (HCK.out _).mono ?_; rintro e w' ⟨rfl, rfl⟩)
    go_ret
    exact ⟨by rw [HV.out]; rfl, HBW.out⟩
  rw [decide_eq_false (fun h => h.elim hn0 hn1)] at HR
  have q0 : (n == 0) = false := by rw [beq_eq_false_iff_ne]; exact hn0
  have q1 : (n == 1) = false := by rw [beq_eq_false_iff_ne]; exact hn1
  have p0 : (n != 0) = true := bne_iff_ne.2 hn0
  have p1 : (n != 1) = true := bne_iff_ne.2 hn1
  have HV : Hid (r = false) := by show _ = _; rw [HR.out]; rfl
  clear HR
  go_wp2_with (go_at_call 40; refine (HCK.out _).mono ?_; rintro e w' ⟨rfl, rfl⟩)
  go_ret
  exact ⟨by rw [HV.out]; rfl, HBW.out⟩
 ·have hz : ¬ s.size = 0 := fun h => hs (nil_of h)
  obtain ⟨z1, z2⟩ := str_some hz
  rw [decide_eq_false hz] at HR
  clear hs hz
  have HV : Hid (r = false) := by show _ = _; rw [HR.out]; simp
  clear HR
  go_wp2_with (go_at_call 40; refine (HCK.out _).mono ?_; rintro e w' ⟨rfl, rfl⟩)
  go_ret
  exact ⟨by rw [HV.out]; rfl, HBW.out⟩
theorem own_16 (v : V) (x : X) (w : World) (h : Is w v x) (hb : v.bulk ≤ 4194304) (hk : v.k = 16) : Calls Tryz.prog 28 #[x.v] w fun e w' => e = .returned (.bool (fields (ctch3 v) v)) ∧ Below w.heap.size w w' := by
 have hsz := own_sizes v hb
 have HNM := Lib.hid fun w' (hb' : Below w.heap.size w w') => named_any v x w' (Is.below hb' _ _ h) hsz.1
 have HCK := Lib.hid fun w' => refCheck_any v.s w' (by unfold maxLen; omega)
 have HKN : Hid (∀ (j : Nat) (hj : j < v.ks.length) (w' : World), Calls Tryz.prog 41 #[.string v.ks[j]] w' fun e w'' => e = .returned (.bool (isNm v.ks[j])) ∧ Below w'.heap.size w' w'') := fun j hj w' => refName_any _ w' (by have := key_le v.ks j hj; omega)
 obtain ⟨xka, xkc, xla, xlc, rfl, -, -, h3, -⟩ := h.open
 have HST := Lib.hid h3
 have hkl : (v.ks.length : Int) ≤ 4194304 := by have := length_le_keysBulk v.ks; omega
 obtain ⟨W0, hW0, HB0, HF⟩ := box_new w v.k v.nm v.n v.s xka v.ks.length xkc xla v.l.length xlc
 have HW0 := Lib.hid hW0
 have hnum : numOk v = decide (v.n = 0 ∨ v.n = 1) := by unfold numOk; rw [hk]; rfl
 have htx : txOk v = decide (v.s.size = 0) := by unfold txOk; rw [hk]; rfl
 have hns : nsOk v = v.ks.isEmpty := by unfold nsOk; rw [hk]; rfl
 obtain ⟨r, hr⟩ : ∃ r, fields (ctch3 v) v = r := ⟨_, rfl⟩
 rw [hr]
 have HR : Hid (r = (nmOk (ctch3 v) v && (decide (v.n = 0 ∨ v.n = 1) && (decide (v.s.size = 0) && v.ks.isEmpty)))) := by
  show _ = _
  rw [← hr, ← hnum, ← htx, ← hns]
  rfl
 simp only [X.v] at HNM ⊢
 rw [hk] at HNM HF HW0 ⊢
 clear h h3 hb hsz hW0 hnum htx hns hr hk
 generalize nmOk (ctch3 v) v = bn at *
 generalize v.nm = nm, v.n = n, v.s = s, v.ks = ks, v.l.length = ln at *
 go_enter Tryz.func28, Tryz.ntmps28
 go_wp2_with fail
 rw [HW0.out]
 clear HW0
 refine (HNM.out _ HB0.out).mono ?_
 rintro e w1 ⟨rfl, hb1⟩
 have HB1 := Lib.hid hb1
 have HBW := Lib.hid (HB0.out.trans (hb1.mono HB0.out.size))
 clear hb1 HNM
 obtain ⟨c0, c1, c2, c3, c4, c5⟩ := (HF.out _ HB1.out).six
 cases bn
 ·have HV : Hid (r = false) := by show _ = _; rw [HR.out]; rfl
  clear HR
  go_wp2_with (go_at_call 40; refine (HCK.out _).mono ?_; rintro e w' ⟨rfl, rfl⟩)
  go_ret
  exact ⟨by rw [HV.out]; rfl, HBW.out⟩
 rw [Bool.true_and] at HR
 by_cases hs : s = ⟨#[]⟩
 ·subst hs
  rw [decide_eq_true (show (⟨#[]⟩ : ByteArray).size = 0 from rfl), Bool.true_and] at HR
  rw [decide_eq_true (show (⟨#[]⟩ : ByteArray).size % 2 = 0 from rfl)] at HCK
  -- number
  by_cases hn0 : n = 0
  ·rw [decide_eq_true (.inl hn0), Bool.true_and] at HR
   subst hn0
   by_cases hks : ks = []
   ·subst hks
    have HV : Hid (r = true) := by show _ = _; rw [HR.out]; rfl
    clear HR HST HKN
    go_wp2_with (go_at_call 40; refine (HCK.out _).mono ?_; rintro e w' ⟨rfl, rfl⟩)
    go_loopw [72] (fun i wr => i = .int .i64 0 ∧ w1 = wr) (fun _ _ => 0)
    case atStart => exact ⟨rfl, rfl⟩
    case round =>
     obtain ⟨rfl, rfl⟩ := hrel
     go_wp2_with fail
     go_ret
     exact ⟨by rw [HV.out]; rfl, HBW.out⟩
   ·have HV : Hid (r = false) := by
     show _ = _
     rw [HR.out]
     cases ks
     ·exact absurd rfl hks
     ·rfl
    have hpos : (0 : Int) < (ks.length : Int) := by
     have := List.length_pos_iff.2 hks
     omega
    clear HR HST HKN hks
    generalize ks.length = kn at *
    go_wp2_with (go_at_call 40; refine (HCK.out _).mono ?_; rintro e w' ⟨rfl, rfl⟩)
    go_ret
    exact ⟨by rw [HV.out]; rfl, HBW.out⟩
  by_cases hn1 : n = 1
  ·rw [decide_eq_true (.inr hn1), Bool.true_and] at HR
   subst hn1
   by_cases hks : ks = []
   ·subst hks
    have HV : Hid (r = true) := by show _ = _; rw [HR.out]; rfl
    clear HR HST HKN
    go_wp2_with (go_at_call 40; refine (HCK.out _).mono ?_; rintro e w' ⟨rfl, rfl⟩)
    go_loopw [72] (fun i wr => i = .int .i64 0 ∧ w1 = wr) (fun _ _ => 0)
    case atStart => exact ⟨rfl, rfl⟩
    case round =>
     obtain ⟨rfl, rfl⟩ := hrel
     go_wp2_with fail
     go_ret
     exact ⟨by rw [HV.out]; rfl, HBW.out⟩
   ·have HV : Hid (r = false) := by
     show _ = _
     rw [HR.out]
     cases ks
     ·exact absurd rfl hks
     ·rfl
    have hpos : (0 : Int) < (ks.length : Int) := by
     have := List.length_pos_iff.2 hks
     omega
    clear HR HST HKN hks
    generalize ks.length = kn at *
    go_wp2_with (go_at_call 40; refine (HCK.out _).mono ?_; rintro e w' ⟨rfl, rfl⟩)
    go_ret
    exact ⟨by rw [HV.out]; rfl, HBW.out⟩
  rw [decide_eq_false (fun h => h.elim hn0 hn1)] at HR
  have q0 : (n == 0) = false := by rw [beq_eq_false_iff_ne]; exact hn0
  have q1 : (n == 1) = false := by rw [beq_eq_false_iff_ne]; exact hn1
  have p0 : (n != 0) = true := bne_iff_ne.2 hn0
  have p1 : (n != 1) = true := bne_iff_ne.2 hn1
  have HV : Hid (r = false) := by show _ = _; rw [HR.out]; rfl
  clear HR
  go_wp2_with (go_at_call 40; refine (HCK.out _).mono ?_; rintro e w' ⟨rfl, rfl⟩)
  go_ret
  exact ⟨by rw [HV.out]; rfl, HBW.out⟩
 ·have hz : ¬ s.size = 0 := fun h => hs (nil_of h)
  obtain ⟨z1, z2⟩ := str_some hz
  rw [decide_eq_false hz] at HR
  clear hs hz
  have HV : Hid (r = false) := by show _ = _; rw [HR.out]; simp
  clear HR
  go_wp2_with (go_at_call 40; refine (HCK.out _).mono ?_; rintro e w' ⟨rfl, rfl⟩)
  go_ret
  exact ⟨by rw [HV.out]; rfl, HBW.out⟩
theorem own_2 (v : V) (x : X) (w : World) (h : Is w v x) (hb : v.bulk ≤ 4194304) (hk : v.k = 2) : Calls Tryz.prog 28 #[x.v] w fun e w' => e = .returned (.bool (fields (ctch3 v) v)) ∧ Below w.heap.size w w' := by
 have hsz := own_sizes v hb
 have HNM := Lib.hid fun w' (hb' : Below w.heap.size w w') => named_any v x w' (Is.below hb' _ _ h) hsz.1
 have HCK := Lib.hid fun w' => refCheck_any v.s w' (by unfold maxLen; omega)
 have HKN : Hid (∀ (j : Nat) (hj : j < v.ks.length) (w' : World), Calls Tryz.prog 41 #[.string v.ks[j]] w' fun e w'' => e = .returned (.bool (isNm v.ks[j])) ∧ Below w'.heap.size w' w'') := fun j hj w' => refName_any _ w' (by have := key_le v.ks j hj; omega)
 obtain ⟨xka, xkc, xla, xlc, rfl, -, -, h3, -⟩ := h.open
 have HST := Lib.hid h3
 have hkl : (v.ks.length : Int) ≤ 4194304 := by have := length_le_keysBulk v.ks; omega
 obtain ⟨W0, hW0, HB0, HF⟩ := box_new w v.k v.nm v.n v.s xka v.ks.length xkc xla v.l.length xlc
 have HW0 := Lib.hid hW0
 have hnum : numOk v = decide (v.n = 0) := by unfold numOk; rw [hk]; rfl
 have htx : txOk v = decide (v.s.size % 2 = 0) := by unfold txOk; rw [hk]; rfl
 have hns : nsOk v = v.ks.isEmpty := by unfold nsOk; rw [hk]; rfl
 obtain ⟨r, hr⟩ : ∃ r, fields (ctch3 v) v = r := ⟨_, rfl⟩
 rw [hr]
 have HR : Hid (r = (nmOk (ctch3 v) v && (decide (v.n = 0) && (decide (v.s.size % 2 = 0) && v.ks.isEmpty)))) := by
  show _ = _
  rw [← hr, ← hnum, ← htx, ← hns]
  rfl
 simp only [X.v] at HNM ⊢
 rw [hk] at HNM HF HW0 ⊢
 clear h h3 hb hsz hW0 hnum htx hns hr hk
 generalize nmOk (ctch3 v) v = bn at *
 generalize v.nm = nm, v.n = n, v.s = s, v.ks = ks, v.l.length = ln at *
 go_enter Tryz.func28, Tryz.ntmps28
 go_wp2_with fail
 rw [HW0.out]
 clear HW0
 refine (HNM.out _ HB0.out).mono ?_
 rintro e w1 ⟨rfl, hb1⟩
 have HB1 := Lib.hid hb1
 have HBW := Lib.hid (HB0.out.trans (hb1.mono HB0.out.size))
 clear hb1 HNM
 obtain ⟨c0, c1, c2, c3, c4, c5⟩ := (HF.out _ HB1.out).six
 cases bn
 ·have HV : Hid (r = false) := by show _ = _; rw [HR.out]; rfl
  clear HR
  go_wp2_with (go_at_call 40; refine (HCK.out _).mono ?_; rintro e w' ⟨rfl, rfl⟩)
  go_ret
  exact ⟨by rw [HV.out]; rfl, HBW.out⟩
 rw [Bool.true_and] at HR
 by_cases hev : s.size % 2 = 0
 ·rw [decide_eq_true hev] at HR HCK
  rw [Bool.true_and] at HR
  by_cases hs : s = ⟨#[]⟩
  ·subst hs
   -- number
   by_cases hn0 : n = 0
   ·rw [decide_eq_true hn0, Bool.true_and] at HR
    subst hn0
    by_cases hks : ks = []
    ·subst hks
     have HV : Hid (r = true) := by show _ = _; rw [HR.out]; rfl
     clear HR HST HKN
     go_wp2_with (go_at_call 40; refine (HCK.out _).mono ?_; rintro e w' ⟨rfl, rfl⟩)
     go_loopw [72] (fun i wr => i = .int .i64 0 ∧ w1 = wr) (fun _ _ => 0)
     case atStart => exact ⟨rfl, rfl⟩
     case round =>
      obtain ⟨rfl, rfl⟩ := hrel
      go_wp2_with fail
      go_ret
      exact ⟨by rw [HV.out]; rfl, HBW.out⟩
    ·have HV : Hid (r = false) := by
      show _ = _
      rw [HR.out]
      cases ks
      ·exact absurd rfl hks
      ·rfl
     have hpos : (0 : Int) < (ks.length : Int) := by
      have := List.length_pos_iff.2 hks
      omega
     clear HR HST HKN hks
     generalize ks.length = kn at *
     go_wp2_with (go_at_call 40; refine (HCK.out _).mono ?_; rintro e w' ⟨rfl, rfl⟩)
     go_ret
     exact ⟨by rw [HV.out]; rfl, HBW.out⟩
   rw [decide_eq_false hn0] at HR
   have q0 : (n == 0) = false := by rw [beq_eq_false_iff_ne]; exact hn0
   have HV : Hid (r = false) := by show _ = _; rw [HR.out]; rfl
   clear HR
   go_wp2_with (go_at_call 40; refine (HCK.out _).mono ?_; rintro e w' ⟨rfl, rfl⟩)
   go_ret
   exact ⟨by rw [HV.out]; rfl, HBW.out⟩
  ·have hz : ¬ s.size = 0 := fun h => hs (nil_of h)
   obtain ⟨z1, z2⟩ := str_some hz
   clear hs hz hev
   -- number
   by_cases hn0 : n = 0
   ·rw [decide_eq_true hn0, Bool.true_and] at HR
    subst hn0
    by_cases hks : ks = []
    ·subst hks
     have HV : Hid (r = true) := by show _ = _; rw [HR.out]; rfl
     clear HR HST HKN
     go_wp2_with (go_at_call 40; refine (HCK.out _).mono ?_; rintro e w' ⟨rfl, rfl⟩)
     go_loopw [72] (fun i wr => i = .int .i64 0 ∧ w1 = wr) (fun _ _ => 0)
     case atStart => exact ⟨rfl, rfl⟩
     case round =>
      obtain ⟨rfl, rfl⟩ := hrel
      go_wp2_with fail
      go_ret
      exact ⟨by rw [HV.out]; rfl, HBW.out⟩
    ·have HV : Hid (r = false) := by
      show _ = _
      rw [HR.out]
      cases ks
      ·exact absurd rfl hks
      ·rfl
     have hpos : (0 : Int) < (ks.length : Int) := by
      have := List.length_pos_iff.2 hks
      omega
     clear HR HST HKN hks
     generalize ks.length = kn at *
     go_wp2_with (go_at_call 40; refine (HCK.out _).mono ?_; rintro e w' ⟨rfl, rfl⟩)
     go_ret
     exact ⟨by rw [HV.out]; rfl, HBW.out⟩
   rw [decide_eq_false hn0] at HR
   have q0 : (n == 0) = false := by rw [beq_eq_false_iff_ne]; exact hn0
   have HV : Hid (r = false) := by show _ = _; rw [HR.out]; rfl
   clear HR
   go_wp2_with (go_at_call 40; refine (HCK.out _).mono ?_; rintro e w' ⟨rfl, rfl⟩)
   go_ret
   exact ⟨by rw [HV.out]; rfl, HBW.out⟩
 ·rw [decide_eq_false hev] at HR HCK
  have hs : ¬ s = ⟨#[]⟩ := fun e => hev (by rw [e]; rfl)
  have hz : ¬ s.size = 0 := fun h => hs (nil_of h)
  obtain ⟨z1, z2⟩ := str_some hz
  clear hs hz hev
  have HV : Hid (r = false) := by show _ = _; rw [HR.out]; simp
  clear HR
  go_wp2_with (go_at_call 40; refine (HCK.out _).mono ?_; rintro e w' ⟨rfl, rfl⟩)
  go_ret
  exact ⟨by rw [HV.out]; rfl, HBW.out⟩
theorem own_9 (v : V) (x : X) (w : World) (h : Is w v x) (hb : v.bulk ≤ 4194304) (hk : v.k = 9) : Calls Tryz.prog 28 #[x.v] w fun e w' => e = .returned (.bool (fields (ctch3 v) v)) ∧ Below w.heap.size w w' := by
 have hsz := own_sizes v hb
 have HNM := Lib.hid fun w' (hb' : Below w.heap.size w w') => named_any v x w' (Is.below hb' _ _ h) hsz.1
 have HCK := Lib.hid fun w' => refCheck_any v.s w' (by unfold maxLen; omega)
 have HKN : Hid (∀ (j : Nat) (hj : j < v.ks.length) (w' : World), Calls Tryz.prog 41 #[.string v.ks[j]] w' fun e w'' => e = .returned (.bool (isNm v.ks[j])) ∧ Below w'.heap.size w' w'') := fun j hj w' => refName_any _ w' (by have := key_le v.ks j hj; omega)
 obtain ⟨xka, xkc, xla, xlc, rfl, -, -, h3, -⟩ := h.open
 have HST := Lib.hid h3
 have hkl : (v.ks.length : Int) ≤ 4194304 := by have := length_le_keysBulk v.ks; omega
 obtain ⟨W0, hW0, HB0, HF⟩ := box_new w v.k v.nm v.n v.s xka v.ks.length xkc xla v.l.length xlc
 have HW0 := Lib.hid hW0
 have hnum : numOk v = decide (v.n = 0) := by unfold numOk; rw [hk]; rfl
 have htx : txOk v = decide (v.s.size % 2 = 0) := by unfold txOk; rw [hk]; rfl
 have hns : nsOk v = v.ks.isEmpty := by unfold nsOk; rw [hk]; rfl
 obtain ⟨r, hr⟩ : ∃ r, fields (ctch3 v) v = r := ⟨_, rfl⟩
 rw [hr]
 have HR : Hid (r = (nmOk (ctch3 v) v && (decide (v.n = 0) && (decide (v.s.size % 2 = 0) && v.ks.isEmpty)))) := by
  show _ = _
  rw [← hr, ← hnum, ← htx, ← hns]
  rfl
 simp only [X.v] at HNM ⊢
 rw [hk] at HNM HF HW0 ⊢
 clear h h3 hb hsz hW0 hnum htx hns hr hk
 generalize nmOk (ctch3 v) v = bn at *
 generalize v.nm = nm, v.n = n, v.s = s, v.ks = ks, v.l.length = ln at *
 go_enter Tryz.func28, Tryz.ntmps28
 go_wp2_with fail
 rw [HW0.out]
 clear HW0
 refine (HNM.out _ HB0.out).mono ?_
 rintro e w1 ⟨rfl, hb1⟩
 have HB1 := Lib.hid hb1
 have HBW := Lib.hid (HB0.out.trans (hb1.mono HB0.out.size))
 clear hb1 HNM
 obtain ⟨c0, c1, c2, c3, c4, c5⟩ := (HF.out _ HB1.out).six
 cases bn
 ·have HV : Hid (r = false) := by show _ = _; rw [HR.out]; rfl
  clear HR
  go_wp2_with (go_at_call 40; refine (HCK.out _).mono ?_; rintro e w' ⟨rfl, rfl⟩)
  go_ret
  exact ⟨by rw [HV.out]; rfl, HBW.out⟩
 rw [Bool.true_and] at HR
 by_cases hev : s.size % 2 = 0
 ·rw [decide_eq_true hev] at HR HCK
  rw [Bool.true_and] at HR
  by_cases hs : s = ⟨#[]⟩
  ·subst hs
   -- number
   by_cases hn0 : n = 0
   ·rw [decide_eq_true hn0, Bool.true_and] at HR
    subst hn0
    by_cases hks : ks = []
    ·subst hks
     have HV : Hid (r = true) := by show _ = _; rw [HR.out]; rfl
     clear HR HST HKN
     go_wp2_with (go_at_call 40; refine (HCK.out _).mono ?_; rintro e w' ⟨rfl, rfl⟩)
     go_loopw [72] (fun i wr => i = .int .i64 0 ∧ w1 = wr) (fun _ _ => 0)
     case atStart => exact ⟨rfl, rfl⟩
     case round =>
      obtain ⟨rfl, rfl⟩ := hrel
      go_wp2_with fail
      go_ret
      exact ⟨by rw [HV.out]; rfl, HBW.out⟩
    ·have HV : Hid (r = false) := by
      show _ = _
      rw [HR.out]
      cases ks
      ·exact absurd rfl hks
      ·rfl
     have hpos : (0 : Int) < (ks.length : Int) := by
      have := List.length_pos_iff.2 hks
      omega
     clear HR HST HKN hks
     generalize ks.length = kn at *
     go_wp2_with (go_at_call 40; refine (HCK.out _).mono ?_; rintro e w' ⟨rfl, rfl⟩)
     go_ret
     exact ⟨by rw [HV.out]; rfl, HBW.out⟩
   rw [decide_eq_false hn0] at HR
   have q0 : (n == 0) = false := by rw [beq_eq_false_iff_ne]; exact hn0
   have HV : Hid (r = false) := by show _ = _; rw [HR.out]; rfl
   clear HR
   go_wp2_with (go_at_call 40; refine (HCK.out _).mono ?_; rintro e w' ⟨rfl, rfl⟩)
   go_ret
   exact ⟨by rw [HV.out]; rfl, HBW.out⟩
  ·have hz : ¬ s.size = 0 := fun h => hs (nil_of h)
   obtain ⟨z1, z2⟩ := str_some hz
   clear hs hz hev
   -- number
   by_cases hn0 : n = 0
   ·rw [decide_eq_true hn0, Bool.true_and] at HR
    subst hn0
    by_cases hks : ks = []
    ·subst hks
     have HV : Hid (r = true) := by show _ = _; rw [HR.out]; rfl
     clear HR HST HKN
     go_wp2_with (go_at_call 40; refine (HCK.out _).mono ?_; rintro e w' ⟨rfl, rfl⟩)
     go_loopw [72] (fun i wr => i = .int .i64 0 ∧ w1 = wr) (fun _ _ => 0)
     case atStart => exact ⟨rfl, rfl⟩
     case round =>
      obtain ⟨rfl, rfl⟩ := hrel
      go_wp2_with fail
      go_ret
      exact ⟨by rw [HV.out]; rfl, HBW.out⟩
    ·have HV : Hid (r = false) := by
      show _ = _
      rw [HR.out]
      cases ks
      ·exact absurd rfl hks
      ·rfl
     have hpos : (0 : Int) < (ks.length : Int) := by
      have := List.length_pos_iff.2 hks
      omega
     clear HR HST HKN hks
     generalize ks.length = kn at *
     go_wp2_with (go_at_call 40; refine (HCK.out _).mono ?_; rintro e w' ⟨rfl, rfl⟩)
     go_ret
     exact ⟨by rw [HV.out]; rfl, HBW.out⟩
   rw [decide_eq_false hn0] at HR
   have q0 : (n == 0) = false := by rw [beq_eq_false_iff_ne]; exact hn0
   have HV : Hid (r = false) := by show _ = _; rw [HR.out]; rfl
   clear HR
   go_wp2_with (go_at_call 40; refine (HCK.out _).mono ?_; rintro e w' ⟨rfl, rfl⟩)
   go_ret
   exact ⟨by rw [HV.out]; rfl, HBW.out⟩
 ·rw [decide_eq_false hev] at HR HCK
  have hs : ¬ s = ⟨#[]⟩ := fun e => hev (by rw [e]; rfl)
  have hz : ¬ s.size = 0 := fun h => hs (nil_of h)
  obtain ⟨z1, z2⟩ := str_some hz
  clear hs hz hev
  have HV : Hid (r = false) := by show _ = _; rw [HR.out]; simp
  clear HR
  go_wp2_with (go_at_call 40; refine (HCK.out _).mono ?_; rintro e w' ⟨rfl, rfl⟩)
  go_ret
  exact ⟨by rw [HV.out]; rfl, HBW.out⟩
theorem own_10 (v : V) (x : X) (w : World) (h : Is w v x) (hb : v.bulk ≤ 4194304) (hk : v.k = 10) : Calls Tryz.prog 28 #[x.v] w fun e w' => e = .returned (.bool (fields (ctch3 v) v)) ∧ Below w.heap.size w w' := by
 have hsz := own_sizes v hb
 have HNM := Lib.hid fun w' (hb' : Below w.heap.size w w') => named_any v x w' (Is.below hb' _ _ h) hsz.1
 have HCK := Lib.hid fun w' => refCheck_any v.s w' (by unfold maxLen; omega)
 have HKN : Hid (∀ (j : Nat) (hj : j < v.ks.length) (w' : World), Calls Tryz.prog 41 #[.string v.ks[j]] w' fun e w'' => e = .returned (.bool (isNm v.ks[j])) ∧ Below w'.heap.size w' w'') := fun j hj w' => refName_any _ w' (by have := key_le v.ks j hj; omega)
 obtain ⟨xka, xkc, xla, xlc, rfl, -, -, h3, -⟩ := h.open
 have HST := Lib.hid h3
 have hkl : (v.ks.length : Int) ≤ 4194304 := by have := length_le_keysBulk v.ks; omega
 obtain ⟨W0, hW0, HB0, HF⟩ := box_new w v.k v.nm v.n v.s xka v.ks.length xkc xla v.l.length xlc
 have HW0 := Lib.hid hW0
 have hnum : numOk v = decide (v.n = 0) := by unfold numOk; rw [hk]; rfl
 have htx : txOk v = decide (v.s.size = 0) := by unfold txOk; rw [hk]; rfl
 have hns : nsOk v = v.ks.all isNm := by unfold nsOk; rw [hk]; rfl
 obtain ⟨r, hr⟩ : ∃ r, fields (ctch3 v) v = r := ⟨_, rfl⟩
 rw [hr]
 have HR : Hid (r = (nmOk (ctch3 v) v && (decide (v.n = 0) && (decide (v.s.size = 0) && v.ks.all isNm)))) := by
  show _ = _
  rw [← hr, ← hnum, ← htx, ← hns]
  rfl
 simp only [X.v] at HNM ⊢
 rw [hk] at HNM HF HW0 ⊢
 clear h h3 hb hsz hW0 hnum htx hns hr hk
 generalize nmOk (ctch3 v) v = bn at *
 generalize v.nm = nm, v.n = n, v.s = s, v.ks = ks, v.l.length = ln at *
 go_enter Tryz.func28, Tryz.ntmps28
 go_wp2_with fail
 rw [HW0.out]
 clear HW0
 refine (HNM.out _ HB0.out).mono ?_
 rintro e w1 ⟨rfl, hb1⟩
 have HB1 := Lib.hid hb1
 have HBW := Lib.hid (HB0.out.trans (hb1.mono HB0.out.size))
 clear hb1 HNM
 obtain ⟨c0, c1, c2, c3, c4, c5⟩ := (HF.out _ HB1.out).six
 cases bn
 ·have HV : Hid (r = false) := by show _ = _; rw [HR.out]; rfl
  clear HR
  go_wp2_with (go_at_call 40; refine (HCK.out _).mono ?_; rintro e w' ⟨rfl, rfl⟩)
  go_ret
  exact ⟨by rw [HV.out]; rfl, HBW.out⟩
 rw [Bool.true_and] at HR
 by_cases hs : s = ⟨#[]⟩
 ·subst hs
  rw [decide_eq_true (show (⟨#[]⟩ : ByteArray).size = 0 from rfl), Bool.true_and] at HR
  rw [decide_eq_true (show (⟨#[]⟩ : ByteArray).size % 2 = 0 from rfl)] at HCK
  -- number
  by_cases hn0 : n = 0
  ·rw [decide_eq_true hn0, Bool.true_and] at HR
   subst hn0
   by_cases hks : ks = []
   ·subst hks
    have HV : Hid (r = true) := by show _ = _; rw [HR.out]; rfl
    clear HR HST HKN
    go_wp2_with (go_at_call 40; refine (HCK.out _).mono ?_; rintro e w' ⟨rfl, rfl⟩)
    go_loopw [72] (fun i wr => i = .int .i64 0 ∧ w1 = wr) (fun _ _ => 0)
    case atStart => exact ⟨rfl, rfl⟩
    case round =>
     obtain ⟨rfl, rfl⟩ := hrel
     go_wp2_with fail
     go_ret
     exact ⟨by rw [HV.out]; rfl, HBW.out⟩
   have hpos : (0 : Int) < (ks.length : Int) := by
    have := List.length_pos_iff.2 hks
    omega
   clear hks
   go_wp2_with (go_at_call 40; refine (HCK.out _).mono ?_; rintro e w' ⟨rfl, rfl⟩)
   go_loopw [72] (fun i wr => ∃ j : Nat, j ≤ ks.length ∧ i = .int .i64 j ∧ Hid (∀ i, (h : i < ks.length) → i < j → isNm ks[i] = true) ∧ Hid (Below w1.heap.size w1 wr))
    (fun i _ => ks.length - (intOf i).toNat)
   case atStart => exact ⟨0, Nat.zero_le _, rfl, Lib.hid fun i _ h => absurd h (Nat.not_lt_zero _), Lib.hid (Below.refl _ _)⟩
   case round =>
    obtain ⟨j, hj, rfl, hno, hbr⟩ := hrel
    by_cases hlt : j < ks.length
    ·obtain ⟨g, o, rfl, hg, hc⟩ := HST.out.at_ hlt
     have hbw := HBW.out.trans (hbr.out.mono HBW.out.size)
     have d0 := (hbw.cell (p := ⟨g, o + j, none⟩) hg).trans hc
     have HN := Lib.hid (HKN.out j hlt)
     have HBR := Lib.hid hbw
     have hj0 : (0 : Int) ≤ (j : Int) := by omega
     have hj1 : (j : Int) < (ks.length : Int) := by omega
     have HNF : Hid (isNm ks[j] = false → r = false) := fun e => by
      rw [HR.out, Bool.eq_false_iff]
      intro h
      rw [List.all_eq_true.1 h _ (List.getElem_mem hlt)] at e
      cases e
     have HNT : Hid (isNm ks[j] = true → ∀ i, (h : i < ks.length) → i < j + 1 → isNm ks[i] = true) := fun e i h hi => by
      rcases Nat.lt_succ_iff_lt_or_eq.1 hi with hi | rfl
      ·exact hno.out i h hi
      ·exact e
     clear hc hg hbw hno c0 c1 c2 c3 c4 c5
     generalize ks[j] = u at *
     generalize isNm u = q at *
     cases q
     ·have HV := Lib.hid (HNF.out rfl)
      clear HNF HNT
      go_wp2_with fail
      refine (HN.out _).mono ?_
      rintro e w2 ⟨rfl, hb2⟩
      have HB2 := Lib.hid (HBR.out.trans (hb2.mono HBR.out.size))
      clear hb2
      go_wp2_with fail
      go_ret
      exact ⟨by rw [HV.out]; rfl, HB2.out⟩
     ·have HT := Lib.hid (HNT.out rfl)
      clear HNF HNT
      go_wp2_with fail
      refine (HN.out _).mono ?_
      rintro e w2 ⟨rfl, hb2⟩
      have HB2 := Lib.hid (hbr.out.trans (hb2.mono hbr.out.size))
      clear hb2
      go_wp2_with fail
      go_roundw
      case rel => exact ⟨j + 1, by omega, by go_num, HT, HB2⟩
      case measure => simp [intOf]; omega
    ·obtain rfl : j = ks.length := by omega
     have HV : Hid (r = true) := by
      show _ = _
      rw [HR.out, List.all_eq_true]
      intro u hu
      obtain ⟨i, hi, rfl⟩ := List.getElem_of_mem hu
      exact hno.out i hi hi
     have HBR := Lib.hid (HBW.out.trans (hbr.out.mono HBW.out.size))
     clear hno c0 c1 c2 c3 c4 c5
     go_wp2_with fail
     go_ret
     exact ⟨by rw [HV.out]; rfl, HBR.out⟩
  rw [decide_eq_false hn0] at HR
  have q0 : (n == 0) = false := by rw [beq_eq_false_iff_ne]; exact hn0
  have HV : Hid (r = false) := by show _ = _; rw [HR.out]; rfl
  clear HR
  go_wp2_with (go_at_call 40; refine (HCK.out _).mono ?_; rintro e w' ⟨rfl, rfl⟩)
  go_ret
  exact ⟨by rw [HV.out]; rfl, HBW.out⟩
 ·have hz : ¬ s.size = 0 := fun h => hs (nil_of h)
  obtain ⟨z1, z2⟩ := str_some hz
  rw [decide_eq_false hz] at HR
  clear hs hz
  have HV : Hid (r = false) := by show _ = _; rw [HR.out]; simp
  clear HR
  go_wp2_with (go_at_call 40; refine (HCK.out _).mono ?_; rintro e w' ⟨rfl, rfl⟩)
  go_ret
  exact ⟨by rw [HV.out]; rfl, HBW.out⟩
theorem own_39 (v : V) (x : X) (w : World) (h : Is w v x) (hb : v.bulk ≤ 4194304) (hk : v.k = 39) : Calls Tryz.prog 28 #[x.v] w fun e w' => e = .returned (.bool (fields (ctch3 v) v)) ∧ Below w.heap.size w w' := by
 have hsz := own_sizes v hb
 have HNM := Lib.hid fun w' (hb' : Below w.heap.size w w') => named_any v x w' (Is.below hb' _ _ h) hsz.1
 have HCK := Lib.hid fun w' => refCheck_any v.s w' (by unfold maxLen; omega)
 have HKN : Hid (∀ (j : Nat) (hj : j < v.ks.length) (w' : World), Calls Tryz.prog 41 #[.string v.ks[j]] w' fun e w'' => e = .returned (.bool (isNm v.ks[j])) ∧ Below w'.heap.size w' w'') := fun j hj w' => refName_any _ w' (by have := key_le v.ks j hj; omega)
 obtain ⟨xka, xkc, xla, xlc, rfl, -, -, h3, -⟩ := h.open
 have HST := Lib.hid h3
 have hkl : (v.ks.length : Int) ≤ 4194304 := by have := length_le_keysBulk v.ks; omega
 obtain ⟨W0, hW0, HB0, HF⟩ := box_new w v.k v.nm v.n v.s xka v.ks.length xkc xla v.l.length xlc
 have HW0 := Lib.hid hW0
 have hnum : numOk v = decide (v.n = 0) := by unfold numOk; rw [hk]; rfl
 have htx : txOk v = decide (v.s.size = 0) := by unfold txOk; rw [hk]; rfl
 have hns : nsOk v = v.ks.all isNm := by unfold nsOk; rw [hk]; rfl
 obtain ⟨r, hr⟩ : ∃ r, fields (ctch3 v) v = r := ⟨_, rfl⟩
 rw [hr]
 have HR : Hid (r = (nmOk (ctch3 v) v && (decide (v.n = 0) && (decide (v.s.size = 0) && v.ks.all isNm)))) := by
  show _ = _
  rw [← hr, ← hnum, ← htx, ← hns]
  rfl
 simp only [X.v] at HNM ⊢
 rw [hk] at HNM HF HW0 ⊢
 clear h h3 hb hsz hW0 hnum htx hns hr hk
 generalize nmOk (ctch3 v) v = bn at *
 generalize v.nm = nm, v.n = n, v.s = s, v.ks = ks, v.l.length = ln at *
 go_enter Tryz.func28, Tryz.ntmps28
 go_wp2_with fail
 rw [HW0.out]
 clear HW0
 refine (HNM.out _ HB0.out).mono ?_
 rintro e w1 ⟨rfl, hb1⟩
 have HB1 := Lib.hid hb1
 have HBW := Lib.hid (HB0.out.trans (hb1.mono HB0.out.size))
 clear hb1 HNM
 obtain ⟨c0, c1, c2, c3, c4, c5⟩ := (HF.out _ HB1.out).six
 cases bn
 ·have HV : Hid (r = false) := by show _ = _; rw [HR.out]; rfl
  clear HR
  go_wp2_with (go_at_call 40; refine (HCK.out _).mono ?_; rintro e w' ⟨rfl, rfl⟩)
  go_ret
  exact ⟨by rw [HV.out]; rfl, HBW.out⟩
 rw [Bool.true_and] at HR
 by_cases hs : s = ⟨#[]⟩
 ·subst hs
  rw [decide_eq_true (show (⟨#[]⟩ : ByteArray).size = 0 from rfl), Bool.true_and] at HR
  rw [decide_eq_true (show (⟨#[]⟩ : ByteArray).size % 2 = 0 from rfl)] at HCK
  -- number
  by_cases hn0 : n = 0
  ·rw [decide_eq_true hn0, Bool.true_and] at HR
   subst hn0
   by_cases hks : ks = []
   ·subst hks
    have HV : Hid (r = true) := by show _ = _; rw [HR.out]; rfl
    clear HR HST HKN
    go_wp2_with (go_at_call 40; refine (HCK.out _).mono ?_; rintro e w' ⟨rfl, rfl⟩)
    go_loopw [72] (fun i wr => i = .int .i64 0 ∧ w1 = wr) (fun _ _ => 0)
    case atStart => exact ⟨rfl, rfl⟩
    case round =>
     obtain ⟨rfl, rfl⟩ := hrel
     go_wp2_with fail
     go_ret
     exact ⟨by rw [HV.out]; rfl, HBW.out⟩
   have hpos : (0 : Int) < (ks.length : Int) := by
    have := List.length_pos_iff.2 hks
    omega
   clear hks
   go_wp2_with (go_at_call 40; refine (HCK.out _).mono ?_; rintro e w' ⟨rfl, rfl⟩)
   go_loopw [72] (fun i wr => ∃ j : Nat, j ≤ ks.length ∧ i = .int .i64 j ∧ Hid (∀ i, (h : i < ks.length) → i < j → isNm ks[i] = true) ∧ Hid (Below w1.heap.size w1 wr))
    (fun i _ => ks.length - (intOf i).toNat)
   case atStart => exact ⟨0, Nat.zero_le _, rfl, Lib.hid fun i _ h => absurd h (Nat.not_lt_zero _), Lib.hid (Below.refl _ _)⟩
   case round =>
    obtain ⟨j, hj, rfl, hno, hbr⟩ := hrel
    by_cases hlt : j < ks.length
    ·obtain ⟨g, o, rfl, hg, hc⟩ := HST.out.at_ hlt
     have hbw := HBW.out.trans (hbr.out.mono HBW.out.size)
     have d0 := (hbw.cell (p := ⟨g, o + j, none⟩) hg).trans hc
     have HN := Lib.hid (HKN.out j hlt)
     have HBR := Lib.hid hbw
     have hj0 : (0 : Int) ≤ (j : Int) := by omega
     have hj1 : (j : Int) < (ks.length : Int) := by omega
     have HNF : Hid (isNm ks[j] = false → r = false) := fun e => by
      rw [HR.out, Bool.eq_false_iff]
      intro h
      rw [List.all_eq_true.1 h _ (List.getElem_mem hlt)] at e
      cases e
     have HNT : Hid (isNm ks[j] = true → ∀ i, (h : i < ks.length) → i < j + 1 → isNm ks[i] = true) := fun e i h hi => by
      rcases Nat.lt_succ_iff_lt_or_eq.1 hi with hi | rfl
      ·exact hno.out i h hi
      ·exact e
     clear hc hg hbw hno c0 c1 c2 c3 c4 c5
     generalize ks[j] = u at *
     generalize isNm u = q at *
     cases q
     ·have HV := Lib.hid (HNF.out rfl)
      clear HNF HNT
      go_wp2_with fail
      refine (HN.out _).mono ?_
      rintro e w2 ⟨rfl, hb2⟩
      have HB2 := Lib.hid (HBR.out.trans (hb2.mono HBR.out.size))
      clear hb2
      go_wp2_with fail
      go_ret
      exact ⟨by rw [HV.out]; rfl, HB2.out⟩
     ·have HT := Lib.hid (HNT.out rfl)
      clear HNF HNT
      go_wp2_with fail
      refine (HN.out _).mono ?_
      rintro e w2 ⟨rfl, hb2⟩
      have HB2 := Lib.hid (hbr.out.trans (hb2.mono hbr.out.size))
      clear hb2
      go_wp2_with fail
      go_roundw
      case rel => exact ⟨j + 1, by omega, by go_num, HT, HB2⟩
      case measure => simp [intOf]; omega
    ·obtain rfl : j = ks.length := by omega
     have HV : Hid (r = true) := by
      show _ = _
      rw [HR.out, List.all_eq_true]
      intro u hu
      obtain ⟨i, hi, rfl⟩ := List.getElem_of_mem hu
      exact hno.out i hi hi
     have HBR := Lib.hid (HBW.out.trans (hbr.out.mono HBW.out.size))
     clear hno c0 c1 c2 c3 c4 c5
     go_wp2_with fail
     go_ret
     exact ⟨by rw [HV.out]; rfl, HBR.out⟩
  rw [decide_eq_false hn0] at HR
  have q0 : (n == 0) = false := by rw [beq_eq_false_iff_ne]; exact hn0
  have HV : Hid (r = false) := by show _ = _; rw [HR.out]; rfl
  clear HR
  go_wp2_with (go_at_call 40; refine (HCK.out _).mono ?_; rintro e w' ⟨rfl, rfl⟩)
  go_ret
  exact ⟨by rw [HV.out]; rfl, HBW.out⟩
 ·have hz : ¬ s.size = 0 := fun h => hs (nil_of h)
  obtain ⟨z1, z2⟩ := str_some hz
  rw [decide_eq_false hz] at HR
  clear hs hz
  have HV : Hid (r = false) := by show _ = _; rw [HR.out]; simp
  clear HR
  go_wp2_with (go_at_call 40; refine (HCK.out _).mono ?_; rintro e w' ⟨rfl, rfl⟩)
  go_ret
  exact ⟨by rw [HV.out]; rfl, HBW.out⟩
theorem own_else (v : V) (x : X) (w : World) (h : Is w v x) (hb : v.bulk ≤ 4194304) (g1 : ¬ v.k = 1) (g6 : ¬ v.k = 6) (g16 : ¬ v.k = 16) (g2 : ¬ v.k = 2) (g9 : ¬ v.k = 9) (g10 : ¬ v.k = 10) (g39 : ¬ v.k = 39) : Calls Tryz.prog 28 #[x.v] w fun e w' => e = .returned (.bool (fields (ctch3 v) v)) ∧ Below w.heap.size w w' := by
 have hsz := own_sizes v hb
 have HNM := Lib.hid fun w' (hb' : Below w.heap.size w w') => named_any v x w' (Is.below hb' _ _ h) hsz.1
 have HCK := Lib.hid fun w' => refCheck_any v.s w' (by unfold maxLen; omega)
 have HKN : Hid (∀ (j : Nat) (hj : j < v.ks.length) (w' : World), Calls Tryz.prog 41 #[.string v.ks[j]] w' fun e w'' => e = .returned (.bool (isNm v.ks[j])) ∧ Below w'.heap.size w' w'') := fun j hj w' => refName_any _ w' (by have := key_le v.ks j hj; omega)
 obtain ⟨xka, xkc, xla, xlc, rfl, -, -, h3, -⟩ := h.open
 have HST := Lib.hid h3
 have hkl : (v.ks.length : Int) ≤ 4194304 := by have := length_le_keysBulk v.ks; omega
 obtain ⟨W0, hW0, HB0, HF⟩ := box_new w v.k v.nm v.n v.s xka v.ks.length xkc xla v.l.length xlc
 have HW0 := Lib.hid hW0
 have hnum : numOk v = decide (v.n = 0) := by unfold numOk; rw [if_neg (by omega), if_neg (by omega)]
 have htx : txOk v = decide (v.s.size = 0) := by unfold txOk; rw [if_neg (by omega)]
 have hns : nsOk v = v.ks.isEmpty := by unfold nsOk; rw [if_neg (by omega)]
 obtain ⟨r, hr⟩ : ∃ r, fields (ctch3 v) v = r := ⟨_, rfl⟩
 rw [hr]
 have HR : Hid (r = (nmOk (ctch3 v) v && (decide (v.n = 0) && (decide (v.s.size = 0) && v.ks.isEmpty)))) := by
  show _ = _
  rw [← hr, ← hnum, ← htx, ← hns]
  rfl
 simp only [X.v] at HNM ⊢
 clear h h3 hb hsz hW0 hnum htx hns hr
 generalize nmOk (ctch3 v) v = bn at *
 generalize v.nm = nm, v.n = n, v.s = s, v.k = k at *
 have b1 : (k == 1) = false := by rw [beq_eq_false_iff_ne]; exact g1
 have b6 : (k == 6) = false := by rw [beq_eq_false_iff_ne]; exact g6
 have b16 : (k == 16) = false := by rw [beq_eq_false_iff_ne]; exact g16
 have b2 : (k == 2) = false := by rw [beq_eq_false_iff_ne]; exact g2
 have b9 : (k == 9) = false := by rw [beq_eq_false_iff_ne]; exact g9
 have b10 : (k == 10) = false := by rw [beq_eq_false_iff_ne]; exact g10
 have b39 : (k == 39) = false := by rw [beq_eq_false_iff_ne]; exact g39
 have p2 : (k != 2) = true := bne_iff_ne.2 g2
 have p9 : (k != 9) = true := bne_iff_ne.2 g9
 have p10 : (k != 10) = true := bne_iff_ne.2 g10
 have p39 : (k != 39) = true := bne_iff_ne.2 g39
 generalize v.ks = ks, v.l.length = ln at *
 go_enter Tryz.func28, Tryz.ntmps28
 go_wp2_with fail
 rw [HW0.out]
 clear HW0
 refine (HNM.out _ HB0.out).mono ?_
 rintro e w1 ⟨rfl, hb1⟩
 have HB1 := Lib.hid hb1
 have HBW := Lib.hid (HB0.out.trans (hb1.mono HB0.out.size))
 clear hb1 HNM
 obtain ⟨c0, c1, c2, c3, c4, c5⟩ := (HF.out _ HB1.out).six
 cases bn
 ·have HV : Hid (r = false) := by show _ = _; rw [HR.out]; rfl
  clear HR
  go_wp2_with (go_at_call 40; refine (HCK.out _).mono ?_; rintro e w' ⟨rfl, rfl⟩)
  go_ret
  exact ⟨by rw [HV.out]; rfl, HBW.out⟩
 rw [Bool.true_and] at HR
 by_cases hs : s = ⟨#[]⟩
 ·subst hs
  rw [decide_eq_true (show (⟨#[]⟩ : ByteArray).size = 0 from rfl), Bool.true_and] at HR
  rw [decide_eq_true (show (⟨#[]⟩ : ByteArray).size % 2 = 0 from rfl)] at HCK
  -- number
  by_cases hn0 : n = 0
  ·rw [decide_eq_true hn0, Bool.true_and] at HR
   subst hn0
   by_cases hks : ks = []
   ·subst hks
    have HV : Hid (r = true) := by show _ = _; rw [HR.out]; rfl
    clear HR HST HKN
    go_wp2_with (go_at_call 40; refine (HCK.out _).mono ?_; rintro e w' ⟨rfl, rfl⟩)
    go_loopw [72] (fun i wr => i = .int .i64 0 ∧ w1 = wr) (fun _ _ => 0)
    case atStart => exact ⟨rfl, rfl⟩
    case round =>
     obtain ⟨rfl, rfl⟩ := hrel
     go_wp2_with fail
     go_ret
     exact ⟨by rw [HV.out]; rfl, HBW.out⟩
   ·have HV : Hid (r = false) := by
     show _ = _
     rw [HR.out]
     cases ks
     ·exact absurd rfl hks
     ·rfl
    have hpos : (0 : Int) < (ks.length : Int) := by
     have := List.length_pos_iff.2 hks
     omega
    clear HR HST HKN hks
    generalize ks.length = kn at *
    go_wp2_with (go_at_call 40; refine (HCK.out _).mono ?_; rintro e w' ⟨rfl, rfl⟩)
    go_ret
    exact ⟨by rw [HV.out]; rfl, HBW.out⟩
  rw [decide_eq_false hn0] at HR
  have q0 : (n == 0) = false := by rw [beq_eq_false_iff_ne]; exact hn0
  have HV : Hid (r = false) := by show _ = _; rw [HR.out]; rfl
  clear HR
  go_wp2_with (go_at_call 40; refine (HCK.out _).mono ?_; rintro e w' ⟨rfl, rfl⟩)
  go_ret
  exact ⟨by rw [HV.out]; rfl, HBW.out⟩
 ·have hz : ¬ s.size = 0 := fun h => hs (nil_of h)
  obtain ⟨z1, z2⟩ := str_some hz
  rw [decide_eq_false hz] at HR
  clear hs hz
  have HV : Hid (r = false) := by show _ = _; rw [HR.out]; simp
  clear HR
  go_wp2_with (go_at_call 40; refine (HCK.out _).mono ?_; rintro e w' ⟨rfl, rfl⟩)
  go_ret
  exact ⟨by rw [HV.out]; rfl, HBW.out⟩
theorem own_any (v : V) (x : X) (w : World) (h : Is w v x) (hb : v.bulk ≤ 4194304) : Calls Tryz.prog 28 #[x.v] w fun e w' => e = .returned (.bool (fields (ctch3 v) v)) ∧ Below w.heap.size w w' := by
 by_cases g1 : v.k = 1
 ·exact own_1 v x w h hb g1
 by_cases g6 : v.k = 6
 ·exact own_6 v x w h hb g6
 by_cases g16 : v.k = 16
 ·exact own_16 v x w h hb g16
 by_cases g2 : v.k = 2
 ·exact own_2 v x w h hb g2
 by_cases g9 : v.k = 9
 ·exact own_9 v x w h hb g9
 by_cases g10 : v.k = 10
 ·exact own_10 v x w h hb g10
 by_cases g39 : v.k = 39
 ·exact own_39 v x w h hb g39
 exact own_else v x w h hb g1 g6 g16 g2 g9 g10 g39
end Go.Proofs.YtllpgoaanbiodaaGreatDoor.R
