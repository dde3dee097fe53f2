/-

-/
import Derived.Test.YtllpgoaanbiodaaGreatDoorMVo
import Derived.Test.YtllpgoaanbiodaaGreatDoorMKd
set_option maxHeartbeats 4000000
set_option maxRecDepth 20000
namespace Go.Proofs.YtllpgoaanbiodaaGreatDoor.R
open Go.RowKit Go.Proofs.YtllpgoaanbiodaaGreatDoor Go.Proofs.YtllpgoaanbiodaaGreatDoor.T
open Lib (hid)
theorem owA {v : V} {x : X} {w : World} (h : Is w v x) (hb : v.bulk ≤ 4194304) : Hid (∀ w', Below w.heap.size w w' → Calls Tryz.prog 28 #[x.v] w' fun e w'' => e = .returned (.bool (fields (ctch3 v) v)) ∧ Below w'.heap.size w' w'') := hid fun w' (hb' : Below w.heap.size w w') => own_any v x w' (Is.below hb' _ _ h) hb
theorem llA (v : V) (hb : v.bulk ≤ 4194304) : (v.l.length : Int) ≤ 4194304 := by have := length_le_bulks v.l; have := bulk_ge v; omega
theorem boxA (w : World) (v : V) (a : Option Addr) (b : Nat) (c : Option Addr) (d : Nat) : type_of% (box_new w v.k v.nm v.n v.s a v.ks.length b c v.l.length d) := box_new _ _ _ _ _ _ _ _ _ _ _
theorem rst_22 (v : V) (hb : v.bulk ≤ 4194304) (hk : v.k = 22) (d : Bool) (H : Tells 73 v d) : Tells 42 v (fields (ctch3 v) v && d) := by
 intro x w h
 have HO := owA h hb
 have hll := llA v hb
 have HT := hid fun w' (hb' : Below w.heap.size w w') => H x w' (Is.below hb' _ _ h)
 obtain ⟨xka, xkc, xla, xlc, rfl, -, -, -, hrow⟩ := h.open
 obtain ⟨W0, hW0, HB0, HF⟩ := boxA w v xka xkc xla xlc
 have HW0 := hid hW0
 simp only [X.v] at HO HT ⊢
 rw [hk] at HO HF HW0 HT ⊢
 clear h hb hW0 hk hrow H
 generalize fields (ctch3 v) v = bo at *
 generalize v.nm = nm, v.n = n, v.s = s, v.ks.length = kn, v.l.length = ln at *
 go_enter Tryz.func42, Tryz.ntmps42
 go_wp2_with fail
 rw [HW0.out]
 clear HW0
 refine (HO.out _ HB0.out).mono ?_
 rintro e w1 ⟨rfl, hb1⟩
 obtain ⟨d0, d1, d2, d3, d4, d5⟩ := (HF.out _ hb1).six
 have HB1 := hid (HB0.out.trans (hb1.mono HB0.out.size))
 clear hb1
 cases bo
 ·go_wp2_with fail
  go_ret
  exact ⟨rfl, HB1.out⟩
 go_wp2_with fail
 clear d0 d1 d2 d3 d4 d5
 refine (HT.out _ HB1.out).mono ?_
 rintro e w2 ⟨rfl, hb2⟩
 have HB2 := hid (HB1.out.trans (hb2.mono HB1.out.size))
 clear hb2
 go_wp2_with fail
 go_ret
 exact ⟨rfl, HB2.out⟩
theorem rst_25 (v : V) (hb : v.bulk ≤ 4194304) (hk : v.k = 25) (d : Bool) (H : Tells 75 v d) : Tells 42 v (fields (ctch3 v) v && d) := by
 intro x w h
 have HO := owA h hb
 have hll := llA v hb
 have HT := hid fun w' (hb' : Below w.heap.size w w') => H x w' (Is.below hb' _ _ h)
 obtain ⟨xka, xkc, xla, xlc, rfl, -, -, -, hrow⟩ := h.open
 obtain ⟨W0, hW0, HB0, HF⟩ := boxA w v xka xkc xla xlc
 have HW0 := hid hW0
 simp only [X.v] at HO HT ⊢
 rw [hk] at HO HF HW0 HT ⊢
 clear h hb hW0 hk hrow H
 generalize fields (ctch3 v) v = bo at *
 generalize v.nm = nm, v.n = n, v.s = s, v.ks.length = kn, v.l.length = ln at *
 go_enter Tryz.func42, Tryz.ntmps42
 go_wp2_with fail
 rw [HW0.out]
 clear HW0
 refine (HO.out _ HB0.out).mono ?_
 rintro e w1 ⟨rfl, hb1⟩
 obtain ⟨d0, d1, d2, d3, d4, d5⟩ := (HF.out _ hb1).six
 have HB1 := hid (HB0.out.trans (hb1.mono HB0.out.size))
 clear hb1
 cases bo
 ·go_wp2_with fail
  go_ret
  exact ⟨rfl, HB1.out⟩
 go_wp2_with fail
 clear d0 d1 d2 d3 d4 d5
 refine (HT.out _ HB1.out).mono ?_
 rintro e w2 ⟨rfl, hb2⟩
 have HB2 := hid (HB1.out.trans (hb2.mono HB1.out.size))
 clear hb2
 go_wp2_with fail
 go_ret
 exact ⟨rfl, HB2.out⟩
theorem rst_27 (v : V) (hb : v.bulk ≤ 4194304) (hk : v.k = 27) (d : Bool) (H : Tells 76 v d) : Tells 42 v (fields (ctch3 v) v && d) := by
 intro x w h
 have HO := owA h hb
 have hll := llA v hb
 have HT := hid fun w' (hb' : Below w.heap.size w w') => H x w' (Is.below hb' _ _ h)
 obtain ⟨xka, xkc, xla, xlc, rfl, -, -, -, hrow⟩ := h.open
 obtain ⟨W0, hW0, HB0, HF⟩ := boxA w v xka xkc xla xlc
 have HW0 := hid hW0
 simp only [X.v] at HO HT ⊢
 rw [hk] at HO HF HW0 HT ⊢
 clear h hb hW0 hk hrow H
 generalize fields (ctch3 v) v = bo at *
 generalize v.nm = nm, v.n = n, v.s = s, v.ks.length = kn, v.l.length = ln at *
 go_enter Tryz.func42, Tryz.ntmps42
 go_wp2_with fail
 rw [HW0.out]
 clear HW0
 refine (HO.out _ HB0.out).mono ?_
 rintro e w1 ⟨rfl, hb1⟩
 obtain ⟨d0, d1, d2, d3, d4, d5⟩ := (HF.out _ hb1).six
 have HB1 := hid (HB0.out.trans (hb1.mono HB0.out.size))
 clear hb1
 cases bo
 ·go_wp2_with fail
  go_ret
  exact ⟨rfl, HB1.out⟩
 go_wp2_with fail
 clear d0 d1 d2 d3 d4 d5
 refine (HT.out _ HB1.out).mono ?_
 rintro e w2 ⟨rfl, hb2⟩
 have HB2 := hid (HB1.out.trans (hb2.mono HB1.out.size))
 clear hb2
 go_wp2_with fail
 go_ret
 exact ⟨rfl, HB2.out⟩
theorem rst_28 (v : V) (hb : v.bulk ≤ 4194304) (hk : v.k = 28) (d : Bool) (H : Tells 76 v d) : Tells 42 v (fields (ctch3 v) v && d) := by
 intro x w h
 have HO := owA h hb
 have hll := llA v hb
 have HT := hid fun w' (hb' : Below w.heap.size w w') => H x w' (Is.below hb' _ _ h)
 obtain ⟨xka, xkc, xla, xlc, rfl, -, -, -, hrow⟩ := h.open
 obtain ⟨W0, hW0, HB0, HF⟩ := boxA w v xka xkc xla xlc
 have HW0 := hid hW0
 simp only [X.v] at HO HT ⊢
 rw [hk] at HO HF HW0 HT ⊢
 clear h hb hW0 hk hrow H
 generalize fields (ctch3 v) v = bo at *
 generalize v.nm = nm, v.n = n, v.s = s, v.ks.length = kn, v.l.length = ln at *
 go_enter Tryz.func42, Tryz.ntmps42
 go_wp2_with fail
 rw [HW0.out]
 clear HW0
 refine (HO.out _ HB0.out).mono ?_
 rintro e w1 ⟨rfl, hb1⟩
 obtain ⟨d0, d1, d2, d3, d4, d5⟩ := (HF.out _ hb1).six
 have HB1 := hid (HB0.out.trans (hb1.mono HB0.out.size))
 clear hb1
 cases bo
 ·go_wp2_with fail
  go_ret
  exact ⟨rfl, HB1.out⟩
 go_wp2_with fail
 clear d0 d1 d2 d3 d4 d5
 refine (HT.out _ HB1.out).mono ?_
 rintro e w2 ⟨rfl, hb2⟩
 have HB2 := hid (HB1.out.trans (hb2.mono HB1.out.size))
 clear hb2
 go_wp2_with fail
 go_ret
 exact ⟨rfl, HB2.out⟩
theorem rst_29 (v : V) (hb : v.bulk ≤ 4194304) (hk : v.k = 29) (d : Bool) (H : Tells 76 v d) : Tells 42 v (fields (ctch3 v) v && d) := by
 intro x w h
 have HO := owA h hb
 have hll := llA v hb
 have HT := hid fun w' (hb' : Below w.heap.size w w') => H x w' (Is.below hb' _ _ h)
 obtain ⟨xka, xkc, xla, xlc, rfl, -, -, -, hrow⟩ := h.open
 obtain ⟨W0, hW0, HB0, HF⟩ := boxA w v xka xkc xla xlc
 have HW0 := hid hW0
 simp only [X.v] at HO HT ⊢
 rw [hk] at HO HF HW0 HT ⊢
 clear h hb hW0 hk hrow H
 generalize fields (ctch3 v) v = bo at *
 generalize v.nm = nm, v.n = n, v.s = s, v.ks.length = kn, v.l.length = ln at *
 go_enter Tryz.func42, Tryz.ntmps42
 go_wp2_with fail
 rw [HW0.out]
 clear HW0
 refine (HO.out _ HB0.out).mono ?_
 rintro e w1 ⟨rfl, hb1⟩
 obtain ⟨d0, d1, d2, d3, d4, d5⟩ := (HF.out _ hb1).six
 have HB1 := hid (HB0.out.trans (hb1.mono HB0.out.size))
 clear hb1
 cases bo
 ·go_wp2_with fail
  go_ret
  exact ⟨rfl, HB1.out⟩
 go_wp2_with fail
 clear d0 d1 d2 d3 d4 d5
 refine (HT.out _ HB1.out).mono ?_
 rintro e w2 ⟨rfl, hb2⟩
 have HB2 := hid (HB1.out.trans (hb2.mono HB1.out.size))
 clear hb2
 go_wp2_with fail
 go_ret
 exact ⟨rfl, HB2.out⟩
theorem rst_30 (v : V) (hb : v.bulk ≤ 4194304) (hk : v.k = 30) (d : Bool) (H : Tells 76 v d) : Tells 42 v (fields (ctch3 v) v && d) := by
 intro x w h
 have HO := owA h hb
 have hll := llA v hb
 have HT := hid fun w' (hb' : Below w.heap.size w w') => H x w' (Is.below hb' _ _ h)
 obtain ⟨xka, xkc, xla, xlc, rfl, -, -, -, hrow⟩ := h.open
 obtain ⟨W0, hW0, HB0, HF⟩ := boxA w v xka xkc xla xlc
 have HW0 := hid hW0
 simp only [X.v] at HO HT ⊢
 rw [hk] at HO HF HW0 HT ⊢
 clear h hb hW0 hk hrow H
 generalize fields (ctch3 v) v = bo at *
 generalize v.nm = nm, v.n = n, v.s = s, v.ks.length = kn, v.l.length = ln at *
 go_enter Tryz.func42, Tryz.ntmps42
 go_wp2_with fail
 rw [HW0.out]
 clear HW0
 refine (HO.out _ HB0.out).mono ?_
 rintro e w1 ⟨rfl, hb1⟩
 obtain ⟨d0, d1, d2, d3, d4, d5⟩ := (HF.out _ hb1).six
 have HB1 := hid (HB0.out.trans (hb1.mono HB0.out.size))
 clear hb1
 cases bo
 ·go_wp2_with fail
  go_ret
  exact ⟨rfl, HB1.out⟩
 go_wp2_with fail
 clear d0 d1 d2 d3 d4 d5
 refine (HT.out _ HB1.out).mono ?_
 rintro e w2 ⟨rfl, hb2⟩
 have HB2 := hid (HB1.out.trans (hb2.mono HB1.out.size))
 clear hb2
 go_wp2_with fail
 go_ret
 exact ⟨rfl, HB2.out⟩
theorem rst_31 (v : V) (hb : v.bulk ≤ 4194304) (hk : v.k = 31) : Tells 42 v (fields (ctch3 v) v && decide (v.l.length = 0)) := by
 intro x w h
 have HO := owA h hb
 have hll := llA v hb
 obtain ⟨xka, xkc, xla, xlc, rfl, -, -, -, hrow⟩ := h.open
 obtain ⟨W0, hW0, HB0, HF⟩ := boxA w v xka xkc xla xlc
 have HW0 := hid hW0
 simp only [X.v] at HO ⊢
 rw [hk] at HO HF HW0 ⊢
 clear h hb hW0 hk hrow
 generalize fields (ctch3 v) v = bo at *
 generalize v.nm = nm, v.n = n, v.s = s, v.ks.length = kn, v.l.length = ln at *
 go_enter Tryz.func42, Tryz.ntmps42
 go_wp2_with fail
 rw [HW0.out]
 clear HW0
 refine (HO.out _ HB0.out).mono ?_
 rintro e w1 ⟨rfl, hb1⟩
 obtain ⟨d0, d1, d2, d3, d4, d5⟩ := (HF.out _ hb1).six
 have HB1 := hid (HB0.out.trans (hb1.mono HB0.out.size))
 clear hb1
 cases bo
 ·go_wp2_with fail
  go_ret
  exact ⟨rfl, HB1.out⟩
 by_cases hl : ln = 0
 ·subst hl
  go_wp2_with fail
  go_ret
  exact ⟨rfl, HB1.out⟩
 ·have hq : ((ln : Int) == 0) = false := by rw [beq_eq_false_iff_ne]; omega
  have HD := hid (decide_eq_false hl)
  clear hl
  go_wp2_with fail
  go_ret
  exact ⟨by rw [HD.out]; rfl, HB1.out⟩
theorem rst_32 (v : V) (hb : v.bulk ≤ 4194304) (hk : v.k = 32) : Tells 42 v (fields (ctch3 v) v && decide (v.l.length = 0)) := by
 intro x w h
 have HO := owA h hb
 have hll := llA v hb
 obtain ⟨xka, xkc, xla, xlc, rfl, -, -, -, hrow⟩ := h.open
 obtain ⟨W0, hW0, HB0, HF⟩ := boxA w v xka xkc xla xlc
 have HW0 := hid hW0
 simp only [X.v] at HO ⊢
 rw [hk] at HO HF HW0 ⊢
 clear h hb hW0 hk hrow
 generalize fields (ctch3 v) v = bo at *
 generalize v.nm = nm, v.n = n, v.s = s, v.ks.length = kn, v.l.length = ln at *
 go_enter Tryz.func42, Tryz.ntmps42
 go_wp2_with fail
 rw [HW0.out]
 clear HW0
 refine (HO.out _ HB0.out).mono ?_
 rintro e w1 ⟨rfl, hb1⟩
 obtain ⟨d0, d1, d2, d3, d4, d5⟩ := (HF.out _ hb1).six
 have HB1 := hid (HB0.out.trans (hb1.mono HB0.out.size))
 clear hb1
 cases bo
 ·go_wp2_with fail
  go_ret
  exact ⟨rfl, HB1.out⟩
 by_cases hl : ln = 0
 ·subst hl
  go_wp2_with fail
  go_ret
  exact ⟨rfl, HB1.out⟩
 ·have hq : ((ln : Int) == 0) = false := by rw [beq_eq_false_iff_ne]; omega
  have HD := hid (decide_eq_false hl)
  clear hl
  go_wp2_with fail
  go_ret
  exact ⟨by rw [HD.out]; rfl, HB1.out⟩
theorem rst_40 (v : V) (hb : v.bulk ≤ 4194304) (hk : v.k = 40) : Tells 42 v (fields (ctch3 v) v && decide (v.l.length = 0)) := by
 intro x w h
 have HO := owA h hb
 have hll := llA v hb
 obtain ⟨xka, xkc, xla, xlc, rfl, -, -, -, hrow⟩ := h.open
 obtain ⟨W0, hW0, HB0, HF⟩ := boxA w v xka xkc xla xlc
 have HW0 := hid hW0
 simp only [X.v] at HO ⊢
 rw [hk] at HO HF HW0 ⊢
 clear h hb hW0 hk hrow
 generalize fields (ctch3 v) v = bo at *
 generalize v.nm = nm, v.n = n, v.s = s, v.ks.length = kn, v.l.length = ln at *
 go_enter Tryz.func42, Tryz.ntmps42
 go_wp2_with fail
 rw [HW0.out]
 clear HW0
 refine (HO.out _ HB0.out).mono ?_
 rintro e w1 ⟨rfl, hb1⟩
 obtain ⟨d0, d1, d2, d3, d4, d5⟩ := (HF.out _ hb1).six
 have HB1 := hid (HB0.out.trans (hb1.mono HB0.out.size))
 clear hb1
 cases bo
 ·go_wp2_with fail
  go_ret
  exact ⟨rfl, HB1.out⟩
 by_cases hl : ln = 0
 ·subst hl
  go_wp2_with fail
  go_ret
  exact ⟨rfl, HB1.out⟩
 ·have hq : ((ln : Int) == 0) = false := by rw [beq_eq_false_iff_ne]; omega
  have HD := hid (decide_eq_false hl)
  clear hl
  go_wp2_with fail
  go_ret
  exact ⟨by rw [HD.out]; rfl, HB1.out⟩
theorem rst_33 (v : V) (hb : v.bulk ≤ 4194304) (hk : v.k = 33) (p : Bool) (H : TellsX v p) : Tells 42 v (fields (ctch3 v) v && (decide (v.l.length ≤ 1) && p)) := by
 intro x w h
 have HO := owA h hb
 have hll := llA v hb
 obtain ⟨xka, xkc, xla, xlc, rfl, -, -, -, hrow⟩ := h.open
 have HT := hid fun w' (hb' : Below w.heap.size w w') => H xla xlc w' (RowB.below hrow hb')
 obtain ⟨W0, hW0, HB0, HF⟩ := boxA w v xka xkc xla xlc
 have HW0 := hid hW0
 simp only [X.v] at HO ⊢
 rw [hk] at HO HF HW0 ⊢
 clear h hb hW0 hk hrow H
 generalize fields (ctch3 v) v = bo at *
 generalize v.nm = nm, v.n = n, v.s = s, v.ks.length = kn, v.l.length = ln at *
 go_enter Tryz.func42, Tryz.ntmps42
 go_wp2_with fail
 rw [HW0.out]
 clear HW0
 refine (HO.out _ HB0.out).mono ?_
 rintro e w1 ⟨rfl, hb1⟩
 obtain ⟨d0, d1, d2, d3, d4, d5⟩ := (HF.out _ hb1).six
 have HB1 := hid (HB0.out.trans (hb1.mono HB0.out.size))
 clear hb1
 cases bo
 ·go_wp2_with fail
  go_ret
  exact ⟨rfl, HB1.out⟩
 by_cases hl : ln ≤ 1
 ·have hli : (ln : Int) ≤ 1 := by omega
  have HD := hid (decide_eq_true hl)
  clear hl
  go_wp2_with fail
  clear d0 d1 d2 d3 d4 d5
  refine (HT.out _ HB1.out).mono ?_
  rintro e w2 ⟨rfl, hb2⟩
  have HB2 := hid (HB1.out.trans (hb2.mono HB1.out.size))
  clear hb2
  go_wp2_with fail
  go_ret
  exact ⟨by rw [HD.out]; rfl, HB2.out⟩
 ·have hli : (1 : Int) < (ln : Int) := by omega
  have HD := hid (decide_eq_false hl)
  clear hl
  go_wp2_with fail
  go_ret
  exact ⟨by rw [HD.out]; rfl, HB1.out⟩
theorem rst_24n (v : V) (hb : v.bulk ≤ 4194304) (hk : v.k = 24) (hl1 : ¬ v.l.length = 1) : Tells 42 v (fields (ctch3 v) v && false) := by
 intro x w h
 have HO := owA h hb
 have hll := llA v hb
 have hq1 : ((v.l.length : Int) == 1) = false := by rw [beq_eq_false_iff_ne]; omega
 have hr1 : ((v.l.length : Int) != 1) = true := by rw [bne_iff_ne]; omega
 obtain ⟨xka, xkc, xla, xlc, rfl, -, -, -, hrow⟩ := h.open
 obtain ⟨W0, hW0, HB0, HF⟩ := boxA w v xka xkc xla xlc
 have HW0 := hid hW0
 simp only [X.v] at HO ⊢
 rw [hk] at HO HF HW0 ⊢
 clear h hb hW0 hk hrow hl1
 generalize fields (ctch3 v) v = bo at *
 generalize v.nm = nm, v.n = n, v.s = s, v.ks.length = kn, v.l.length = ln at *
 go_enter Tryz.func42, Tryz.ntmps42
 go_wp2_with fail
 rw [HW0.out]
 clear HW0
 refine (HO.out _ HB0.out).mono ?_
 rintro e w1 ⟨rfl, hb1⟩
 obtain ⟨d0, d1, d2, d3, d4, d5⟩ := (HF.out _ hb1).six
 have HB1 := hid (HB0.out.trans (hb1.mono HB0.out.size))
 clear hb1
 cases bo
 ·go_wp2_with fail
  go_ret
  exact ⟨rfl, HB1.out⟩
 go_wp2_with fail
 go_ret
 exact ⟨rfl, HB1.out⟩
theorem rst_34n (v : V) (hb : v.bulk ≤ 4194304) (hk : v.k = 34) (hl1 : ¬ v.l.length = 1) : Tells 42 v (fields (ctch3 v) v && false) := by
 intro x w h
 have HO := owA h hb
 have hll := llA v hb
 have hq1 : ((v.l.length : Int) == 1) = false := by rw [beq_eq_false_iff_ne]; omega
 have hr1 : ((v.l.length : Int) != 1) = true := by rw [bne_iff_ne]; omega
 obtain ⟨xka, xkc, xla, xlc, rfl, -, -, -, hrow⟩ := h.open
 obtain ⟨W0, hW0, HB0, HF⟩ := boxA w v xka xkc xla xlc
 have HW0 := hid hW0
 simp only [X.v] at HO ⊢
 rw [hk] at HO HF HW0 ⊢
 clear h hb hW0 hk hrow hl1
 generalize fields (ctch3 v) v = bo at *
 generalize v.nm = nm, v.n = n, v.s = s, v.ks.length = kn, v.l.length = ln at *
 go_enter Tryz.func42, Tryz.ntmps42
 go_wp2_with fail
 rw [HW0.out]
 clear HW0
 refine (HO.out _ HB0.out).mono ?_
 rintro e w1 ⟨rfl, hb1⟩
 obtain ⟨d0, d1, d2, d3, d4, d5⟩ := (HF.out _ hb1).six
 have HB1 := hid (HB0.out.trans (hb1.mono HB0.out.size))
 clear hb1
 cases bo
 ·go_wp2_with fail
  go_ret
  exact ⟨rfl, HB1.out⟩
 go_wp2_with fail
 go_ret
 exact ⟨rfl, HB1.out⟩
theorem rst_26n (v : V) (hb : v.bulk ≤ 4194304) (hk : v.k = 26) (hl2 : ¬ v.l.length = 2) (hl3 : ¬ v.l.length = 3) : Tells 42 v (fields (ctch3 v) v && false) := by
 intro x w h
 have HO := owA h hb
 have hll := llA v hb
 have hq2 : ((v.l.length : Int) == 2) = false := by rw [beq_eq_false_iff_ne]; omega
 have hq3 : ((v.l.length : Int) == 3) = false := by rw [beq_eq_false_iff_ne]; omega
 have hr2 : ((v.l.length : Int) != 2) = true := by rw [bne_iff_ne]; omega
 have hr3 : ((v.l.length : Int) != 3) = true := by rw [bne_iff_ne]; omega
 obtain ⟨xka, xkc, xla, xlc, rfl, -, -, -, hrow⟩ := h.open
 obtain ⟨W0, hW0, HB0, HF⟩ := boxA w v xka xkc xla xlc
 have HW0 := hid hW0
 simp only [X.v] at HO ⊢
 rw [hk] at HO HF HW0 ⊢
 clear h hb hW0 hk hrow hl2 hl3
 generalize fields (ctch3 v) v = bo at *
 generalize v.nm = nm, v.n = n, v.s = s, v.ks.length = kn, v.l.length = ln at *
 go_enter Tryz.func42, Tryz.ntmps42
 go_wp2_with fail
 rw [HW0.out]
 clear HW0
 refine (HO.out _ HB0.out).mono ?_
 rintro e w1 ⟨rfl, hb1⟩
 obtain ⟨d0, d1, d2, d3, d4, d5⟩ := (HF.out _ hb1).six
 have HB1 := hid (HB0.out.trans (hb1.mono HB0.out.size))
 clear hb1
 cases bo
 ·go_wp2_with fail
  go_ret
  exact ⟨rfl, HB1.out⟩
 go_wp2_with fail
 go_ret
 exact ⟨rfl, HB1.out⟩
theorem rst_35n (v : V) (hb : v.bulk ≤ 4194304) (hk : v.k = 35) (hl3 : ¬ v.l.length = 3) : Tells 42 v (fields (ctch3 v) v && false) := by
 intro x w h
 have HO := owA h hb
 have hll := llA v hb
 have hq3 : ((v.l.length : Int) == 3) = false := by rw [beq_eq_false_iff_ne]; omega
 have hr3 : ((v.l.length : Int) != 3) = true := by rw [bne_iff_ne]; omega
 obtain ⟨xka, xkc, xla, xlc, rfl, -, -, -, hrow⟩ := h.open
 obtain ⟨W0, hW0, HB0, HF⟩ := boxA w v xka xkc xla xlc
 have HW0 := hid hW0
 simp only [X.v] at HO ⊢
 rw [hk] at HO HF HW0 ⊢
 clear h hb hW0 hk hrow hl3
 generalize fields (ctch3 v) v = bo at *
 generalize v.nm = nm, v.n = n, v.s = s, v.ks.length = kn, v.l.length = ln at *
 go_enter Tryz.func42, Tryz.ntmps42
 go_wp2_with fail
 rw [HW0.out]
 clear HW0
 refine (HO.out _ HB0.out).mono ?_
 rintro e w1 ⟨rfl, hb1⟩
 obtain ⟨d0, d1, d2, d3, d4, d5⟩ := (HF.out _ hb1).six
 have HB1 := hid (HB0.out.trans (hb1.mono HB0.out.size))
 clear hb1
 cases bo
 ·go_wp2_with fail
  go_ret
  exact ⟨rfl, HB1.out⟩
 go_wp2_with fail
 go_ret
 exact ⟨rfl, HB1.out⟩
theorem rst_38n (v : V) (hb : v.bulk ≤ 4194304) (hk : v.k = 38) (hl1 : ¬ v.l.length = 1) : Tells 42 v (fields (ctch3 v) v && false) := by
 intro x w h
 have HO := owA h hb
 have hll := llA v hb
 have hq1 : ((v.l.length : Int) == 1) = false := by rw [beq_eq_false_iff_ne]; omega
 have hr1 : ((v.l.length : Int) != 1) = true := by rw [bne_iff_ne]; omega
 obtain ⟨xka, xkc, xla, xlc, rfl, -, -, -, hrow⟩ := h.open
 obtain ⟨W0, hW0, HB0, HF⟩ := boxA w v xka xkc xla xlc
 have HW0 := hid hW0
 simp only [X.v] at HO ⊢
 rw [hk] at HO HF HW0 ⊢
 clear h hb hW0 hk hrow hl1
 generalize fields (ctch3 v) v = bo at *
 generalize v.nm = nm, v.n = n, v.s = s, v.ks.length = kn, v.l.length = ln at *
 go_enter Tryz.func42, Tryz.ntmps42
 go_wp2_with fail
 rw [HW0.out]
 clear HW0
 refine (HO.out _ HB0.out).mono ?_
 rintro e w1 ⟨rfl, hb1⟩
 obtain ⟨d0, d1, d2, d3, d4, d5⟩ := (HF.out _ hb1).six
 have HB1 := hid (HB0.out.trans (hb1.mono HB0.out.size))
 clear hb1
 cases bo
 ·go_wp2_with fail
  go_ret
  exact ⟨rfl, HB1.out⟩
 go_wp2_with fail
 go_ret
 exact ⟨rfl, HB1.out⟩
theorem rst_36n (v : V) (hb : v.bulk ≤ 4194304) (hk : v.k = 36) (hl : v.l = []) : Tells 42 v (fields (ctch3 v) v && false) := by
 intro x w h
 have HO := owA h hb
 have hll := llA v hb
 obtain ⟨xka, xkc, xla, xlc, rfl, -, -, -, hrow⟩ := h.open
 have hlen : v.l.length = 0 := by rw [hl]; rfl
 obtain ⟨W0, hW0, HB0, HF⟩ := boxA w v xka xkc xla xlc
 have HW0 := hid hW0
 simp only [X.v] at HO ⊢
 rw [hk, hlen] at HO HF HW0 ⊢
 clear h hb hW0 hk hrow hl hlen hll
 generalize fields (ctch3 v) v = bo at *
 generalize v.nm = nm, v.n = n, v.s = s, v.ks.length = kn at *
 skip
 go_enter Tryz.func42, Tryz.ntmps42
 go_wp2_with fail
 rw [HW0.out]
 clear HW0
 refine (HO.out _ HB0.out).mono ?_
 rintro e w1 ⟨rfl, hb1⟩
 obtain ⟨d0, d1, d2, d3, d4, d5⟩ := (HF.out _ hb1).six
 have HB1 := hid (HB0.out.trans (hb1.mono HB0.out.size))
 clear hb1
 cases bo
 ·go_wp2_with fail
  go_ret
  exact ⟨rfl, HB1.out⟩
 go_wp2_with fail
 go_ret
 exact ⟨rfl, HB1.out⟩
theorem expr_16n (v : V) (hb : v.bulk ≤ 4194304) (hk : v.k = 16) (hl1 : ¬ v.l.length = 1) : Tells 74 v (fields (ctch3 v) v && false) := by
 intro x w h
 have HO := owA h hb
 have hll := llA v hb
 have hq1 : ((v.l.length : Int) == 1) = false := by rw [beq_eq_false_iff_ne]; omega
 have hr1 : ((v.l.length : Int) != 1) = true := by rw [bne_iff_ne]; omega
 obtain ⟨xka, xkc, xla, xlc, rfl, -, -, -, hrow⟩ := h.open
 obtain ⟨W0, hW0, HB0, HF⟩ := boxA w v xka xkc xla xlc
 have HW0 := hid hW0
 simp only [X.v] at HO ⊢
 rw [hk] at HO HF HW0 ⊢
 clear h hb hW0 hk hrow hl1
 generalize fields (ctch3 v) v = bo at *
 generalize v.nm = nm, v.n = n, v.s = s, v.ks.length = kn, v.l.length = ln at *
 go_enter Tryz.func74, Tryz.ntmps74
 go_wp2_with fail
 rw [HW0.out]
 clear HW0
 refine (HO.out _ HB0.out).mono ?_
 rintro e w1 ⟨rfl, hb1⟩
 obtain ⟨d0, d1, d2, d3, d4, d5⟩ := (HF.out _ hb1).six
 have HB1 := hid (HB0.out.trans (hb1.mono HB0.out.size))
 clear hb1
 cases bo
 ·go_wp2_with fail
  go_ret
  exact ⟨rfl, HB1.out⟩
 go_wp2_with fail
 go_ret
 exact ⟨rfl, HB1.out⟩
theorem expr_20n (v : V) (hb : v.bulk ≤ 4194304) (hk : v.k = 20) (hl2 : ¬ v.l.length = 2) : Tells 74 v (fields (ctch3 v) v && false) := by
 intro x w h
 have HO := owA h hb
 have hll := llA v hb
 have hq2 : ((v.l.length : Int) == 2) = false := by rw [beq_eq_false_iff_ne]; omega
 have hr2 : ((v.l.length : Int) != 2) = true := by rw [bne_iff_ne]; omega
 obtain ⟨xka, xkc, xla, xlc, rfl, -, -, -, hrow⟩ := h.open
 obtain ⟨W0, hW0, HB0, HF⟩ := boxA w v xka xkc xla xlc
 have HW0 := hid hW0
 simp only [X.v] at HO ⊢
 rw [hk] at HO HF HW0 ⊢
 clear h hb hW0 hk hrow hl2
 generalize fields (ctch3 v) v = bo at *
 generalize v.nm = nm, v.n = n, v.s = s, v.ks.length = kn, v.l.length = ln at *
 go_enter Tryz.func74, Tryz.ntmps74
 go_wp2_with fail
 rw [HW0.out]
 clear HW0
 refine (HO.out _ HB0.out).mono ?_
 rintro e w1 ⟨rfl, hb1⟩
 obtain ⟨d0, d1, d2, d3, d4, d5⟩ := (HF.out _ hb1).six
 have HB1 := hid (HB0.out.trans (hb1.mono HB0.out.size))
 clear hb1
 cases bo
 ·go_wp2_with fail
  go_ret
  exact ⟨rfl, HB1.out⟩
 go_wp2_with fail
 go_ret
 exact ⟨rfl, HB1.out⟩
theorem rst_24 (v a : V) (p : Bool) (hb : v.bulk ≤ 4194304) (hk : v.k = 24) (hl : v.l = [a])
  (H1 : Tells 74 a p) :
  Tells 42 v (fields (ctch3 v) v && p) := by
 intro x w h
 have HO := owA h hb
 obtain ⟨xka, xkc, xla, xlc, rfl, -, -, -, hrow⟩ := h.open
 obtain ⟨W0, hW0, HB0, HF⟩ := boxA w v xka xkc xla xlc
 have HW0 := hid hW0
 obtain ⟨g, o, y0, rfl, hg, hy0⟩ := kid_at hrow 0 (by rw [hl]; simp)
 have e0 : v.l[0]'(by rw [hl]; simp) = a := by simp [hl]
 have HY0 : Hid (∀ w', Below w.heap.size w w' → At w' g (o) y0) := fun w' hb => (hy0 w' hb).1
 have HI0 := kidI hy0 e0
 have hlen : v.l.length = 1 := by rw [hl]; rfl
 have TH1 := hid fun w' (hb : Below w.heap.size w w') => H1 y0 w' (HI0.out w' hb)
 simp only [X.v] at HO TH1 ⊢
 rw [hk, hlen] at HO HF HW0 ⊢
 clear h hb hrow hW0 hk hlen hl hg e0 hy0 HI0 H1
 obtain ⟨yk0, ynm0, yn0, ys0, yka0, ykn0, ykc0, yla0, yln0, ylc0⟩ := y0
 generalize fields (ctch3 v) v = bo at *
 generalize v.nm = nm, v.n = n, v.s = s, v.ks.length = kn at *
 go_enter Tryz.func42, Tryz.ntmps42
 go_wp2_with fail
 rw [HW0.out]
 clear HW0
 refine (HO.out _ HB0.out).mono ?_
 rintro e w1 ⟨rfl, hb1⟩
 obtain ⟨d0, d1, d2, d3, d4, d5⟩ := (HF.out _ hb1).six
 have HB1 := hid (HB0.out.trans (hb1.mono HB0.out.size))
 clear hb1
 cases bo
 ·go_wp2_with fail
  go_ret
  exact ⟨rfl, HB1.out⟩
 obtain ⟨c0, c1, c2, c3, c4, c5⟩ := (HY0.out _ HB1.out).six
 go_wp2_with fail
 clear c0 c1 c2 c3 c4 c5 d0 d1 d2 d3 d4 d5
 refine (TH1.out _ HB1.out).mono ?_
 rintro e w2 ⟨rfl, hb2⟩
 have HB2 := hid (HB1.out.trans (hb2.mono HB1.out.size))
 clear hb2
 cases p
 ·
  skip
  go_wp2_with fail
  go_ret
  exact ⟨rfl, HB2.out⟩
 ·
  skip
  go_wp2_with fail
  go_ret
  exact ⟨rfl, HB2.out⟩
theorem rst_34 (v a : V) (p : Bool) (hb : v.bulk ≤ 4194304) (hk : v.k = 34) (hl : v.l = [a])
  (H1 : Tells 74 a p) :
  Tells 42 v (fields (ctch3 v) v && p) := by
 intro x w h
 have HO := owA h hb
 obtain ⟨xka, xkc, xla, xlc, rfl, -, -, -, hrow⟩ := h.open
 obtain ⟨W0, hW0, HB0, HF⟩ := boxA w v xka xkc xla xlc
 have HW0 := hid hW0
 obtain ⟨g, o, y0, rfl, hg, hy0⟩ := kid_at hrow 0 (by rw [hl]; simp)
 have e0 : v.l[0]'(by rw [hl]; simp) = a := by simp [hl]
 have HY0 : Hid (∀ w', Below w.heap.size w w' → At w' g (o) y0) := fun w' hb => (hy0 w' hb).1
 have HI0 := kidI hy0 e0
 have hlen : v.l.length = 1 := by rw [hl]; rfl
 have TH1 := hid fun w' (hb : Below w.heap.size w w') => H1 y0 w' (HI0.out w' hb)
 simp only [X.v] at HO TH1 ⊢
 rw [hk, hlen] at HO HF HW0 ⊢
 clear h hb hrow hW0 hk hlen hl hg e0 hy0 HI0 H1
 obtain ⟨yk0, ynm0, yn0, ys0, yka0, ykn0, ykc0, yla0, yln0, ylc0⟩ := y0
 generalize fields (ctch3 v) v = bo at *
 generalize v.nm = nm, v.n = n, v.s = s, v.ks.length = kn at *
 go_enter Tryz.func42, Tryz.ntmps42
 go_wp2_with fail
 rw [HW0.out]
 clear HW0
 refine (HO.out _ HB0.out).mono ?_
 rintro e w1 ⟨rfl, hb1⟩
 obtain ⟨d0, d1, d2, d3, d4, d5⟩ := (HF.out _ hb1).six
 have HB1 := hid (HB0.out.trans (hb1.mono HB0.out.size))
 clear hb1
 cases bo
 ·go_wp2_with fail
  go_ret
  exact ⟨rfl, HB1.out⟩
 obtain ⟨c0, c1, c2, c3, c4, c5⟩ := (HY0.out _ HB1.out).six
 go_wp2_with fail
 clear c0 c1 c2 c3 c4 c5 d0 d1 d2 d3 d4 d5
 refine (TH1.out _ HB1.out).mono ?_
 rintro e w2 ⟨rfl, hb2⟩
 have HB2 := hid (HB1.out.trans (hb2.mono HB1.out.size))
 clear hb2
 cases p
 ·
  skip
  go_wp2_with fail
  go_ret
  exact ⟨rfl, HB2.out⟩
 ·
  skip
  go_wp2_with fail
  go_ret
  exact ⟨rfl, HB2.out⟩
theorem rst_38 (v a : V) (p : Bool) (hb : v.bulk ≤ 4194304) (hk : v.k = 38) (hl : v.l = [a])
  (H1 : Tells 42 a p) :
  Tells 42 v (fields (ctch3 v) v && p) := by
 intro x w h
 have HO := owA h hb
 obtain ⟨xka, xkc, xla, xlc, rfl, -, -, -, hrow⟩ := h.open
 obtain ⟨W0, hW0, HB0, HF⟩ := boxA w v xka xkc xla xlc
 have HW0 := hid hW0
 obtain ⟨g, o, y0, rfl, hg, hy0⟩ := kid_at hrow 0 (by rw [hl]; simp)
 have e0 : v.l[0]'(by rw [hl]; simp) = a := by simp [hl]
 have HY0 : Hid (∀ w', Below w.heap.size w w' → At w' g (o) y0) := fun w' hb => (hy0 w' hb).1
 have HI0 := kidI hy0 e0
 have hlen : v.l.length = 1 := by rw [hl]; rfl
 have TH1 := hid fun w' (hb : Below w.heap.size w w') => H1 y0 w' (HI0.out w' hb)
 simp only [X.v] at HO TH1 ⊢
 rw [hk, hlen] at HO HF HW0 ⊢
 clear h hb hrow hW0 hk hlen hl hg e0 hy0 HI0 H1
 obtain ⟨yk0, ynm0, yn0, ys0, yka0, ykn0, ykc0, yla0, yln0, ylc0⟩ := y0
 generalize fields (ctch3 v) v = bo at *
 generalize v.nm = nm, v.n = n, v.s = s, v.ks.length = kn at *
 go_enter Tryz.func42, Tryz.ntmps42
 go_wp2_with fail
 rw [HW0.out]
 clear HW0
 refine (HO.out _ HB0.out).mono ?_
 rintro e w1 ⟨rfl, hb1⟩
 obtain ⟨d0, d1, d2, d3, d4, d5⟩ := (HF.out _ hb1).six
 have HB1 := hid (HB0.out.trans (hb1.mono HB0.out.size))
 clear hb1
 cases bo
 ·go_wp2_with fail
  go_ret
  exact ⟨rfl, HB1.out⟩
 obtain ⟨c0, c1, c2, c3, c4, c5⟩ := (HY0.out _ HB1.out).six
 go_wp2_with fail
 clear c0 c1 c2 c3 c4 c5 d0 d1 d2 d3 d4 d5
 refine (TH1.out _ HB1.out).mono ?_
 rintro e w2 ⟨rfl, hb2⟩
 have HB2 := hid (HB1.out.trans (hb2.mono HB1.out.size))
 clear hb2
 cases p
 ·
  skip
  go_wp2_with fail
  go_ret
  exact ⟨rfl, HB2.out⟩
 ·
  skip
  go_wp2_with fail
  go_ret
  exact ⟨rfl, HB2.out⟩
theorem rst_26a (v a b : V) (p q : Bool) (hb : v.bulk ≤ 4194304) (hk : v.k = 26) (hl : v.l = [a, b])
  (H1 : Tells 74 a p) (H2 : Tells 75 b q) :
  Tells 42 v (fields (ctch3 v) v && (p && q)) := by
 intro x w h
 have HO := owA h hb
 obtain ⟨xka, xkc, xla, xlc, rfl, -, -, -, hrow⟩ := h.open
 obtain ⟨W0, hW0, HB0, HF⟩ := boxA w v xka xkc xla xlc
 have HW0 := hid hW0
 obtain ⟨g, o, y0, rfl, hg, hy0⟩ := kid_at hrow 0 (by rw [hl]; simp)
 obtain ⟨g', o', y1, e, -, hy1⟩ := kid_at hrow 1 (by rw [hl]; simp)
 injection e with e
 injection e with e1 e2
 subst e1 e2
 have e0 : v.l[0]'(by rw [hl]; simp) = a := by simp [hl]
 have HY0 : Hid (∀ w', Below w.heap.size w w' → At w' g (o) y0) := fun w' hb => (hy0 w' hb).1
 have HI0 := kidI hy0 e0
 have e1 : v.l[1]'(by rw [hl]; simp) = b := by simp [hl]
 have HY1 : Hid (∀ w', Below w.heap.size w w' → At w' g (o + 6) y1) := fun w' hb => (hy1 w' hb).1
 have HI1 := kidI hy1 e1
 have hlen : v.l.length = 2 := by rw [hl]; rfl
 have TH1 := hid fun w' (hb : Below w.heap.size w w') => H1 y0 w' (HI0.out w' hb)
 have TH2 := hid fun w' (hb : Below w.heap.size w w') => H2 y1 w' (HI1.out w' hb)
 simp only [X.v] at HO TH1 TH2 ⊢
 rw [hk, hlen] at HO HF HW0 ⊢
 clear h hb hrow hW0 hk hlen hl hg e0 hy0 HI0 e1 hy1 HI1 H1 H2
 obtain ⟨yk0, ynm0, yn0, ys0, yka0, ykn0, ykc0, yla0, yln0, ylc0⟩ := y0
 obtain ⟨yk1, ynm1, yn1, ys1, yka1, ykn1, ykc1, yla1, yln1, ylc1⟩ := y1
 generalize fields (ctch3 v) v = bo at *
 generalize v.nm = nm, v.n = n, v.s = s, v.ks.length = kn at *
 go_enter Tryz.func42, Tryz.ntmps42
 go_wp2_with fail
 rw [HW0.out]
 clear HW0
 refine (HO.out _ HB0.out).mono ?_
 rintro e w1 ⟨rfl, hb1⟩
 obtain ⟨d0, d1, d2, d3, d4, d5⟩ := (HF.out _ hb1).six
 have HB1 := hid (HB0.out.trans (hb1.mono HB0.out.size))
 clear hb1
 cases bo
 ·go_wp2_with fail
  go_ret
  exact ⟨rfl, HB1.out⟩
 obtain ⟨c0, c1, c2, c3, c4, c5⟩ := (HY0.out _ HB1.out).six
 go_wp2_with fail
 clear c0 c1 c2 c3 c4 c5 d0 d1 d2 d3 d4 d5
 refine (TH1.out _ HB1.out).mono ?_
 rintro e w2 ⟨rfl, hb2⟩
 have HB2 := hid (HB1.out.trans (hb2.mono HB1.out.size))
 clear hb2
 cases p
 ·
  skip
  go_wp2_with fail
  go_ret
  exact ⟨rfl, HB2.out⟩
 ·
  skip
  obtain ⟨c0, c1, c2, c3, c4, c5⟩ := (HY1.out _ HB2.out).six
  go_wp2_with fail
  clear c0 c1 c2 c3 c4 c5
  refine (TH2.out _ HB2.out).mono ?_
  rintro e w3 ⟨rfl, hb3⟩
  have HB3 := hid (HB2.out.trans (hb3.mono HB2.out.size))
  clear hb3
  cases q
  ·
   skip
   go_wp2_with fail
   go_ret
   exact ⟨rfl, HB3.out⟩
  ·
   skip
   go_wp2_with fail
   go_ret
   exact ⟨rfl, HB3.out⟩
theorem rst_26b (v a b c : V) (p q r : Bool) (hb : v.bulk ≤ 4194304) (hk : v.k = 26) (hl : v.l = [a, b, c])
  (H1 : Tells 74 a p) (H2 : Tells 75 b q) (H3 : Tells 75 c r) :
  Tells 42 v (fields (ctch3 v) v && (r && (p && q))) := by
 intro x w h
 have HO := owA h hb
 obtain ⟨xka, xkc, xla, xlc, rfl, -, -, -, hrow⟩ := h.open
 obtain ⟨W0, hW0, HB0, HF⟩ := boxA w v xka xkc xla xlc
 have HW0 := hid hW0
 obtain ⟨g, o, y0, rfl, hg, hy0⟩ := kid_at hrow 0 (by rw [hl]; simp)
 obtain ⟨g', o', y1, e, -, hy1⟩ := kid_at hrow 1 (by rw [hl]; simp)
 injection e with e
 injection e with e1 e2
 subst e1 e2
 obtain ⟨g', o', y2, e, -, hy2⟩ := kid_at hrow 2 (by rw [hl]; simp)
 injection e with e
 injection e with e1 e2
 subst e1 e2
 have e0 : v.l[0]'(by rw [hl]; simp) = a := by simp [hl]
 have HY0 : Hid (∀ w', Below w.heap.size w w' → At w' g (o) y0) := fun w' hb => (hy0 w' hb).1
 have HI0 := kidI hy0 e0
 have e1 : v.l[1]'(by rw [hl]; simp) = b := by simp [hl]
 have HY1 : Hid (∀ w', Below w.heap.size w w' → At w' g (o + 6) y1) := fun w' hb => (hy1 w' hb).1
 have HI1 := kidI hy1 e1
 have e2 : v.l[2]'(by rw [hl]; simp) = c := by simp [hl]
 have HY2 : Hid (∀ w', Below w.heap.size w w' → At w' g (o + 12) y2) := fun w' hb => (hy2 w' hb).1
 have HI2 := kidI hy2 e2
 have hlen : v.l.length = 3 := by rw [hl]; rfl
 have TH1 := hid fun w' (hb : Below w.heap.size w w') => H1 y0 w' (HI0.out w' hb)
 have TH2 := hid fun w' (hb : Below w.heap.size w w') => H2 y1 w' (HI1.out w' hb)
 have TH3 := hid fun w' (hb : Below w.heap.size w w') => H3 y2 w' (HI2.out w' hb)
 simp only [X.v] at HO TH1 TH2 TH3 ⊢
 rw [hk, hlen] at HO HF HW0 ⊢
 clear h hb hrow hW0 hk hlen hl hg e0 hy0 HI0 e1 hy1 HI1 e2 hy2 HI2 H1 H2 H3
 obtain ⟨yk0, ynm0, yn0, ys0, yka0, ykn0, ykc0, yla0, yln0, ylc0⟩ := y0
 obtain ⟨yk1, ynm1, yn1, ys1, yka1, ykn1, ykc1, yla1, yln1, ylc1⟩ := y1
 obtain ⟨yk2, ynm2, yn2, ys2, yka2, ykn2, ykc2, yla2, yln2, ylc2⟩ := y2
 generalize fields (ctch3 v) v = bo at *
 generalize v.nm = nm, v.n = n, v.s = s, v.ks.length = kn at *
 go_enter Tryz.func42, Tryz.ntmps42
 go_wp2_with fail
 rw [HW0.out]
 clear HW0
 refine (HO.out _ HB0.out).mono ?_
 rintro e w1 ⟨rfl, hb1⟩
 obtain ⟨d0, d1, d2, d3, d4, d5⟩ := (HF.out _ hb1).six
 have HB1 := hid (HB0.out.trans (hb1.mono HB0.out.size))
 clear hb1
 cases bo
 ·go_wp2_with fail
  go_ret
  exact ⟨rfl, HB1.out⟩
 obtain ⟨c0, c1, c2, c3, c4, c5⟩ := (HY2.out _ HB1.out).six
 go_wp2_with fail
 clear c0 c1 c2 c3 c4 c5 d0 d1 d2 d3 d4 d5
 refine (TH3.out _ HB1.out).mono ?_
 rintro e w2 ⟨rfl, hb2⟩
 have HB2 := hid (HB1.out.trans (hb2.mono HB1.out.size))
 clear hb2
 cases r
 ·
  skip
  go_wp2_with fail
  go_ret
  exact ⟨rfl, HB2.out⟩
 ·
  skip
  obtain ⟨c0, c1, c2, c3, c4, c5⟩ := (HY0.out _ HB2.out).six
  go_wp2_with fail
  clear c0 c1 c2 c3 c4 c5
  refine (TH1.out _ HB2.out).mono ?_
  rintro e w3 ⟨rfl, hb3⟩
  have HB3 := hid (HB2.out.trans (hb3.mono HB2.out.size))
  clear hb3
  cases p
  ·
   skip
   go_wp2_with fail
   go_ret
   exact ⟨rfl, HB3.out⟩
  ·
   skip
   obtain ⟨c0, c1, c2, c3, c4, c5⟩ := (HY1.out _ HB3.out).six
   go_wp2_with fail
   clear c0 c1 c2 c3 c4 c5
   refine (TH2.out _ HB3.out).mono ?_
   rintro e w4 ⟨rfl, hb4⟩
   have HB4 := hid (HB3.out.trans (hb4.mono HB3.out.size))
   clear hb4
   cases q
   ·
    skip
    go_wp2_with fail
    go_ret
    exact ⟨rfl, HB4.out⟩
   ·
    skip
    go_wp2_with fail
    go_ret
    exact ⟨rfl, HB4.out⟩
theorem rst_35 (v a b c : V) (p q0 q1 r0 r1 : Bool) (hb : v.bulk ≤ 4194304) (hk : v.k = 35) (hl : v.l = [a, b, c])
  (H1 : Tells 75 a p) (H2 : Tells 75 b q0) (H3 : Tells 78 b q1) (H4 : Tells 75 c r0) (H5 : Tells 78 c r1) :
  Tells 42 v (fields (ctch3 v) v && (p && ((q0 || q1) && ((r0 || r1) && !(q1 && r1))))) := by
 intro x w h
 have HO := owA h hb
 obtain ⟨xka, xkc, xla, xlc, rfl, -, -, -, hrow⟩ := h.open
 obtain ⟨W0, hW0, HB0, HF⟩ := boxA w v xka xkc xla xlc
 have HW0 := hid hW0
 obtain ⟨g, o, y0, rfl, hg, hy0⟩ := kid_at hrow 0 (by rw [hl]; simp)
 obtain ⟨g', o', y1, e, -, hy1⟩ := kid_at hrow 1 (by rw [hl]; simp)
 injection e with e
 injection e with e1 e2
 subst e1 e2
 obtain ⟨g', o', y2, e, -, hy2⟩ := kid_at hrow 2 (by rw [hl]; simp)
 injection e with e
 injection e with e1 e2
 subst e1 e2
 have e0 : v.l[0]'(by rw [hl]; simp) = a := by simp [hl]
 have HY0 : Hid (∀ w', Below w.heap.size w w' → At w' g (o) y0) := fun w' hb => (hy0 w' hb).1
 have HI0 := kidI hy0 e0
 have e1 : v.l[1]'(by rw [hl]; simp) = b := by simp [hl]
 have HY1 : Hid (∀ w', Below w.heap.size w w' → At w' g (o + 6) y1) := fun w' hb => (hy1 w' hb).1
 have HI1 := kidI hy1 e1
 have e2 : v.l[2]'(by rw [hl]; simp) = c := by simp [hl]
 have HY2 : Hid (∀ w', Below w.heap.size w w' → At w' g (o + 12) y2) := fun w' hb => (hy2 w' hb).1
 have HI2 := kidI hy2 e2
 have hlen : v.l.length = 3 := by rw [hl]; rfl
 have TH1 := hid fun w' (hb : Below w.heap.size w w') => H1 y0 w' (HI0.out w' hb)
 have TH2 := hid fun w' (hb : Below w.heap.size w w') => H2 y1 w' (HI1.out w' hb)
 have TH3 := hid fun w' (hb : Below w.heap.size w w') => H3 y1 w' (HI1.out w' hb)
 have TH4 := hid fun w' (hb : Below w.heap.size w w') => H4 y2 w' (HI2.out w' hb)
 have TH5 := hid fun w' (hb : Below w.heap.size w w') => H5 y2 w' (HI2.out w' hb)
 simp only [X.v] at HO TH1 TH2 TH3 TH4 TH5 ⊢
 rw [hk, hlen] at HO HF HW0 ⊢
 clear h hb hrow hW0 hk hlen hl hg e0 hy0 HI0 e1 hy1 HI1 e2 hy2 HI2 H1 H2 H3 H4 H5
 obtain ⟨yk0, ynm0, yn0, ys0, yka0, ykn0, ykc0, yla0, yln0, ylc0⟩ := y0
 obtain ⟨yk1, ynm1, yn1, ys1, yka1, ykn1, ykc1, yla1, yln1, ylc1⟩ := y1
 obtain ⟨yk2, ynm2, yn2, ys2, yka2, ykn2, ykc2, yla2, yln2, ylc2⟩ := y2
 generalize fields (ctch3 v) v = bo at *
 generalize v.nm = nm, v.n = n, v.s = s, v.ks.length = kn at *
 go_enter Tryz.func42, Tryz.ntmps42
 go_wp2_with fail
 rw [HW0.out]
 clear HW0
 refine (HO.out _ HB0.out).mono ?_
 rintro e w1 ⟨rfl, hb1⟩
 obtain ⟨d0, d1, d2, d3, d4, d5⟩ := (HF.out _ hb1).six
 have HB1 := hid (HB0.out.trans (hb1.mono HB0.out.size))
 clear hb1
 cases bo
 ·go_wp2_with fail
  go_ret
  exact ⟨rfl, HB1.out⟩
 obtain ⟨c0, c1, c2, c3, c4, c5⟩ := (HY0.out _ HB1.out).six
 go_wp2_with fail
 clear c0 c1 c2 c3 c4 c5 d0 d1 d2 d3 d4 d5
 refine (TH1.out _ HB1.out).mono ?_
 rintro e w2 ⟨rfl, hb2⟩
 have HB2 := hid (HB1.out.trans (hb2.mono HB1.out.size))
 clear hb2
 cases p
 ·
  skip
  go_wp2_with fail
  go_ret
  exact ⟨rfl, HB2.out⟩
 ·
  skip
  obtain ⟨c0, c1, c2, c3, c4, c5⟩ := (HY1.out _ HB2.out).six
  go_wp2_with fail
  clear c0 c1 c2 c3 c4 c5
  refine (TH2.out _ HB2.out).mono ?_
  rintro e w3 ⟨rfl, hb3⟩
  have HB3 := hid (HB2.out.trans (hb3.mono HB2.out.size))
  clear hb3
  cases q0
  ·
   skip
   obtain ⟨c0, c1, c2, c3, c4, c5⟩ := (HY1.out _ HB3.out).six
   go_wp2_with fail
   clear c0 c1 c2 c3 c4 c5
   refine (TH3.out _ HB3.out).mono ?_
   rintro e w4 ⟨rfl, hb4⟩
   have HB4 := hid (HB3.out.trans (hb4.mono HB3.out.size))
   clear hb4
   cases q1
   ·
    skip
    go_wp2_with fail
    go_ret
    exact ⟨rfl, HB4.out⟩
   ·
    skip
    obtain ⟨c0, c1, c2, c3, c4, c5⟩ := (HY2.out _ HB4.out).six
    go_wp2_with fail
    clear c0 c1 c2 c3 c4 c5
    refine (TH4.out _ HB4.out).mono ?_
    rintro e w5 ⟨rfl, hb5⟩
    have HB5 := hid (HB4.out.trans (hb5.mono HB4.out.size))
    clear hb5
    cases r0
    ·
     skip
     obtain ⟨c0, c1, c2, c3, c4, c5⟩ := (HY2.out _ HB5.out).six
     go_wp2_with fail
     clear c0 c1 c2 c3 c4 c5
     refine (TH5.out _ HB5.out).mono ?_
     rintro e w6 ⟨rfl, hb6⟩
     have HB6 := hid (HB5.out.trans (hb6.mono HB5.out.size))
     clear hb6
     cases r1
     ·
      skip
      go_wp2_with fail
      go_ret
      exact ⟨rfl, HB6.out⟩
     ·
      skip
      obtain ⟨c0, c1, c2, c3, c4, c5⟩ := (HY1.out _ HB6.out).six
      go_wp2_with fail
      clear c0 c1 c2 c3 c4 c5
      refine (TH3.out _ HB6.out).mono ?_
      rintro e w7 ⟨rfl, hb7⟩
      have HB7 := hid (HB6.out.trans (hb7.mono HB6.out.size))
      clear hb7
      obtain ⟨c0, c1, c2, c3, c4, c5⟩ := (HY2.out _ HB7.out).six
      go_wp2_with fail
      clear c0 c1 c2 c3 c4 c5
      refine (TH5.out _ HB7.out).mono ?_
      rintro e w8 ⟨rfl, hb8⟩
      have HB8 := hid (HB7.out.trans (hb8.mono HB7.out.size))
      clear hb8
      go_wp2_with fail
      go_ret
      exact ⟨rfl, HB8.out⟩
    ·
     skip
     obtain ⟨c0, c1, c2, c3, c4, c5⟩ := (HY1.out _ HB5.out).six
     go_wp2_with fail
     clear c0 c1 c2 c3 c4 c5
     refine (TH3.out _ HB5.out).mono ?_
     rintro e w6 ⟨rfl, hb6⟩
     have HB6 := hid (HB5.out.trans (hb6.mono HB5.out.size))
     clear hb6
     obtain ⟨c0, c1, c2, c3, c4, c5⟩ := (HY2.out _ HB6.out).six
     go_wp2_with fail
     clear c0 c1 c2 c3 c4 c5
     refine (TH5.out _ HB6.out).mono ?_
     rintro e w7 ⟨rfl, hb7⟩
     have HB7 := hid (HB6.out.trans (hb7.mono HB6.out.size))
     clear hb7
     cases r1
     ·
      skip
      go_wp2_with fail
      go_ret
      exact ⟨rfl, HB7.out⟩
     ·
      skip
      go_wp2_with fail
      go_ret
      exact ⟨rfl, HB7.out⟩
  ·
   skip
   obtain ⟨c0, c1, c2, c3, c4, c5⟩ := (HY2.out _ HB3.out).six
   go_wp2_with fail
   clear c0 c1 c2 c3 c4 c5
   refine (TH4.out _ HB3.out).mono ?_
   rintro e w4 ⟨rfl, hb4⟩
   have HB4 := hid (HB3.out.trans (hb4.mono HB3.out.size))
   clear hb4
   cases r0
   ·
    skip
    obtain ⟨c0, c1, c2, c3, c4, c5⟩ := (HY2.out _ HB4.out).six
    go_wp2_with fail
    clear c0 c1 c2 c3 c4 c5
    refine (TH5.out _ HB4.out).mono ?_
    rintro e w5 ⟨rfl, hb5⟩
    have HB5 := hid (HB4.out.trans (hb5.mono HB4.out.size))
    clear hb5
    cases r1
    ·
     skip
     go_wp2_with fail
     go_ret
     exact ⟨rfl, HB5.out⟩
    ·
     skip
     obtain ⟨c0, c1, c2, c3, c4, c5⟩ := (HY1.out _ HB5.out).six
     go_wp2_with fail
     clear c0 c1 c2 c3 c4 c5
     refine (TH3.out _ HB5.out).mono ?_
     rintro e w6 ⟨rfl, hb6⟩
     have HB6 := hid (HB5.out.trans (hb6.mono HB5.out.size))
     clear hb6
     cases q1
     ·
      skip
      go_wp2_with fail
      go_ret
      exact ⟨rfl, HB6.out⟩
     ·
      skip
      obtain ⟨c0, c1, c2, c3, c4, c5⟩ := (HY2.out _ HB6.out).six
      go_wp2_with fail
      clear c0 c1 c2 c3 c4 c5
      refine (TH5.out _ HB6.out).mono ?_
      rintro e w7 ⟨rfl, hb7⟩
      have HB7 := hid (HB6.out.trans (hb7.mono HB6.out.size))
      clear hb7
      go_wp2_with fail
      go_ret
      exact ⟨rfl, HB7.out⟩
   ·
    skip
    obtain ⟨c0, c1, c2, c3, c4, c5⟩ := (HY1.out _ HB4.out).six
    go_wp2_with fail
    clear c0 c1 c2 c3 c4 c5
    refine (TH3.out _ HB4.out).mono ?_
    rintro e w5 ⟨rfl, hb5⟩
    have HB5 := hid (HB4.out.trans (hb5.mono HB4.out.size))
    clear hb5
    cases q1
    ·
     skip
     go_wp2_with fail
     go_ret
     exact ⟨rfl, HB5.out⟩
    ·
     skip
     obtain ⟨c0, c1, c2, c3, c4, c5⟩ := (HY2.out _ HB5.out).six
     go_wp2_with fail
     clear c0 c1 c2 c3 c4 c5
     refine (TH5.out _ HB5.out).mono ?_
     rintro e w6 ⟨rfl, hb6⟩
     have HB6 := hid (HB5.out.trans (hb6.mono HB5.out.size))
     clear hb6
     cases r1
     ·
      skip
      go_wp2_with fail
      go_ret
      exact ⟨rfl, HB6.out⟩
     ·
      skip
      go_wp2_with fail
      go_ret
      exact ⟨rfl, HB6.out⟩
def EE (u : V) : Bool := isE u && u.ok
def SS (u : V) : Bool := isIn u && u.ok
def FF (u : V) : Bool := isSt u && u.ok
theorem fields_c {v : V} {c c' : Bool} (h : ¬ v.k = 35) : fields c v = fields c' v := by
 unfold fields nmOk
 simp only [if_neg h]
theorem ok_cut (v : V) (h : ¬ v.k = 35) : v.ok = (fields (ctch3 v) v && (kids v && V.oks v.l)) := by
 rw [ok_eq]
 unfold right
 rw [fields_c h (c' := ctch3 v), Bool.and_assoc]
theorem all_oks (p : V → Bool) : ∀ l : List V, (l.all p && V.oks l) = l.all fun u => p u && u.ok
 | [] => rfl
 | a :: l => by
  rw [List.all_cons, List.all_cons, V.oks, ← all_oks p l]
  cases p a <;> cases a.ok <;> cases l.all p <;> cases V.oks l <;> rfl
theorem nil_oks (l : List V) : (l.isEmpty && V.oks l) = l.isEmpty := by cases l <;> simp [V.oks]
theorem are_1 (l : List V) : (are [isE] l && V.oks l) = (decide (l.length = 1) && l.all EE) := by
 rcases l with _ | ⟨a, _ | ⟨b, r⟩⟩ <;> simp [are, V.oks, EE]
theorem are_2 (l : List V) : (are [isE, isE] l && V.oks l) = (decide (l.length = 2) && l.all EE) := by
 rcases l with _ | ⟨a, _ | ⟨b, _ | ⟨c, r⟩⟩⟩ <;> simp [are, V.oks, EE]
 cases isE a <;> cases isE b <;> cases a.ok <;> cases b.ok <;> rfl
theorem are_3 (l : List V) : (are [isE, isE, isE] l && V.oks l) = (decide (l.length = 3) && l.all EE) := by
 rcases l with _ | ⟨a, _ | ⟨b, _ | ⟨c, _ | ⟨d, r⟩⟩⟩⟩ <;> simp [are, V.oks, EE]
 cases isE a <;> cases isE b <;> cases isE c <;> cases a.ok <;> cases b.ok <;> cases c.ok <;> rfl
theorem tg_e {u : V} (h : isTg u = true) : isE u = true := by
 unfold isTg at h
 rw [decide_eq_true_eq] at h
 unfold isE
 rw [decide_eq_true_eq]
 omega
def tg0 (l : List V) : Bool := match l with | a :: _ => isTg a | [] => false
theorem are_t1 (l : List V) : (are [isTg] l && V.oks l) = (decide (l.length = 1) && (tg0 l && l.all EE)) := by
 rcases l with _ | ⟨a, _ | ⟨b, r⟩⟩ <;> simp [are, V.oks, EE, tg0]
 cases h : isTg a
 ·rfl
 ·rw [tg_e h]
  rfl
theorem are_t2 (l : List V) : (are [isTg, isE] l && V.oks l) = (decide (l.length = 2) && (tg0 l && l.all EE)) := by
 rcases l with _ | ⟨a, _ | ⟨b, _ | ⟨c, r⟩⟩⟩ <;> simp [are, V.oks, EE, tg0]
 cases h : isTg a
 ·rfl
 ·rw [tg_e h]
  cases isE b <;> cases a.ok <;> cases b.ok <;> rfl
theorem rexpr_other (v : V) (hb : v.bulk ≤ 4194304) (hk : ∀ m ∈ ([1, 2, 3, 4, 5, 6, 7, 8, 10, 11, 12, 13, 14, 15, 16, 17, 18, 19, 20, 21] : List Int), ¬ v.k = m) : Tells 74 v false := by
 intro x w h
 have HO := owA h hb
 obtain ⟨xka, xkc, xla, xlc, rfl, -, -, -, hrow⟩ := h.open
 obtain ⟨W0, hW0, HB0, HF⟩ := boxA w v xka xkc xla xlc
 have HW0 := hid hW0
 have hq1 : (v.k == 1) = false := by rw [beq_eq_false_iff_ne]; exact hk 1 (by decide)
 have hq2 : (v.k == 2) = false := by rw [beq_eq_false_iff_ne]; exact hk 2 (by decide)
 have hq3 : (v.k == 3) = false := by rw [beq_eq_false_iff_ne]; exact hk 3 (by decide)
 have hq4 : (v.k == 4) = false := by rw [beq_eq_false_iff_ne]; exact hk 4 (by decide)
 have hq5 : (v.k == 5) = false := by rw [beq_eq_false_iff_ne]; exact hk 5 (by decide)
 have hq6 : (v.k == 6) = false := by rw [beq_eq_false_iff_ne]; exact hk 6 (by decide)
 have hq7 : (v.k == 7) = false := by rw [beq_eq_false_iff_ne]; exact hk 7 (by decide)
 have hq8 : (v.k == 8) = false := by rw [beq_eq_false_iff_ne]; exact hk 8 (by decide)
 have hq10 : (v.k == 10) = false := by rw [beq_eq_false_iff_ne]; exact hk 10 (by decide)
 have hq11 : (v.k == 11) = false := by rw [beq_eq_false_iff_ne]; exact hk 11 (by decide)
 have hq12 : (v.k == 12) = false := by rw [beq_eq_false_iff_ne]; exact hk 12 (by decide)
 have hq13 : (v.k == 13) = false := by rw [beq_eq_false_iff_ne]; exact hk 13 (by decide)
 have hq14 : (v.k == 14) = false := by rw [beq_eq_false_iff_ne]; exact hk 14 (by decide)
 have hq15 : (v.k == 15) = false := by rw [beq_eq_false_iff_ne]; exact hk 15 (by decide)
 have hq16 : (v.k == 16) = false := by rw [beq_eq_false_iff_ne]; exact hk 16 (by decide)
 have hq17 : (v.k == 17) = false := by rw [beq_eq_false_iff_ne]; exact hk 17 (by decide)
 have hq18 : (v.k == 18) = false := by rw [beq_eq_false_iff_ne]; exact hk 18 (by decide)
 have hq19 : (v.k == 19) = false := by rw [beq_eq_false_iff_ne]; exact hk 19 (by decide)
 have hq20 : (v.k == 20) = false := by rw [beq_eq_false_iff_ne]; exact hk 20 (by decide)
 have hq21 : (v.k == 21) = false := by rw [beq_eq_false_iff_ne]; exact hk 21 (by decide)
 simp only [X.v] at HO ⊢
 clear h hb hW0 hk hrow
 generalize fields (ctch3 v) v = bo at *
 generalize v.nm = nm, v.n = n, v.s = s, v.ks.length = kn, v.l.length = ln, v.k = k at *
 go_enter Tryz.func74, Tryz.ntmps74
 go_wp2_with fail
 rw [HW0.out]
 clear HW0
 refine (HO.out _ HB0.out).mono ?_
 rintro e w1 ⟨rfl, hb1⟩
 obtain ⟨d0, d1, d2, d3, d4, d5⟩ := (HF.out _ hb1).six
 have HB1 := hid (HB0.out.trans (hb1.mono HB0.out.size))
 clear hb1
 cases bo
 ·go_wp2_with fail
  go_ret
  exact ⟨rfl, HB1.out⟩
 go_wp2_with fail
 go_ret
 exact ⟨rfl, HB1.out⟩
theorem rstmt_other (v : V) (hb : v.bulk ≤ 4194304) (hk : ∀ m ∈ ([22, 24, 25, 26, 27, 28, 29, 30, 31, 32, 33, 34, 35, 36, 38, 40] : List Int), ¬ v.k = m) : Tells 42 v false := by
 intro x w h
 have HO := owA h hb
 obtain ⟨xka, xkc, xla, xlc, rfl, -, -, -, hrow⟩ := h.open
 obtain ⟨W0, hW0, HB0, HF⟩ := boxA w v xka xkc xla xlc
 have HW0 := hid hW0
 have hq22 : (v.k == 22) = false := by rw [beq_eq_false_iff_ne]; exact hk 22 (by decide)
 have hq24 : (v.k == 24) = false := by rw [beq_eq_false_iff_ne]; exact hk 24 (by decide)
 have hq25 : (v.k == 25) = false := by rw [beq_eq_false_iff_ne]; exact hk 25 (by decide)
 have hq26 : (v.k == 26) = false := by rw [beq_eq_false_iff_ne]; exact hk 26 (by decide)
 have hq27 : (v.k == 27) = false := by rw [beq_eq_false_iff_ne]; exact hk 27 (by decide)
 have hq28 : (v.k == 28) = false := by rw [beq_eq_false_iff_ne]; exact hk 28 (by decide)
 have hq29 : (v.k == 29) = false := by rw [beq_eq_false_iff_ne]; exact hk 29 (by decide)
 have hq30 : (v.k == 30) = false := by rw [beq_eq_false_iff_ne]; exact hk 30 (by decide)
 have hq31 : (v.k == 31) = false := by rw [beq_eq_false_iff_ne]; exact hk 31 (by decide)
 have hq32 : (v.k == 32) = false := by rw [beq_eq_false_iff_ne]; exact hk 32 (by decide)
 have hq33 : (v.k == 33) = false := by rw [beq_eq_false_iff_ne]; exact hk 33 (by decide)
 have hq34 : (v.k == 34) = false := by rw [beq_eq_false_iff_ne]; exact hk 34 (by decide)
 have hq35 : (v.k == 35) = false := by rw [beq_eq_false_iff_ne]; exact hk 35 (by decide)
 have hq36 : (v.k == 36) = false := by rw [beq_eq_false_iff_ne]; exact hk 36 (by decide)
 have hq38 : (v.k == 38) = false := by rw [beq_eq_false_iff_ne]; exact hk 38 (by decide)
 have hq40 : (v.k == 40) = false := by rw [beq_eq_false_iff_ne]; exact hk 40 (by decide)
 simp only [X.v] at HO ⊢
 clear h hb hW0 hk hrow
 generalize fields (ctch3 v) v = bo at *
 generalize v.nm = nm, v.n = n, v.s = s, v.ks.length = kn, v.l.length = ln, v.k = k at *
 go_enter Tryz.func42, Tryz.ntmps42
 go_wp2_with fail
 rw [HW0.out]
 clear HW0
 refine (HO.out _ HB0.out).mono ?_
 rintro e w1 ⟨rfl, hb1⟩
 obtain ⟨d0, d1, d2, d3, d4, d5⟩ := (HF.out _ hb1).six
 have HB1 := hid (HB0.out.trans (hb1.mono HB0.out.size))
 clear hb1
 cases bo
 ·go_wp2_with fail
  go_ret
  exact ⟨rfl, HB1.out⟩
 go_wp2_with fail
 go_ret
 exact ⟨rfl, HB1.out⟩
def fst0 (e : V → Bool) (u : V) : Bool := match u.l with | x :: _ => e x | [] => false
def propV (e : V → Bool) (u : V) : Bool := isK 9 u && (fields (ctch3 u) u && (decide (u.l.length = 1) && fst0 e u))
theorem expr_8 (v : V) (e : V → Bool) (hb : v.bulk ≤ 4194304) (hk : v.k = 8) (H : ∀ u ∈ v.l, ∀ x ∈ u.l, Tells 74 x (e x)) : Tells 74 v (fields (ctch3 v) v && v.l.all (propV e)) := by
 intro x w h
 have HO := owA h hb
 have hln : v.l.length ≤ 4194304 := by have := length_le_bulks v.l; have := bulk_ge v; omega
 have hll : (v.l.length : Int) ≤ 4194304 := by omega
 have HBK : Hid (∀ u ∈ v.l, u.bulk ≤ 4194304) := fun u hu => by have := bulk_le_of_mem hu; have := bulk_ge v; omega
 have HXX := hid H
 obtain ⟨xka, xkc, xla, xlc, rfl, -, -, -, hrow⟩ := h.open
 have HR := hid hrow
 obtain ⟨W0, hW0, HB0, HF⟩ := boxA w v xka xkc xla xlc
 have HW0 := hid hW0
 simp only [X.v] at HO ⊢
 rw [hk] at HO HF HW0 ⊢
 clear h hb hW0 H hrow hk
 generalize fields (ctch3 v) v = bo at *
 generalize v.nm = nm, v.n = n, v.s = s, v.ks.length = kn, v.l = l at *
 go_enter Tryz.func74, Tryz.ntmps74
 go_wp2_with fail
 rw [HW0.out]
 clear HW0
 refine (HO.out _ HB0.out).mono ?_
 rintro e' w1 ⟨rfl, hb1⟩
 have HB1 := hid hb1
 have HBW := hid (HB0.out.trans (hb1.mono HB0.out.size))
 obtain ⟨c0, c1, c2, c3, c4, c5⟩ := (HF.out _ hb1).six
 clear hb1 HO
 cases bo
 ·go_wp2_with fail
  go_ret
  exact ⟨rfl, HBW.out⟩
 obtain ⟨r, hr0⟩ : ∃ r, l.all (propV e) = r := ⟨_, rfl⟩
 have HV := hid hr0
 have HVV : Hid ((true && l.all (propV e)) = r) := by
  show _ = _
  rw [hr0, Bool.true_and]
 clear hr0
 go_wp2_with fail
 go_loopw [33] (fun i wr => ∃ j : Nat, j ≤ l.length ∧ i = .int .i64 j ∧ Hid ((l.take j).all (propV e) = true) ∧ Below w1.heap.size w1 wr)
  (fun i _ => l.length - (intOf i).toNat)
 case atStart => exact ⟨0, Nat.zero_le _, rfl, hid rfl, Below.refl _ _⟩
 case round =>
  obtain ⟨j, hj, rfl, hh, hbr⟩ := hrel
  have hb := HBW.out.trans (hbr.mono HBW.out.size)
  have HBRR := hid hbr
  clear hbr c0 c1 c2 c3 c4 c5
  by_cases hlt : j < l.length
  ·obtain ⟨g, o, rfl, hg, y, hy, hv⟩ := HR.out.at_ hlt
   obtain ⟨c0, c1, c2, c3, c4, c5⟩ := hy.below hg hb
   have HM : Hid (l[j] ∈ l) := hid (List.getElem_mem hlt)
   have hyk : y.k = l[j].k := ((isB_iff _ _ _ _).1 hv).1.1
   have hyl : y.ln = l[j].l.length := ((isB_iff _ _ _ _).1 hv).2.2.1
   have hyr : RowB w w.heap.size y.la l[j].l := ((isB_iff _ _ _ _).1 hv).2.2.2.2
   have hyn : (y.ln : Int) ≤ 4194304 := by
    have := HBK.out _ HM.out
    have := length_le_bulks l[j].l
    have := bulk_ge l[j]
    omega
   have HO := hid fun w' (hb' : Below w.heap.size w w') => own_any l[j] y w' (Is.below hb' _ _ hv) (HBK.out _ HM.out)
   have HEJ := hid (HXX.out l[j] HM.out)
   have HY : Hid (propV e l[j] = true → (l.take (j + 1)).all (propV e) = true) := fun e1 => all_take_snoc _ l j hlt hh.out e1
   have HN : Hid (propV e l[j] = false → r = false) := fun e1 => by rw [← HV.out]; exact all_no _ l j hlt e1
   have HQ : Hid (propV e l[j] = (decide (y.k = 9) && (fields (ctch3 l[j]) l[j] && (decide (y.ln = 1) && fst0 e l[j])))) := by
    show _ = _
    rw [hyk, hyl]
    rfl
   have HAT := hid fun w' (hb' : Below (wr.heap.size + 1) (wr.alloc (.cells y.cells 25)) w') => (at_alloc wr y).below (Nat.lt_succ_self _) hb'
   have HBA : Hid (Below w.heap.size w (wr.alloc (.cells y.cells 25))) := hid (hb.alloc (by have := hb.size; omega) _)
   have HBS : Hid (w.heap.size ≤ wr.heap.size + 1) := hid (by have := hb.size; omega)
   have HRJ := hid hyr
   have HYL := hid hyl
   obtain ⟨yk, ynm, yn, ys, yka, ykn, ykc, yla, yln, ylc⟩ := y
   simp only [X.v, X.cells] at HO HAT HBA HQ
   dsimp only at c0 c1 c2 c3 c4 c5 hyn HRJ HYL
   generalize propV e l[j] = q at *
   generalize l[j] = u at *
   generalize fields (ctch3 u) u = bo at *
   clear hv hy hh hyk hyl hyr
   by_cases hk : yk = 9
   rotate_left
   ·have hq : (yk == 9) = false := by rw [beq_eq_false_iff_ne]; exact hk
    have hq2 : (yk != 9) = true := bne_iff_ne.2 hk
    have HQR : Hid (r = false) := HN.out (by rw [HQ.out, decide_eq_false hk]; rfl)
    clear hk HQ
    go_wp2_with fail
    go_ret
    exact ⟨by rw [HVV.out, HQR.out]; rfl, HBA.out⟩
   rw [decide_eq_true hk, Bool.true_and] at HQ
   subst hk
   go_wp2_with fail
   refine (HO.out _ HBA.out).mono ?_
   rintro e' w2 ⟨rfl, hb1⟩
   have HB2 := hid (HBA.out.trans (hb1.mono (by have := HBS.out; simp; omega)))
   obtain ⟨d0, d1, d2, d3, d4, d5⟩ := (HAT.out w2 (hb1.mono (by simp))).six
   have HB1w : Hid (Below w1.heap.size w1 w2) := (HBRR.out.alloc HBRR.out.size _).trans (hb1.mono (by have := HBRR.out.size; simp; omega))
   clear hb1 c0 c1 c2 c3 c4 c5
   cases bo
   ·have HQR : Hid (r = false) := HN.out (by rw [HQ.out]; rfl)
    go_wp2_with fail
    go_ret
    exact ⟨by rw [HVV.out, HQR.out]; rfl, HB2.out⟩
   rw [Bool.true_and] at HQ
   by_cases h1 : yln = 1
   rotate_left
   ·have HQR : Hid (r = false) := HN.out (by rw [HQ.out, decide_eq_false h1]; rfl)
    have h1i : ((yln : Int) == 1) = false := by rw [beq_eq_false_iff_ne]; omega
    have h2i : ((yln : Int) != 1) = true := by rw [bne_iff_ne]; omega
    go_wp2_with fail
    go_ret
    exact ⟨by rw [HVV.out, HQR.out]; rfl, HB2.out⟩
   rw [decide_eq_true h1, Bool.true_and] at HQ
   have hz1 : u.l.length = 1 := by rw [← HYL.out]; exact h1
   obtain ⟨g2, o2, y2, hya, hg2, hy2⟩ := kid_at HRJ.out 0 (by omega)
   have hzz : ∃ z, u.l = [z] := by
    rcases hu : u.l with _ | ⟨a, _ | ⟨b, s⟩⟩
    ·rw [hu] at hz1; cases hz1
    ·exact ⟨a, rfl⟩
    ·rw [hu] at hz1; simp at hz1
   obtain ⟨z, hz⟩ := hzz
   have hzm : z ∈ u.l := by rw [hz]; exact List.mem_cons_self
   have HYZ : Hid (∀ w', Below w.heap.size w w' → At w' g2 o2 y2) := fun w' hb => by have := (hy2 w' hb).1; rwa [Nat.zero_mul, Nat.add_zero] at this
   have HEX : Hid (∀ w', Below w.heap.size w w' → Calls Tryz.prog 74 #[y2.v] w' fun e' w'' => e' = .returned (.bool (e z)) ∧ Below w'.heap.size w' w'') := fun w' hb => HEJ.out z hzm y2 w' (by have := (hy2 w' hb).2; simp only [hz, List.getElem_cons_zero] at this; exact this)
   have HF0 : Hid (fst0 e u = e z) := by
    show _ = _
    unfold fst0
    rw [hz]
   rw [HF0.out] at HQ
   clear HF0 HEJ hy2 hz hzm hz1 HRJ HYL hg2
   subst h1 hya
   obtain ⟨zk, znm, zn, zs, zka, zkn, zkc, zla, zln, zlc⟩ := y2
   simp only [X.v] at HEX
   generalize e z = be at *
   obtain ⟨e0, e1, e2, e3, e4, e5⟩ := (HYZ.out w2 HB2.out).six
   go_wp2_with fail
   refine (HEX.out _ HB2.out).mono ?_
   rintro e' w3 ⟨rfl, hb2⟩
   have HB3 := hid (HB2.out.trans (hb2.mono HB2.out.size))
   have HB3w := hid (HB1w.out.trans (hb2.mono HB1w.out.size))
   clear hb2 d0 d1 d2 d3 d4 d5 e0 e1 e2 e3 e4 e5 hb
   cases be
   ·have HQR : Hid (r = false) := HN.out HQ.out
    go_wp2_with fail
    go_ret
    exact ⟨by rw [HVV.out, HQR.out]; rfl, HB3.out⟩
   ·have HQR := hid (HY.out HQ.out)
    go_wp2_with fail
    go_roundw
    case rel => exact ⟨j + 1, by omega, by go_num, HQR, HB3w.out⟩
    case measure => simp [intOf]; omega
  ·obtain rfl : j = l.length := by omega
   have HQ : Hid (r = true) := by
    show _ = _
    rw [← HV.out, ← hh.out, List.take_length]
   clear hh
   go_wp2_with fail
   go_ret
   exact ⟨by rw [HVV.out, HQ.out]; rfl, hb⟩
def TellsC (v : V) (b : Bool) : Prop := ∀ (A : Option Addr) (c : Nat) (w : World), Row w A v.l.tail → Calls Tryz.prog 79 #[.slice A (v.l.length - 1) c] w fun e w' => e = .returned (.bool b) ∧ Below w.heap.size w w'
theorem rst_36 (v a : V) (r : List V) (p q : Bool) (hb : v.bulk ≤ 4194304) (hk : v.k = 36) (hl : v.l = a :: r) (H1 : Tells 74 a p) (H2 : TellsC v q) :
  Tells 42 v (fields (ctch3 v) v && (p && q)) := by
 intro x w h
 have HO := owA h hb
 have hll := llA v hb
 have hpos : 0 < v.l.length := by rw [hl]; simp
 have hposi : (0 : Int) < (v.l.length : Int) := by omega
 have hge : (1 : Int) ≤ (v.l.length : Int) := by omega
 obtain ⟨xka, xkc, xla, xlc, rfl, -, hlc, -, hrow⟩ := h.open
 obtain ⟨W0, hW0, HB0, HF⟩ := boxA w v xka xkc xla xlc
 have HW0 := hid hW0
 have hsl := fun w' => run_tail xla v.l.length xlc hpos w'
 have TH2 := hid fun w' c' (hb' : Below w.heap.size w w') => H2 (tailA xla xlc) c' w' (row_tail (RowB.below hrow hb') hlc)
 obtain ⟨g, o, y0, hxla, hg, hy0⟩ := kid_at hrow 0 hpos
 have e0 : v.l[0]'hpos = a := by simp [hl]
 have HY0 : Hid (∀ w', Below w.heap.size w w' → At w' g (o) y0) := fun w' hb => (hy0 w' hb).1
 have HI0 := kidI hy0 e0
 have TH1 := hid fun w' (hb : Below w.heap.size w w') => H1 y0 w' (HI0.out w' hb)
 generalize tailA xla xlc = tA at *
 subst hxla
 simp only [X.v] at HO TH1 ⊢
 rw [hk] at HO HF HW0 ⊢
 clear h hb hrow hW0 hk e0 hy0 HI0 H1 H2 hlc hg hpos hl
 obtain ⟨yk0, ynm0, yn0, ys0, yka0, ykn0, ykc0, yla0, yln0, ylc0⟩ := y0
 generalize fields (ctch3 v) v = bo at *
 generalize v.nm = nm, v.n = n, v.s = s, v.ks.length = kn, v.l.length = ln at *
 go_enter Tryz.func42, Tryz.ntmps42
 go_wp2_with fail
 rw [HW0.out]
 clear HW0
 refine (HO.out _ HB0.out).mono ?_
 rintro e w1 ⟨rfl, hb1⟩
 obtain ⟨d0, d1, d2, d3, d4, d5⟩ := (HF.out _ hb1).six
 have HB1 := hid (HB0.out.trans (hb1.mono HB0.out.size))
 clear hb1
 cases bo
 ·go_wp2_with fail
  go_ret
  exact ⟨rfl, HB1.out⟩
 obtain ⟨c00, c01, c02, c03, c04, c05⟩ := (HY0.out _ HB1.out).six
 go_wp2_with fail
 clear d0 d1 d2 d3 d4 d5 c00 c01 c02 c03 c04 c05
 refine (TH1.out _ HB1.out).mono ?_
 rintro e w2 ⟨rfl, hb2⟩
 have HB2 := hid (HB1.out.trans (hb2.mono HB1.out.size))
 clear hb2
 cases p
 ·go_wp2_with fail
  go_ret
  exact ⟨rfl, HB2.out⟩
 ·go_wp2_with fail
  refine (TH2.out _ _ HB2.out).mono ?_
  rintro e w3 ⟨rfl, hb3⟩
  have HB3 := hid (HB2.out.trans (hb3.mono HB2.out.size))
  clear hb3
  go_wp2_with fail
  go_ret
  exact ⟨rfl, HB3.out⟩
def BB (u : V) : Bool := isK 25 u && u.ok
def DD (u : V) : Bool := isK 22 u && u.ok
theorem EE_k {v : V} {k : Int} (hk : v.k = k) (h : 1 ≤ k ∧ k ≤ 21 ∧ ¬ k = 9) : EE v = v.ok := by
 have : isE v = true := by unfold isE; rw [decide_eq_true_eq]; omega
 unfold EE
 rw [this]
 rfl
theorem EE_no {v : V} (h : ¬ (1 ≤ v.k ∧ v.k ≤ 21 ∧ ¬ v.k = 9)) : EE v = false := by
 have : isE v = false := by unfold isE; exact decide_eq_false h
 unfold EE
 rw [this]
 rfl
theorem SS_k {v : V} {k : Int} (hk : v.k = k) (h : 22 ≤ k ∧ k ≤ 40 ∧ ¬ k = 23 ∧ ¬ k = 37 ∧ ¬ k = 39) : SS v = v.ok := by
 have : isIn v = true := by
  unfold isIn isSt
  rw [Bool.and_eq_true, decide_eq_true_eq, decide_eq_true_eq]
  omega
 unfold SS
 rw [this]
 rfl
theorem SS_no {v : V} (h : ¬ (22 ≤ v.k ∧ v.k ≤ 40 ∧ ¬ v.k = 23 ∧ ¬ v.k = 37 ∧ ¬ v.k = 39)) : SS v = false := by
 have : isIn v = false := by
  rw [Bool.eq_false_iff]
  intro e
  unfold isIn isSt at e
  rw [Bool.and_eq_true, decide_eq_true_eq, decide_eq_true_eq] at e
  omega
 unfold SS
 rw [this]
 rfl
theorem FF_39 {v : V} (hk : v.k = 39) : FF v = v.ok := by
 have : isSt v = true := by
  unfold isSt
  rw [decide_eq_true_eq]
  omega
 unfold FF
 rw [this]
 rfl
theorem FF_SS {v : V} (hk : ¬ v.k = 39) : FF v = SS v := by
 unfold FF SS isIn
 rw [decide_eq_true hk, Bool.and_true]
theorem isK_of {v : V} {k : Int} (h : v.k = k) : isK k v = true := by
 unfold isK
 rw [h, decide_eq_true rfl]
theorem isK_no {v : V} {k : Int} (h : ¬ v.k = k) : isK k v = false := by
 unfold isK
 exact decide_eq_false h
theorem isK_two {v : V} {j k : Int} (h : ¬ j = k) : (isK j v && isK k v) = false := by
 by_cases hj : v.k = j
 ·rw [isK_no (k := k) (by omega), Bool.and_false]
 ·rw [isK_no hj, Bool.false_and]
theorem empty_len (l : List V) : l.isEmpty = decide (l.length = 0) := by cases l <;> simp
theorem some_len (l : List V) : (!l.isEmpty) = decide (0 < l.length) := by cases l <;> simp
theorem empV_ok (u : V) : empV u = (isK 42 u && u.ok) := by
 unfold empV
 by_cases h : u.k = 42
 ·rw [isK_of h, ok_cut u (by omega), kids_42 h, nil_oks]
 ·rw [isK_no h]
  rfl
theorem ee_leaf {v : V} {k : Int} (hk : v.k = k) (h : 1 ≤ k ∧ k ≤ 6) (hq : kids v = v.l.isEmpty) : EE v = (fields (ctch3 v) v && decide (v.l.length = 0)) := by
 rw [EE_k hk (by omega), ok_cut v (by omega), hq, nil_oks, empty_len]
theorem ee_7 {v : V} (hk : v.k = 7) : EE v = (fields (ctch3 v) v && v.l.all EE) := by
 rw [EE_k hk (by decide), ok_cut v (by omega), kids_7 hk, all_oks]
 rfl
theorem ee_10 {v : V} (hk : v.k = 10) : EE v = (fields (ctch3 v) v && v.l.all FF) := by
 rw [EE_k hk (by decide), ok_cut v (by omega), kids_10 hk, all_oks]
 rfl
theorem ee_some {v : V} {k : Int} (hk : v.k = k) (h : 1 ≤ k ∧ k ≤ 21 ∧ ¬ k = 9) (hq : kids v = (!v.l.isEmpty && v.l.all isE)) : EE v = (fields (ctch3 v) v && (decide (0 < v.l.length) && v.l.all EE)) := by
 rw [EE_k hk h, ok_cut v (by omega), hq, Bool.and_assoc, all_oks, some_len]
 rfl
theorem ee_1 {v : V} {k : Int} (hk : v.k = k) (h : 1 ≤ k ∧ k ≤ 21 ∧ ¬ k = 9) (hq : kids v = are [isE] v.l) : EE v = (fields (ctch3 v) v && (decide (v.l.length = 1) && v.l.all EE)) := by
 rw [EE_k hk h, ok_cut v (by omega), hq, are_1]
theorem ee_2 {v : V} {k : Int} (hk : v.k = k) (h : 1 ≤ k ∧ k ≤ 21 ∧ ¬ k = 9) (hq : kids v = are [isE, isE] v.l) : EE v = (fields (ctch3 v) v && (decide (v.l.length = 2) && v.l.all EE)) := by
 rw [EE_k hk h, ok_cut v (by omega), hq, are_2]
theorem ee_3 {v : V} {k : Int} (hk : v.k = k) (h : 1 ≤ k ∧ k ≤ 21 ∧ ¬ k = 9) (hq : kids v = are [isE, isE, isE] v.l) : EE v = (fields (ctch3 v) v && (decide (v.l.length = 3) && v.l.all EE)) := by
 rw [EE_k hk h, ok_cut v (by omega), hq, are_3]
theorem tg0_get {l : List V} (h : 0 < l.length) : tg0 l = isTg (l[0]'h) := by
 cases l
 ·cases h
 ·rfl
theorem ee_16 {v : V} (hk : v.k = 16) (h : v.l.length = 1) : EE v = (fields (ctch3 v) v && (isTg (v.l[0]'(by omega)) && v.l.all EE)) := by
 rw [EE_k hk (by decide), ok_cut v (by omega), kids_16 hk, are_t1, tg0_get (by omega), decide_eq_true h, Bool.true_and]
theorem ee_16n {v : V} (hk : v.k = 16) (h : ¬ v.l.length = 1) : EE v = (fields (ctch3 v) v && false) := by
 rw [EE_k hk (by decide), ok_cut v (by omega), kids_16 hk, are_t1, decide_eq_false h, Bool.false_and]
theorem ee_20 {v : V} (hk : v.k = 20) (h : v.l.length = 2) : EE v = (fields (ctch3 v) v && (isTg (v.l[0]'(by omega)) && v.l.all EE)) := by
 rw [EE_k hk (by decide), ok_cut v (by omega), kids_20 hk, are_t2, tg0_get (by omega), decide_eq_true h, Bool.true_and]
theorem ee_20n {v : V} (hk : v.k = 20) (h : ¬ v.l.length = 2) : EE v = (fields (ctch3 v) v && false) := by
 rw [EE_k hk (by decide), ok_cut v (by omega), kids_20 hk, are_t2, decide_eq_false h, Bool.false_and]
theorem prop_ok (u : V) : (isK 9 u && u.ok) = propV EE u := by
 unfold propV
 by_cases h : u.k = 9
 ·rw [isK_of h, ok_cut u (by omega), kids_9 h, are_1]
  unfold fst0
  rcases u.l with _ | ⟨a, _ | ⟨b, r⟩⟩ <;> simp
 ·rw [isK_no h]
  rfl
theorem ee_8 {v : V} (hk : v.k = 8) : EE v = (fields (ctch3 v) v && v.l.all (propV EE)) := by
 rw [EE_k hk (by decide), ok_cut v (by omega), kids_8 hk, all_oks, ← funext prop_ok]
theorem ss_leaf {v : V} {k : Int} (hk : v.k = k) (h : 22 ≤ k ∧ k ≤ 40 ∧ ¬ k = 23 ∧ ¬ k = 37 ∧ ¬ k = 39) (h35 : ¬ k = 35) (hq : kids v = v.l.isEmpty) : SS v = (fields (ctch3 v) v && decide (v.l.length = 0)) := by
 rw [SS_k hk h, ok_cut v (by omega), hq, nil_oks, empty_len]
theorem ss_same {v : V} {k : Int} (hk : v.k = k) (h : 22 ≤ k ∧ k ≤ 40 ∧ ¬ k = 23 ∧ ¬ k = 37 ∧ ¬ k = 39) (h35 : ¬ k = 35) : SS v = (fields (ctch3 v) v && (isK k v && v.ok)) := by
 rw [SS_k hk h, isK_of hk, ok_cut v (by omega)]
 cases fields (ctch3 v) v <;> rfl
theorem bb_eq (v : V) : BB v = (isK 25 v && (fields (ctch3 v) v && v.l.all SS)) := by
 unfold BB
 by_cases h : v.k = 25
 ·rw [ok_cut v (by omega), kids_25 h, all_oks]
  rfl
 ·rw [isK_no h]
  rfl
theorem decl_ok (u : V) : (isK 23 u && u.ok) = declV (fun u => u.l.all EE) u := by
 unfold declV
 by_cases h : u.k = 23
 ·rw [isK_of h, ok_cut u (by omega), kids_23 h]
  show _ = (true && (fields (ctch3 u) u && (decide (u.l.length ≤ 1) && u.l.all EE)))
  rcases u.l with _ | ⟨a, _ | ⟨b, r⟩⟩ <;> simp [are, V.oks, EE]
 ·rw [isK_no h]
  rfl
theorem dd_eq (v : V) : DD v = (isK 22 v && (fields (ctch3 v) v && (!v.l.isEmpty && v.l.all (declV fun u => u.l.all EE)))) := by
 unfold DD
 by_cases h : v.k = 22
 ·rw [ok_cut v (by omega), kids_22 h, Bool.and_assoc, all_oks, funext decl_ok]
 ·rw [isK_no h]
  rfl
theorem ss_1 {v a : V} {k : Int} (hk : v.k = k) (h : k = 24 ∨ k = 34) (hq : kids v = are [isE] v.l) (hl : v.l = [a]) : SS v = (fields (ctch3 v) v && EE a) := by
 rw [SS_k hk (by omega), ok_cut v (by omega), hq, are_1, hl]
 simp
theorem ss_1n {v : V} {k : Int} (hk : v.k = k) (h : k = 24 ∨ k = 34) (hq : kids v = are [isE] v.l) (hl : ¬ v.l.length = 1) : SS v = (fields (ctch3 v) v && false) := by
 rw [SS_k hk (by omega), ok_cut v (by omega), hq, are_1, decide_eq_false hl, Bool.false_and]
theorem ss_33 {v : V} (hk : v.k = 33) : SS v = (fields (ctch3 v) v && (decide (v.l.length ≤ 1) && v.l.all EE)) := by
 rw [SS_k hk (by decide), ok_cut v (by omega), kids_33 hk]
 rcases v.l with _ | ⟨a, _ | ⟨b, r⟩⟩ <;> simp [are, V.oks, EE]
theorem ss_38 {v a : V} (hk : v.k = 38) (hl : v.l = [a]) : SS v = (fields (ctch3 v) v && SS a) := by
 rw [SS_k hk (by decide), ok_cut v (by omega), kids_38 hk, hl]
 simp [are, V.oks, SS]
theorem ss_38n {v : V} (hk : v.k = 38) (hl : ¬ v.l.length = 1) : SS v = (fields (ctch3 v) v && false) := by
 rw [SS_k hk (by decide), ok_cut v (by omega), kids_38 hk]
 rcases h : v.l with _ | ⟨a, _ | ⟨b, r⟩⟩
 ·simp [are]
 ·rw [h] at hl; exact absurd rfl hl
 ·simp [are]
theorem ss_26a {v a b : V} (hk : v.k = 26) (hl : v.l = [a, b]) : SS v = (fields (ctch3 v) v && (EE a && BB b)) := by
 rw [SS_k hk (by decide), ok_cut v (by omega), kids_26 hk, hl]
 simp only [are, V.oks, EE, BB]
 cases isE a <;> cases isK 25 b <;> cases a.ok <;> cases b.ok <;> rfl
theorem ss_26b {v a b c : V} (hk : v.k = 26) (hl : v.l = [a, b, c]) : SS v = (fields (ctch3 v) v && (BB c && (EE a && BB b))) := by
 rw [SS_k hk (by decide), ok_cut v (by omega), kids_26 hk, hl]
 simp only [are, V.oks, EE, BB]
 cases isE a <;> cases isK 25 b <;> cases isK 25 c <;> cases a.ok <;> cases b.ok <;> cases c.ok <;> rfl
theorem ss_26n {v : V} (hk : v.k = 26) (h2 : ¬ v.l.length = 2) (h3 : ¬ v.l.length = 3) : SS v = (fields (ctch3 v) v && false) := by
 rw [SS_k hk (by decide), ok_cut v (by omega), kids_26 hk]
 rcases h : v.l with _ | ⟨a, _ | ⟨b, _ | ⟨c, _ | ⟨d, r⟩⟩⟩⟩
 ·simp [are]
 ·simp [are]
 ·rw [h] at h2; exact absurd rfl h2
 ·rw [h] at h3; exact absurd rfl h3
 ·simp [are]
theorem ss_27 {v a b : V} (hk : v.k = 27) (hl : v.l = [a, b]) : SS v = (fields (ctch3 v) v && (EE a && BB b)) := by
 rw [SS_k hk (by decide), ok_cut v (by omega), kids_27 hk, hl]
 simp only [are, V.oks, EE, BB]
 cases isE a <;> cases isK 25 b <;> cases a.ok <;> cases b.ok <;> rfl
theorem ss_28 {v a b : V} (hk : v.k = 28) (hl : v.l = [a, b]) : SS v = (fields (ctch3 v) v && (BB a && EE b)) := by
 rw [SS_k hk (by decide), ok_cut v (by omega), kids_28 hk, hl]
 simp only [are, V.oks, EE, BB]
 cases isE b <;> cases isK 25 a <;> cases a.ok <;> cases b.ok <;> rfl
theorem ss_27n {v : V} (hk : v.k = 27) (h2 : ¬ v.l.length = 2) : SS v = (fields (ctch3 v) v && false) := by
 rw [SS_k hk (by decide), ok_cut v (by omega), kids_27 hk]
 rcases h : v.l with _ | ⟨a, _ | ⟨b, _ | ⟨c, r⟩⟩⟩
 ·simp [are]
 ·simp [are]
 ·rw [h] at h2; exact absurd rfl h2
 ·simp [are]
theorem ss_28n {v : V} (hk : v.k = 28) (h2 : ¬ v.l.length = 2) : SS v = (fields (ctch3 v) v && false) := by
 rw [SS_k hk (by decide), ok_cut v (by omega), kids_28 hk]
 rcases h : v.l with _ | ⟨a, _ | ⟨b, _ | ⟨c, r⟩⟩⟩
 ·simp [are]
 ·simp [are]
 ·rw [h] at h2; exact absurd rfl h2
 ·simp [are]
theorem or_and (p q o : Bool) : (p && o || q && o) = ((p || q) && o) := by cases p <;> cases q <;> cases o <;> rfl
theorem bg_ok (a : V) : (DD a || (EE a || empV a)) = (isBg a && a.ok) := by
 unfold DD EE isBg isEO
 rw [empV_ok, or_and, or_and]
theorem eo_ok (a : V) : (EE a || empV a) = (isEO a && a.ok) := by
 unfold EE isEO
 rw [empV_ok, or_and]
theorem ss_29 {v a b c d : V} (hk : v.k = 29) (hl : v.l = [a, b, c, d]) : SS v = (fields (ctch3 v) v && ((DD a || (EE a || empV a)) && ((EE b || empV b) && ((EE c || empV c) && BB d)))) := by
 rw [SS_k hk (by decide), ok_cut v (by omega), kids_29 hk, hl, bg_ok, eo_ok, eo_ok]
 simp only [are, V.oks, BB]
 cases isBg a <;> cases isEO b <;> cases isEO c <;> cases isK 25 d <;> cases a.ok <;> cases b.ok <;> cases c.ok <;> cases d.ok <;> rfl
theorem ss_29n {v : V} (hk : v.k = 29) (h2 : ¬ v.l.length = 4) : SS v = (fields (ctch3 v) v && false) := by
 rw [SS_k hk (by decide), ok_cut v (by omega), kids_29 hk]
 rcases h : v.l with _ | ⟨a, _ | ⟨b, _ | ⟨c, _ | ⟨d, _ | ⟨e, r⟩⟩⟩⟩⟩
 ·simp [are]
 ·simp [are]
 ·simp [are]
 ·simp [are]
 ·rw [h] at h2; exact absurd rfl h2
 ·simp [are]
theorem tg_no {a : V} (h : a.k = 22) : isTg a = false := by
 unfold isTg
 rw [decide_eq_false]
 omega
theorem tk_one {a x0 : V} (h : a.k = 22) (hal : a.l = [x0]) : isTk a = x0.l.isEmpty := by
 unfold isTk
 rw [tg_no h, isK_of h, hal]
 rfl
theorem tk_none {a : V} (h : a.k = 22) (hal : ¬ a.l.length = 1) : isTk a = false := by
 unfold isTk
 rw [tg_no h, isK_of h]
 rcases hl : a.l with _ | ⟨x, _ | ⟨y, r⟩⟩
 ·rfl
 ·rw [hl] at hal; exact absurd rfl hal
 ·rfl
theorem tk_no {a : V} (h : ¬ a.k = 22) : isTk a = isTg a := by
 unfold isTk
 rw [isK_no h, Bool.false_and, Bool.or_false]
theorem tg_ee (a : V) : (isTg a && EE a) = (isTg a && a.ok) := by
 unfold EE
 cases h : isTg a
 ·rfl
 ·rw [tg_e h]
  rfl
theorem ss_30a1 {v a b c : V} (hk : v.k = 30) (hl : v.l = [a, b, c]) (ha : a.k = 22) (hal : ¬ a.l.length = 1) : SS v = (fields (ctch3 v) v && (EE b && (BB c && (DD a && false)))) := by
 rw [SS_k hk (by decide), ok_cut v (by omega), kids_30 hk, hl]
 have : isTk a = false := tk_none ha hal
 simp only [are, this]
 simp
theorem ss_30a2 {v a b c x0 : V} (hk : v.k = 30) (hl : v.l = [a, b, c]) (ha : a.k = 22) (hal : a.l = [x0]) : SS v = (fields (ctch3 v) v && (EE b && (BB c && (DD a && ((x0.l.length : Int) == 0))))) := by
 rw [SS_k hk (by decide), ok_cut v (by omega), kids_30 hk, hl]
 have h1 : isTk a = ((x0.l.length : Int) == 0) := by
  rw [tk_one ha hal]
  cases x0.l
  ·rfl
  ·rename_i p r
   show false = _
   symm
   rw [beq_eq_false_iff_ne, List.length_cons]
   omega
 simp only [are, V.oks, h1, EE, BB, DD, isK_of ha]
 cases ((x0.l.length : Int) == 0) <;> cases isE b <;> cases isK 25 c <;> cases a.ok <;> cases b.ok <;> cases c.ok <;> rfl
theorem ss_30b {v a b c : V} (hk : v.k = 30) (hl : v.l = [a, b, c]) (ha : ¬ a.k = 22) : SS v = (fields (ctch3 v) v && (EE b && (BB c && (isTg a && EE a)))) := by
 rw [SS_k hk (by decide), ok_cut v (by omega), kids_30 hk, hl, tg_ee]
 simp only [are, V.oks, tk_no ha, EE, BB]
 cases isTg a <;> cases isE b <;> cases isK 25 c <;> cases a.ok <;> cases b.ok <;> cases c.ok <;> rfl
theorem ss_30n {v : V} (hk : v.k = 30) (h2 : ¬ v.l.length = 3) : SS v = (fields (ctch3 v) v && false) := by
 rw [SS_k hk (by decide), ok_cut v (by omega), kids_30 hk]
 rcases h : v.l with _ | ⟨a, _ | ⟨b, _ | ⟨c, _ | ⟨d, r⟩⟩⟩⟩
 ·simp [are]
 ·simp [are]
 ·simp [are]
 ·rw [h] at h2; exact absurd rfl h2
 ·simp [are]
theorem ss_35 {v a b c : V} (hk : v.k = 35) (hl : v.l = [a, b, c]) : SS v = (fields (ctch3 v) v && (BB a && ((BB b || empV b) && ((BB c || empV c) && !(empV b && empV c))))) := by
 have hc : ctch3 v = ctch v := by
  unfold ctch3
  rw [hl]
  rfl
 rw [SS_k hk (by decide), ok_eq]
 unfold right
 rw [hc, Bool.and_assoc, kids_35 hk, hl, empV_ok, empV_ok]
 have hb := isK_two (v := b) (j := 25) (k := 42) (by decide)
 have hc' := isK_two (v := c) (j := 25) (k := 42) (by decide)
 simp only [are, V.oks, BB, isBO]
 revert hb hc'
 cases isK 25 b <;> cases isK 42 b <;> cases isK 25 c <;> cases isK 42 c <;> cases isK 25 a <;> cases a.ok <;> cases b.ok <;> cases c.ok <;> intro hb hc' <;> first | rfl | exact absurd hb (by decide) | exact absurd hc' (by decide)
theorem ss_35n {v : V} (hk : v.k = 35) (h2 : ¬ v.l.length = 3) : SS v = (fields (ctch3 v) v && false) := by
 rw [SS_k hk (by decide), ok_eq]
 unfold right
 rw [kids_35 hk, Bool.and_false]
 rcases h : v.l with _ | ⟨a, _ | ⟨b, _ | ⟨c, _ | ⟨d, r⟩⟩⟩⟩
 ·simp [are]
 ·simp [are]
 ·simp [are]
 ·rw [h] at h2; exact absurd rfl h2
 ·simp [are]
theorem case_ok (u : V) : (isK 37 u && u.ok) = caseV EE (fun u => u.l.tail.all SS) u := by
 unfold caseV
 by_cases h : u.k = 37
 ·rw [isK_of h, ok_cut u (by omega), kids_37 h]
  unfold hdV
  show _ = (true && (fields (ctch3 u) u && ((match u.l with | x :: _ => empV x || EE x | [] => false) && u.l.tail.all SS)))
  rcases u.l with _ | ⟨a, r⟩
  ·rfl
  ·simp only [V.oks, List.tail_cons]
   have hS : (r.all SS) = (r.all isIn && V.oks r) := (all_oks isIn r).symm
   have hE : (empV a || EE a) = (isEO a && a.ok) := by rw [← eo_ok, Bool.or_comm]
   rw [hS, hE]
   cases isEO a <;> cases a.ok <;> cases r.all isIn <;> cases V.oks r <;> rfl
 ·rw [isK_no h]
  rfl
theorem df_ok {u : V} (h : (isK 37 u && u.ok) = true) : dfV u = isDf u := by
 rw [Bool.and_eq_true] at h
 have h2 := h.2
 rw [ok_eq, Bool.and_eq_true] at h2
 unfold dfV isDf
 rcases hl : u.l with _ | ⟨a, r⟩
 ·rfl
 ·rw [hl, V.oks, Bool.and_eq_true] at h2
  simp only
  rw [empV_ok, h2.2.1, Bool.and_true]
theorem count_ok : ∀ r : List V, (r.all fun u => isK 37 u && u.ok) = true → r.countP dfV = r.countP isDf
 | [], _ => rfl
 | a :: r, h => by
  rw [List.all_cons, Bool.and_eq_true] at h
  rw [List.countP_cons, List.countP_cons, count_ok r h.2, df_ok h.1]
theorem ss_36 {v a : V} {r : List V} (hk : v.k = 36) (hl : v.l = a :: r) : SS v = (fields (ctch3 v) v && (EE a && (r.all (caseV EE fun u => u.l.tail.all SS) && decide (r.countP dfV ≤ 1)))) := by
 rw [SS_k hk (by decide), ok_cut v (by omega), kids_36 hk, hl]
 simp only [V.oks, EE]
 rw [← funext case_ok]
 cases hq : r.all fun u => isK 37 u && u.ok
 ·rw [← all_oks] at hq
  revert hq
  cases r.all (isK 37) <;> cases V.oks r <;> cases isE a <;> cases a.ok <;> cases decide (r.countP isDf ≤ 1) <;> intro hq <;> first | rfl | cases hq
 ·rw [count_ok r hq]
  rw [← all_oks] at hq
  rw [Bool.and_eq_true] at hq
  rw [hq.1, hq.2]
  cases isE a <;> cases a.ok <;> cases decide (r.countP isDf ≤ 1) <;> rfl
theorem ss_36n {v : V} (hk : v.k = 36) (hl : v.l = []) : SS v = (fields (ctch3 v) v && false) := by
 rw [SS_k hk (by decide), ok_cut v (by omega), kids_36 hk, hl, Bool.false_and]
theorem ff_39 {v : V} (hk : v.k = 39) : FF v = (true && (fields (ctch3 v) v && v.l.all FF)) := by
 rw [FF_39 hk, ok_cut v (by omega), kids_39 hk, all_oks]
 rfl
structure Told (v : V) : Prop where
 ex : Tells 74 v (EE v)
 st : Tells 42 v (SS v)
 bl : Tells 75 v (BB v)
 de : Tells 73 v (DD v)
 tl : TellsL v (v.l.all FF)
theorem len_bulk {v : V} (hb : v.bulk ≤ 4194304) : v.l.length ≤ 4194304 := by have := length_le_bulks v.l; have := bulk_ge v; omega
theorem kid_bulk {u v : V} (hu : u ∈ v.l) (hb : v.bulk ≤ 4194304) : u.bulk ≤ 4194304 := by have := bulk_le_of_mem hu; have := bulk_ge v; omega
theorem tx_of {v : V} (hb : v.bulk ≤ 4194304) (H : ∀ u ∈ v.l, Tells 74 u (EE u)) : TellsX v (v.l.all EE) := fun A c w hr => refExprs_of EE v.l A c w hr (len_bulk hb) H
theorem tf_of {v : V} (hb : v.bulk ≤ 4194304) (H : ∀ u ∈ v.l, Told u) : TellsF v (v.l.all SS) := fun A c w hr =>
 refStmts_of false (fun u => u.l.all FF) SS SS v.l A c w hr (len_bulk hb) (fun _ hu => kid_bulk hu hb) (fun u hu _ => (H u hu).tl) (fun u hu _ => (H u hu).st)
  (fun _ _ h => by rw [SS_no (by omega)]; rfl) (fun _ _ _ => rfl)
theorem tl_of {v : V} (hb : v.bulk ≤ 4194304) (H : ∀ u ∈ v.l, Told u) : TellsL v (v.l.all FF) := fun A c w hr =>
 refStmts_of true (fun u => u.l.all FF) SS FF v.l A c w hr (len_bulk hb) (fun _ hu => kid_bulk hu hb) (fun u hu _ => (H u hu).tl) (fun u hu _ => (H u hu).st)
  (fun _ _ h => ff_39 h) (fun _ _ h => FF_SS h)
theorem tt_of {v : V} (hb : v.bulk ≤ 4194304) (H : ∀ u ∈ v.l, Told u) : TellsT v (v.l.tail.all SS) := fun A c w hr => by
 have hl := List.length_tail (l := v.l)
 rw [← hl]
 exact refStmts_of false (fun u => u.l.all FF) SS SS v.l.tail A c w hr (by have := len_bulk hb; omega) (fun _ hu => kid_bulk (List.mem_of_mem_tail hu) hb) (fun u hu _ => (H u (List.mem_of_mem_tail hu)).tl) (fun u hu _ => (H u (List.mem_of_mem_tail hu)).st)
  (fun _ _ h => by rw [SS_no (by omega)]; rfl) (fun _ _ _ => rfl)
theorem tc_of {v : V} (hb : v.bulk ≤ 4194304) (H : ∀ u ∈ v.l, ∀ x ∈ u.l, Told x) : TellsC v (v.l.tail.all (caseV EE fun u => u.l.tail.all SS) && decide (v.l.tail.countP dfV ≤ 1)) := fun A c w hr => by
 have hl := List.length_tail (l := v.l)
 rw [← hl]
 exact refCases_of EE (fun u => u.l.tail.all SS) v.l.tail A c w hr (by have := len_bulk hb; omega) (fun _ hu => kid_bulk (List.mem_of_mem_tail hu) hb)
  (fun u hu x hx => (H u (List.mem_of_mem_tail hu) x hx).ex) (fun u hu => tt_of (kid_bulk (List.mem_of_mem_tail hu) hb) (H u (List.mem_of_mem_tail hu)))
theorem cut1 {l : List V} (h : l.length = 1) : ∃ a, l = [a] := by
 rcases l with _ | ⟨a, _ | ⟨b, r⟩⟩
 ·cases h
 ·exact ⟨a, rfl⟩
 ·simp at h
theorem cut2 {l : List V} (h : l.length = 2) : ∃ a b, l = [a, b] := by
 rcases l with _ | ⟨a, _ | ⟨b, _ | ⟨c, r⟩⟩⟩
 ·cases h
 ·simp at h
 ·exact ⟨a, b, rfl⟩
 ·simp at h
theorem cut3 {l : List V} (h : l.length = 3) : ∃ a b c, l = [a, b, c] := by
 rcases l with _ | ⟨a, _ | ⟨b, _ | ⟨c, _ | ⟨d, r⟩⟩⟩⟩
 ·cases h
 ·simp at h
 ·simp at h
 ·exact ⟨a, b, c, rfl⟩
 ·simp at h
theorem cut4 {l : List V} (h : l.length = 4) : ∃ a b c d, l = [a, b, c, d] := by
 rcases l with _ | ⟨a, _ | ⟨b, _ | ⟨c, _ | ⟨d, _ | ⟨e, r⟩⟩⟩⟩⟩
 ·cases h
 ·simp at h
 ·simp at h
 ·simp at h
 ·exact ⟨a, b, c, d, rfl⟩
 ·simp at h
theorem rex_of (v : V) (hb : v.bulk ≤ 4194304) (H : ∀ u ∈ v.l, Told u) (HG : ∀ u ∈ v.l, ∀ x ∈ u.l, Told x) : Tells 74 v (EE v) := by
 have TX : TellsX v (v.l.all EE) := tx_of hb fun u hu => (H u hu).ex
 by_cases h : 1 ≤ v.k ∧ v.k ≤ 21 ∧ ¬ v.k = 9
 ·obtain ⟨k, hk⟩ : ∃ k, v.k = k := ⟨_, rfl⟩
  rw [hk] at h
  have hc : k = 1 ∨ k = 2 ∨ k = 3 ∨ k = 4 ∨ k = 5 ∨ k = 6 ∨ k = 7 ∨ k = 8 ∨ k = 10 ∨ k = 11 ∨ k = 12 ∨ k = 13 ∨ k = 14 ∨ k = 15 ∨ k = 16 ∨ k = 17 ∨ k = 18 ∨ k = 19 ∨ k = 20 ∨ k = 21 := by omega
  clear h
  rcases hc with rfl | rfl | rfl | rfl | rfl | rfl | rfl | rfl | rfl | rfl | rfl | rfl | rfl | rfl | rfl | rfl | rfl | rfl | rfl | rfl
  ·rw [ee_leaf hk (by decide) (kids_1 hk)]; exact expr_1 v hb hk
  ·rw [ee_leaf hk (by decide) (kids_2 hk)]; exact expr_2 v hb hk
  ·rw [ee_leaf hk (by decide) (kids_3 hk)]; exact expr_3 v hb hk
  ·rw [ee_leaf hk (by decide) (kids_4 hk)]; exact expr_4 v hb hk
  ·rw [ee_leaf hk (by decide) (kids_5 hk)]; exact expr_5 v hb hk
  ·rw [ee_leaf hk (by decide) (kids_6 hk)]; exact expr_6 v hb hk
  ·rw [ee_7 hk]; exact expr_7 v hb hk _ TX
  ·rw [ee_8 hk]; exact expr_8 v EE hb hk fun u hu x hx => (HG u hu x hx).ex
  ·rw [ee_10 hk]; exact expr_10 v hb hk _ (tl_of hb H)
  ·rw [ee_1 hk (by decide) (kids_11 hk)]; exact expr_11 v hb hk _ TX
  ·rw [ee_2 hk (by decide) (kids_12 hk)]; exact expr_12 v hb hk _ TX
  ·rw [ee_some hk (by decide) (kids_13 hk)]; exact expr_13 v hb hk _ TX
  ·rw [ee_some hk (by decide) (kids_14 hk)]; exact expr_14 v hb hk _ TX
  ·rw [ee_1 hk (by decide) (kids_15 hk)]; exact expr_15 v hb hk _ TX
  ·by_cases hl : v.l.length = 1
   ·rw [ee_16 hk hl]; exact expr_16 v hb hk hl _ TX
   ·rw [ee_16n hk hl]; exact expr_16n v hb hk hl
  ·rw [ee_2 hk (by decide) (kids_17 hk)]; exact expr_17 v hb hk _ TX
  ·rw [ee_2 hk (by decide) (kids_18 hk)]; exact expr_18 v hb hk _ TX
  ·rw [ee_3 hk (by decide) (kids_19 hk)]; exact expr_19 v hb hk _ TX
  ·by_cases hl : v.l.length = 2
   ·rw [ee_20 hk hl]; exact expr_20 v hb hk hl _ TX
   ·rw [ee_20n hk hl]; exact expr_20n v hb hk hl
  ·rw [ee_2 hk (by decide) (kids_21 hk)]; exact expr_21 v hb hk _ TX
 ·rw [EE_no h]
  exact rexpr_other v hb fun m hm => by
   intro e
   simp only [List.mem_cons, List.not_mem_nil, or_false] at hm
   omega
theorem bl_of (v : V) (hb : v.bulk ≤ 4194304) (H : ∀ u ∈ v.l, Told u) : Tells 75 v (BB v) := by
 rw [bb_eq]
 exact refBlock_of v _ hb fun _ => tf_of hb H
theorem de_of (v : V) (hb : v.bulk ≤ 4194304) (HG : ∀ u ∈ v.l, ∀ x ∈ u.l, Told x) : Tells 73 v (DD v) := by
 rw [dd_eq]
 exact refDecls_of v _ hb fun u hu => tx_of (kid_bulk hu hb) fun x hx => (HG u hu x hx).ex
theorem rst_of (v : V) (hb : v.bulk ≤ 4194304) (H : ∀ u ∈ v.l, Told u) (HG : ∀ u ∈ v.l, ∀ x ∈ u.l, Told x) : Tells 42 v (SS v) := by
 have TX : TellsX v (v.l.all EE) := tx_of hb fun u hu => (H u hu).ex
 have EM : ∀ u ∈ v.l, Tells 78 u (empV u) := fun u hu => refEmpty_any u (kid_bulk hu hb)
 by_cases h : 22 ≤ v.k ∧ v.k ≤ 40 ∧ ¬ v.k = 23 ∧ ¬ v.k = 37 ∧ ¬ v.k = 39
 ·obtain ⟨k, hk⟩ : ∃ k, v.k = k := ⟨_, rfl⟩
  rw [hk] at h
  have hc : k = 22 ∨ k = 24 ∨ k = 25 ∨ k = 26 ∨ k = 27 ∨ k = 28 ∨ k = 29 ∨ k = 30 ∨ k = 31 ∨ k = 32 ∨ k = 33 ∨ k = 34 ∨ k = 35 ∨ k = 36 ∨ k = 38 ∨ k = 40 := by omega
  clear h
  rcases hc with rfl | rfl | rfl | rfl | rfl | rfl | rfl | rfl | rfl | rfl | rfl | rfl | rfl | rfl | rfl | rfl
  ·rw [ss_same hk (by decide) (by decide)]; exact rst_22 v hb hk _ (de_of v hb HG)
  ·by_cases hl : v.l.length = 1
   ·obtain ⟨a, hl⟩ := cut1 hl
    rw [ss_1 hk (by decide) (kids_24 hk) hl]; exact rst_24 v a _ hb hk hl (H a (by rw [hl]; simp)).ex
   ·rw [ss_1n hk (by decide) (kids_24 hk) hl]; exact rst_24n v hb hk hl
  ·rw [ss_same hk (by decide) (by decide)]; exact rst_25 v hb hk _ (bl_of v hb H)
  ·by_cases hl : v.l.length = 2
   ·obtain ⟨a, b, hl⟩ := cut2 hl
    rw [ss_26a hk hl]; exact rst_26a v a b _ _ hb hk hl (H a (by rw [hl]; simp)).ex (H b (by rw [hl]; simp)).bl
   ·by_cases hl3 : v.l.length = 3
    ·obtain ⟨a, b, c, hl⟩ := cut3 hl3
     rw [ss_26b hk hl]; exact rst_26b v a b c _ _ _ hb hk hl (H a (by rw [hl]; simp)).ex (H b (by rw [hl]; simp)).bl (H c (by rw [hl]; simp)).bl
    ·rw [ss_26n hk hl hl3]; exact rst_26n v hb hk hl hl3
  ·by_cases hl : v.l.length = 2
   ·obtain ⟨a, b, hl⟩ := cut2 hl
    rw [ss_27 hk hl]; exact rst_27 v hb hk _ (loop_27 v a b _ _ hk hl (H a (by rw [hl]; simp)).ex (H b (by rw [hl]; simp)).bl)
   ·rw [ss_27n hk hl]; exact rst_27 v hb hk _ (loop_27n v hk hl)
  ·by_cases hl : v.l.length = 2
   ·obtain ⟨a, b, hl⟩ := cut2 hl
    rw [ss_28 hk hl]; exact rst_28 v hb hk _ (loop_28 v a b _ _ hk hl (H a (by rw [hl]; simp)).bl (H b (by rw [hl]; simp)).ex)
   ·rw [ss_28n hk hl]; exact rst_28 v hb hk _ (loop_28n v hk hl)
  ·by_cases hl : v.l.length = 4
   ·obtain ⟨a, b, c, d, hl⟩ := cut4 hl
    rw [ss_29 hk hl]
    exact rst_29 v hb hk _ (loop_29 v a b c d _ _ _ _ _ _ _ _ hk hl (H a (by rw [hl]; simp)).de (H a (by rw [hl]; simp)).ex (EM a (by rw [hl]; simp)) (H b (by rw [hl]; simp)).ex (EM b (by rw [hl]; simp)) (H c (by rw [hl]; simp)).ex (EM c (by rw [hl]; simp)) (H d (by rw [hl]; simp)).bl)
   ·rw [ss_29n hk hl]; exact rst_29 v hb hk _ (loop_29n v hk hl)
  ·by_cases hl : v.l.length = 3
   ·obtain ⟨a, b, c, hl⟩ := cut3 hl
    have Ha := H a (by rw [hl]; simp)
    have Hb := H b (by rw [hl]; simp)
    have Hc := H c (by rw [hl]; simp)
    by_cases ha : a.k = 22
    ·by_cases hal : a.l.length = 1
     ·obtain ⟨x0, hal⟩ := cut1 hal
      rw [ss_30a2 hk hl ha hal]; exact rst_30 v hb hk _ (loop_30a2 v a b c x0 _ _ _ hk ha hal hl Hb.ex Hc.bl Ha.de)
     ·rw [ss_30a1 hk hl ha hal]; exact rst_30 v hb hk _ (loop_30a1 v a b c _ _ _ hk ha hal hl Hb.ex Hc.bl Ha.de)
    ·rw [ss_30b hk hl ha]; exact rst_30 v hb hk _ (loop_30b v a b c _ _ _ _ hk ha hl Hb.ex Hc.bl (fun x w hx => refIsTarget_any a x w hx) Ha.ex)
   ·rw [ss_30n hk hl]; exact rst_30 v hb hk _ (loop_30n v hk hl)
  ·rw [ss_leaf hk (by decide) (by decide) (kids_31 hk)]; exact rst_31 v hb hk
  ·rw [ss_leaf hk (by decide) (by decide) (kids_32 hk)]; exact rst_32 v hb hk
  ·rw [ss_33 hk]; exact rst_33 v hb hk _ TX
  ·by_cases hl : v.l.length = 1
   ·obtain ⟨a, hl⟩ := cut1 hl
    rw [ss_1 hk (by decide) (kids_34 hk) hl]; exact rst_34 v a _ hb hk hl (H a (by rw [hl]; simp)).ex
   ·rw [ss_1n hk (by decide) (kids_34 hk) hl]; exact rst_34n v hb hk hl
  ·by_cases hl : v.l.length = 3
   ·obtain ⟨a, b, c, hl⟩ := cut3 hl
    rw [ss_35 hk hl]
    exact rst_35 v a b c _ _ _ _ _ hb hk hl (H a (by rw [hl]; simp)).bl (H b (by rw [hl]; simp)).bl (EM b (by rw [hl]; simp)) (H c (by rw [hl]; simp)).bl (EM c (by rw [hl]; simp))
   ·rw [ss_35n hk hl]; exact rst_35n v hb hk hl
  ·rcases hl : v.l with _ | ⟨a, r⟩
   ·rw [ss_36n hk hl]; exact rst_36n v hb hk hl
   ·have hC := tc_of hb HG
    rw [hl, List.tail_cons] at hC
    rw [ss_36 hk hl]; exact rst_36 v a r _ _ hb hk hl (H a (by rw [hl]; simp)).ex hC
  ·by_cases hl : v.l.length = 1
   ·obtain ⟨a, hl⟩ := cut1 hl
    rw [ss_38 hk hl]; exact rst_38 v a _ hb hk hl (H a (by rw [hl]; simp)).st
   ·rw [ss_38n hk hl]; exact rst_38n v hb hk hl
  ·rw [ss_leaf hk (by decide) (by decide) (kids_40 hk)]; exact rst_40 v hb hk
 ·rw [SS_no h]
  exact rstmt_other v hb fun m hm => by
   intro e
   simp only [List.mem_cons, List.not_mem_nil, or_false] at hm
   omega
theorem told_any : ∀ (n : Nat) (v : V), v.size ≤ n → v.bulk ≤ 4194304 → Told v
 | 0, v, h, _ => by have := size_pos v; omega
 | n + 1, v, h, hb => by
  have H : ∀ u ∈ v.l, Told u := fun u hu => told_any n u (by have := size_kid hu; omega) (kid_bulk hu hb)
  have HG : ∀ u ∈ v.l, ∀ x ∈ u.l, Told x := fun u hu x hx => told_any n x (by have := size_kid hu; have := size_kid hx; omega) (kid_bulk hx (kid_bulk hu hb))
  exact ⟨rex_of v hb H HG, rst_of v hb H HG, bl_of v hb H, de_of v hb HG, tl_of hb H⟩
theorem chk_eq (v : V) : v.chk = (if v.k = 41 ∧ (fields (ctch3 v) v && v.l.all FF) = true then (if 64 < v.deep then 31 else 0) else 70) := by
 unfold V.chk
 by_cases h : v.k = 41
 ·have e : (fields (ctch3 v) v && v.l.all FF) = v.ok := by
   rw [ok_cut v (by omega), kids_41 h, all_oks]
   rfl
  rw [e]
 ·rw [if_neg (fun e => h e.1), if_neg (fun e => h e.1)]
theorem refCheck_any (v : V) (x : X) (w : World) (hx : Is w v x) (hb : v.bulk ≤ 4194304) :
  Calls Tryz.prog 12 #[x.v] w fun e w' => e = .returned (.int .i64 v.chk) ∧ Below w.heap.size w w' := by
 have HC := hid (chk_eq v)
 have HO := owA hx hb
 have HD := hid fun w' (h2 : Below w.heap.size w w') => refDeep_any v x w' (Is.below h2 _ _ hx) hb
 have hdb : (v.deep : Int) ≤ 4194304 := by have := deep_le_size v; have := size_le_bulk v; omega
 obtain ⟨xka, xkc, xla, xlc, rfl, -, -, -, hrow⟩ := hx.open
 have HT := hid fun w' (h2 : Below w.heap.size w w') => (told_any v.size v (Nat.le_refl _) hb).tl xla xlc w' (RowB.below hrow h2)
 obtain ⟨W0, hW0, HB0, HF⟩ := boxA w v xka xkc xla xlc
 have HBX := hid (below_alloc w)
 have HW0 := hid hW0
 have HDP : Hid (decide ((64 : Int) < (v.deep : Int)) = decide (64 < v.deep)) := by
  show _ = _
  rw [Bool.eq_iff_iff, decide_eq_true_eq, decide_eq_true_eq]
  omega
 simp only [X.v] at HO HD ⊢
 clear hx hb hW0 hrow
 generalize v.chk = ch at *
 generalize fields (ctch3 v) v = bo at *
 generalize v.l.all FF = bs at *
 generalize v.nm = nm, v.n = n, v.s = s, v.ks.length = kn, v.l.length = ln, v.deep = dp, v.k = k at *
 by_cases hk : k = 41
 rotate_left
 ·have hq : (k == 41) = false := by rw [beq_eq_false_iff_ne]; exact hk
  have hq2 : (k != 41) = true := bne_iff_ne.2 hk
  have HR : Hid (ch = 70) := by
   show _ = _
   rw [HC.out, if_neg (fun e => hk e.1)]
  clear hk HC
  go_enter Tryz.func12, Tryz.ntmps12
  go_wp2_with fail
  go_ret
  exact ⟨by rw [HR.out]; rfl, HBX.out _⟩
 subst hk
 go_enter Tryz.func12, Tryz.ntmps12
 go_wp2_with fail
 rw [HW0.out]
 clear HW0
 refine (HO.out _ HB0.out).mono ?_
 rintro e w1 ⟨rfl, hb1⟩
 have HC1 := hid hb1
 have HB1 := hid (HB0.out.trans (hb1.mono HB0.out.size))
 obtain ⟨c0, c1, c2, c3, c4, c5⟩ := (HF.out _ hb1).six
 clear hb1
 cases bo
 ·have HR : Hid (ch = 70) := by
   show _ = _
   rw [HC.out, if_neg (fun e => by have := e.2; simp at this)]
  clear HC
  go_wp2_with fail
  go_ret
  exact ⟨by rw [HR.out]; rfl, HB1.out⟩
 go_wp2_with fail
 refine (HT.out _ HB1.out).mono ?_
 rintro e w2 ⟨rfl, hb2⟩
 have HC2 := hid (HC1.out.trans (hb2.mono HC1.out.size))
 have HB2 := hid (HB0.out.trans (HC2.out.mono HB0.out.size))
 clear hb2 c0 c1 c2 c3 c4 c5
 obtain ⟨c0, c1, c2, c3, c4, c5⟩ := (HF.out _ HC2.out).six
 cases bs
 ·have HR : Hid (ch = 70) := by
   show _ = _
   rw [HC.out, if_neg (fun e => by have := e.2; simp at this)]
  clear HC
  go_wp2_with fail
  go_ret
  exact ⟨by rw [HR.out]; rfl, HB2.out⟩
 have HR : Hid (ch = if 64 < dp then 31 else 0) := by
  show _ = _
  rw [HC.out]
  exact if_pos (by simp)
 clear HC
 go_wp2_with fail
 refine (HD.out _ HB2.out).mono ?_
 rintro e w3 ⟨rfl, hb3⟩
 have HB3 := hid (HB2.out.trans (hb3.mono HB2.out.size))
 clear hb3 c0 c1 c2 c3 c4 c5
 by_cases hd : 64 < dp
 ·have hdi : (64 : Int) < (dp : Int) := by omega
  have HR2 : Hid (ch = 31) := by
   show _ = _
   rw [HR.out, if_pos hd]
  clear HR hd
  go_wp2_with fail
  go_ret
  exact ⟨by rw [HR2.out]; rfl, HB3.out⟩
 ·have hdi : (dp : Int) ≤ 64 := by omega
  have HR2 : Hid (ch = 0) := by
   show _ = _
   rw [HR.out, if_neg hd]
  clear HR hd
  go_wp2_with fail
  go_ret
  exact ⟨by rw [HR2.out]; rfl, HB3.out⟩
end Go.Proofs.YtllpgoaanbiodaaGreatDoor.R
