/-

-/
import Derived.Test.YtllpgoaanbiodaaGreatDoorMQ0
import Derived.Test.YtllpgoaanbiodaaGreatDoorMUA
import Derived.Deep.Draws
set_option maxHeartbeats 1000000
set_option maxRecDepth 8000
namespace Go.Proofs.YtllpgoaanbiodaaGreatDoor.R
open Go.RowKit Go.Proofs.YtllpgoaanbiodaaGreatDoor Go.Proofs.YtllpgoaanbiodaaGreatDoor.T
theorem str_ne {a b : ByteArray} (h : ¬ a = b) : (a.toList == b.toList) = false := by
 rw [beq_eq_false_iff_ne]
 intro e
 rw [ByteArray.toList_eq, ByteArray.toList_eq] at e
 exact h (ByteArray.ext (Array.toList_inj.1 e))
theorem list_ne {α : Type} {l m : List α} (hl : l.length = m.length) (h : ∀ i, (h1 : i < l.length) → (h2 : i < m.length) → l[i] = m[i]) : l = m := List.ext_getElem hl fun i h1 h2 => h i h1 h2
theorem equal_any (A B : Option Addr) (ks ms : List ByteArray) (c d : Nat) (w : World) (h : Strs w A ks) (h' : Strs w B ms) (hb : ks.length ≤ 4194304) :
  Calls Tryz.prog 43 #[.slice A ks.length c, .slice B ms.length d] w fun e w' => e = .returned (.bool (decide (ks = ms))) ∧ Below w.heap.size w w' := by
 by_cases hl : ks.length = ms.length
 ·have HL := Lib.hid hl
  rw [← hl]
  have HN : Hid (∀ i, (h1 : i < ks.length) → (h2 : i < ms.length) → ¬ ks[i] = ms[i] → decide (ks = ms) = false) := fun i h1 h2 hne => decide_eq_false fun e => hne (by subst e; rfl)
  have HY : Hid ((∀ i, (h1 : i < ks.length) → (h2 : i < ms.length) → ks[i] = ms[i]) → decide (ks = ms) = true) := fun hh => decide_eq_true (list_ne hl hh)
  clear hl
  go_enter Tryz.func43, Tryz.ntmps43
  go_wp2_with fail
  go_loopw [13] (fun i wr => ∃ j : Nat, j ≤ ks.length ∧ i = .int .i64 j ∧ Hid (∀ i, i < j → (h1 : i < ks.length) → (h2 : i < ms.length) → ks[i] = ms[i]) ∧ Below w.heap.size w wr)
   (fun i _ => ks.length - (intOf i).toNat)
  case atStart => exact ⟨0, Nat.zero_le _, rfl, fun i hi => by omega, Below.refl _ _⟩
  case round =>
   obtain ⟨j, hj, rfl, hh, hbw⟩ := hrel
   by_cases hlt : j < ks.length
   ·have hlt2 : j < ms.length := by have := HL.out; omega
    obtain ⟨g, o, rfl, hg, hc⟩ := h.at_ hlt
    obtain ⟨g2, o2, rfl, hg2, hc2⟩ := h'.at_ hlt2
    have hcx := (hbw.cell (p := ⟨g, o + j, none⟩) hg).trans hc
    have hcy := (hbw.cell (p := ⟨g2, o2 + j, none⟩) hg2).trans hc2
    have HNj := Lib.hid (HN.out j hlt hlt2)
    have HS : Hid (ks[j] = ms[j] → ∀ i, i < j + 1 → (h1 : i < ks.length) → (h2 : i < ms.length) → ks[i] = ms[i]) := fun e i hi h1 h2 => by
     rcases Nat.lt_succ_iff_lt_or_eq.1 hi with hi | rfl
     ·exact hh.out i hi h1 h2
     ·exact e
    have hj0 : (0 : Int) ≤ (j : Int) := by omega
    have hj1 : (j : Int) < (ks.length : Int) := by omega
    generalize ks[j] = y at *
    generalize ms[j] = z at *
    clear hc hc2
    by_cases hyz : y = z
    ·subst hyz
     have HS' := Lib.hid (HS.out rfl)
     clear HS HNj
     go_wp2_with fail
     go_quiet (fail)
     go_wp2_with fail
     go_roundw
     case rel => exact ⟨j + 1, by omega, by go_num, HS'.out, hbw.trans (below_drewN _ _ _)⟩
     case measure => simp [intOf]; omega
    ·have hne := str_ne hyz
     have HV := Lib.hid (HNj.out hyz)
     clear HS HNj hyz
     go_wp2_with fail
     go_quiet (fail)
     go_wp2_with fail
     go_ret
     exact ⟨by rw [HV.out]; rfl, hbw.trans (below_drewN _ _ _)⟩
   ·obtain rfl : j = ks.length := by omega
    have HV := Lib.hid (HY.out fun i h1 h2 => hh.out i h1 h1 h2)
    go_wp2_with fail
    go_ret
    exact ⟨by rw [HV.out]; rfl, hbw⟩
 ·have HV : Hid (decide (ks = ms) = false) := decide_eq_false fun e => hl (by rw [e])
  have hl2 : ((ks.length : Int) != (ms.length : Int)) = true := by simp; omega
  have hl' : ((ks.length : Int) == (ms.length : Int)) = false := by rw [beq_eq_false_iff_ne]; omega
  generalize ks.length = kn at *
  generalize ms.length = mn at *
  go_enter Tryz.func43, Tryz.ntmps43
  go_wp2_with fail
  go_ret
  exact ⟨by rw [HV.out]; rfl, Below.refl _ _⟩
def alk (u v : V) : Bool := decide (u.k = v.k ∧ u.nm = v.nm ∧ u.n = v.n ∧ u.s = v.s ∧ u.ks = v.ks)
theorem two_below (w : World) (a b : Obj) : Below w.heap.size w ((w.alloc a).alloc b) := (below_alloc w _).alloc (by simp) _
theorem alike_any (u v : V) (x y : X) (w : World) (h : Is w u x) (h' : Is w v y) (hb : u.ks.length ≤ 4194304) :
  Calls Tryz.prog 31 #[x.v, y.v] w fun e w' => e = .returned (.bool (alk u v)) ∧ Below w.heap.size w w' := by
 obtain ⟨ka, kc, la, lc, rfl, h1, h2, h3, h4⟩ := h.open
 obtain ⟨ka', kc', la', lc', rfl, h1', h2', h3', h4'⟩ := h'.open
 have HE := Lib.hid fun w' (hb2 : Below w.heap.size w w') => equal_any ka ka' u.ks v.ks kc kc' w' (h3.below hb2) (h3'.below hb2) hb
 obtain ⟨r, hr⟩ : ∃ r, alk u v = r := ⟨_, rfl⟩
 rw [hr]
 unfold alk at hr
 have HR := Lib.hid hr
 obtain ⟨E, hE⟩ : ∃ E : Bool, decide (u.ks = v.ks) = E := ⟨_, rfl⟩
 have HEE := Lib.hid hE
 rw [hE] at HE
 simp only [X.v] at *
 have HZ := Lib.hid (two_below w)
 clear h h' h1 h2 h3 h4 h1' h2' h3' h4' hb hr hE
 generalize u.ks.length = kn at *
 generalize v.ks.length = kn' at *
 generalize u.l.length = ln at *
 generalize v.l.length = ln' at *
 generalize u.ks = uks at *
 generalize v.ks = vks at *
 generalize u.k = uk at *
 generalize v.k = vk at *
 generalize u.nm = unm at *
 generalize v.nm = vnm at *
 generalize u.n = un at *
 generalize v.n = vn at *
 generalize u.s = us at *
 generalize v.s = vs at *
 by_cases hk : uk = vk
 ·subst hk
  by_cases hnm : unm = vnm
  ·subst hnm
   by_cases hn : un = vn
   ·subst hn
    by_cases hs : us = vs
    ·subst hs
     have HV : Hid (r = E) := by
      show r = E
      rw [← HR.out, ← HEE.out]
      simp
     go_enter Tryz.func31, Tryz.ntmps31
     go_wp2_with fail
     refine (HE.out _ (HZ.out _ _)).mono ?_
     rintro e w1 ⟨rfl, hb1⟩
     have hb2 := Lib.hid ((HZ.out (.cells #[.int .i64 uk, .string unm, .int .i64 un, .string us, .slice ka kn kc, .slice la ln lc] 25) (.cells #[.int .i64 uk, .string unm, .int .i64 un, .string us, .slice ka' kn' kc', .slice la' ln' lc'] 25)).trans (hb1.mono (HZ.out (.cells #[.int .i64 uk, .string unm, .int .i64 un, .string us, .slice ka kn kc, .slice la ln lc] 25) (.cells #[.int .i64 uk, .string unm, .int .i64 un, .string us, .slice ka' kn' kc', .slice la' ln' lc'] 25)).size))
     clear hb1
     cases E
     all_goals
      go_wp2_with fail
      go_ret
      exact ⟨by rw [HV.out]; rfl, hb2.out⟩
    ·have hs' := str_ne hs
     have HV : Hid (r = false) := by
      show r = false
      rw [← HR.out]
      exact decide_eq_false fun h => hs h.2.2.2.1
     clear hs
     go_enter Tryz.func31, Tryz.ntmps31
     go_wp2_with fail
     go_ret
     exact ⟨by rw [HV.out]; rfl, HZ.out _ _⟩
   ·have hn' : (un == vn) = false := by rw [beq_eq_false_iff_ne]; exact hn
    have HV : Hid (r = false) := by
     show r = false
     rw [← HR.out]
     exact decide_eq_false fun h => hn h.2.2.1
    clear hn
    go_enter Tryz.func31, Tryz.ntmps31
    go_wp2_with fail
    go_ret
    exact ⟨by rw [HV.out]; rfl, HZ.out _ _⟩
  ·have hs' := str_ne hnm
   have HV : Hid (r = false) := by
    show r = false
    rw [← HR.out]
    exact decide_eq_false fun h => hnm h.2.1
   clear hnm
   go_enter Tryz.func31, Tryz.ntmps31
   go_wp2_with fail
   go_ret
   exact ⟨by rw [HV.out]; rfl, HZ.out _ _⟩
 ·have hk' : (uk == vk) = false := by rw [beq_eq_false_iff_ne]; exact hk
  have HV : Hid (r = false) := by
   show r = false
   rw [← HR.out]
   exact decide_eq_false fun h => hk h.1
  clear hk
  go_enter Tryz.func31, Tryz.ntmps31
  go_wp2_with fail
  go_ret
  exact ⟨by rw [HV.out]; rfl, HZ.out _ _⟩
def alks : List V → List V → Bool
 | [], [] => true
 | a :: l, b :: m => alk a b && alks l m
 | _, _ => false
theorem alks_len : ∀ l m : List V, ¬ l.length = m.length → alks l m = false
 | [], [], h => absurd rfl h
 | [], _ :: _, _ => rfl
 | _ :: _, [], _ => rfl
 | a :: l, b :: m, h => by rw [alks, alks_len l m (by simpa using h), Bool.and_false]
theorem alks_step (l m : List V) (j : Nat) (h1 : j < l.length) (h2 : j < m.length) : alks (l.drop j) (m.drop j) = (alk l[j] m[j] && alks (l.drop (j + 1)) (m.drop (j + 1))) := by
 rw [List.drop_eq_getElem_cons h1, List.drop_eq_getElem_cons h2, alks]
theorem eqf_any (l m : List V) (A B : Option Addr) (c d : Nat) (w : World) (hA : Row w A l) (hB : Row w B m) (hll : l.length ≤ 4194304) (hkl : ∀ u ∈ l, u.ks.length ≤ 4194304) :
  Calls Tryz.prog 30 #[.slice A l.length c, .slice B m.length d, .func (.func 31) #[] #[]] w fun e w' => e = .returned (.bool (alks l m)) ∧ Below w.heap.size w w' := by
 by_cases hl : l.length = m.length
 ·have HA := Lib.hid hA
  have HB := Lib.hid hB
  have HL := Lib.hid hl
  have HK := Lib.hid hkl
  have hf : Ent 31 := enters_of Tryz.func31 (by kernel_rfl) rfl
  obtain ⟨r, hr⟩ : ∃ r, alks l m = r := ⟨_, rfl⟩
  rw [hr, ← hl]
  have HR : Hid (r = alks (l.drop 0) (m.drop 0)) := hr.symm
  have hlen' : (l.length : Int) ≤ 4194304 := by omega
  clear hA hB hl hr hkl
  go_enter Tryz.func30, Tryz.ntmps30
  go_wp2_with fail
  go_loopw [17] (fun i wr => ∃ j : Nat, j ≤ l.length ∧ i = .int .i64 j ∧ Hid (r = alks (l.drop j) (m.drop j)) ∧ Hid (Below w.heap.size w wr))
   (fun i _ => l.length - (intOf i).toNat)
  case atStart => exact ⟨0, Nat.zero_le _, rfl, HR, Lib.hid (Below.refl _ _)⟩
  case round =>
   obtain ⟨j, hj, rfl, hrj, hbw⟩ := hrel
   by_cases hlt : j < l.length
   ·have hlt2 : j < m.length := by have := HL.out; omega
    obtain ⟨g, o, rfl, hg, x, hx, hxa⟩ := HA.out.at_ hlt
    obtain ⟨g2, o2, rfl, hg2, y, hy, hyb⟩ := HB.out.at_ hlt2
    obtain ⟨c0, c1, c2, c3, c4, c5⟩ := hx.below hg hbw.out
    have hay := hy.below hg2 hbw.out
    have hkj := HK.out _ (List.getElem_mem hlt)
    have HAL := Lib.hid fun w' (hb : Below w.heap.size w w') => alike_any _ _ x y w' (Is.below hb _ _ hxa) (Is.below hb _ _ hyb) hkj
    have HRJ : Hid (r = (alk l[j] m[j] && alks (l.drop (j + 1)) (m.drop (j + 1)))) := hrj.out.trans (alks_step l m j hlt hlt2)
    obtain ⟨xk, xnm, xn, xs, xka, xkn, xkc, xla, xln, xlc⟩ := x
    obtain ⟨yk, ynm, yn, ys, yka, ykn, ykc, yla, yln, ylc⟩ := y
    have hs1 : g2 < wr.heap.size := Nat.lt_of_lt_of_le hg2 hbw.out.size
    obtain ⟨d0, d1, d2, d3, d4, d5⟩ := hay.below hs1 (below_alloc wr (.cells #[.int .i64 xk, .string xnm, .int .i64 xn, .string xs, .slice xka xkn xkc, .slice xla xln xlc] 25))
    dsimp only at c0 c1 c2 c3 c4 c5 d0 d1 d2 d3 d4 d5
    simp only [X.v] at HAL
    clear hx hy hxa hyb hay hg hg2 hkj hrj hs1
    generalize alk l[j] m[j] = b at *
    go_wp2_with fail
    refine (HAL.out _ (hbw.out.trans ((two_below wr _ _).mono hbw.out.size))).mono ?_
    rintro e w1 ⟨rfl, hb1⟩
    have hb2 := Lib.hid (hbw.out.trans (((two_below wr (.cells #[.int .i64 xk, .string xnm, .int .i64 xn, .string xs, .slice xka xkn xkc, .slice xla xln xlc] 25) (.cells #[.int .i64 yk, .string ynm, .int .i64 yn, .string ys, .slice yka ykn ykc, .slice yla yln ylc] 25)).mono hbw.out.size).trans (hb1.mono (Nat.le_trans hbw.out.size (two_below wr _ _).size))))
    clear hb1 hbw c0 c1 c2 c3 c4 c5 d0 d1 d2 d3 d4 d5 HAL
    cases b
    ·go_wp2_with fail
     go_ret
     exact ⟨by rw [HRJ.out]; rfl, hb2.out⟩
    ·go_wp2_with fail
     go_roundw
     case rel => exact ⟨j + 1, by omega, by go_num, by have := HRJ.out; rw [Bool.true_and] at this; exact this, hb2⟩
     case measure => simp [intOf]; omega
   ·obtain rfl : j = l.length := by omega
    have hrt : r = true := by
     have := hrj.out
     rw [List.drop_length, HL.out, List.drop_length] at this
     exact this
    have HRT := Lib.hid hrt
    clear hrt hrj
    go_wp2_with fail
    go_ret
    exact ⟨by rw [HRT.out]; rfl, hbw.out⟩
 ·have HV := Lib.hid (alks_len l m hl)
  have hl' : ((l.length : Int) == (m.length : Int)) = false := by rw [beq_eq_false_iff_ne]; omega
  clear hA hB hkl hl hll
  rw [HV.out]
  generalize l.length = ln at *
  generalize m.length = mn at *
  go_enter Tryz.func30, Tryz.ntmps30
  go_wp2_with fail
  go_ret
  exact ⟨rfl, Below.refl _ _⟩
end Go.Proofs.YtllpgoaanbiodaaGreatDoor.R
