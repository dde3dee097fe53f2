/-
  Equal of strings, alike, EqualFunc with alike, by contract.
-/
import Derived.Test.YtnjcofjphneccaaDoorDeep
namespace Go.Proofs.YtnjcofjphneccaaDoor
open Go.RowKit

theorem list_ne {α : Type} {l m : List α} (hl : l.length = m.length) (h : ∀ i, (h1 : i < l.length) → (h2 : i < m.length) → l[i] = m[i]) : l = m := List.ext_getElem hl fun i h1 h2 => h i h1 h2

set_option maxRecDepth 8000 in
set_option maxHeartbeats 1000000 in
theorem equal_any (A B : Option Addr) (ks ms : List ByteArray) (c d : Nat) (w : World) (h : Strs w A ks) (h' : Strs w B ms) (hb : ks.length ≤ 4194304) :
    Calls Tryd.prog 42 #[.slice A ks.length c, .slice B ms.length d] w fun e w' => e = .returned (.bool (decide (ks = ms))) ∧ Below w.heap.size w w' := by
  by_cases hl : ks.length = ms.length
  · have HL := Lib.hid hl
    rw [← hl]
    have HN : Hid (∀ i, (h1 : i < ks.length) → (h2 : i < ms.length) → ¬ ks[i] = ms[i] → decide (ks = ms) = false) := fun i h1 h2 hne => decide_eq_false fun e => hne (by subst e; rfl)
    have HY : Hid ((∀ i, (h1 : i < ks.length) → (h2 : i < ms.length) → ks[i] = ms[i]) → decide (ks = ms) = true) := fun hh => decide_eq_true (list_ne hl hh)
    clear hl
    go_enter Tryd.func42, Tryd.ntmps42
    go_wp2_with fail
    go_loopw [13] (fun i wr => ∃ j : Nat, j ≤ ks.length ∧ i = .int .i64 j ∧ Hid (∀ i, i < j → (h1 : i < ks.length) → (h2 : i < ms.length) → ks[i] = ms[i]) ∧ Below w.heap.size w wr)
      (fun i _ => ks.length - (intOf i).toNat)
    case atStart => exact ⟨0, Nat.zero_le _, rfl, fun i hi => by omega, Below.refl _ _⟩
    case round =>
      obtain ⟨j, hj, rfl, hh, hbw⟩ := hrel
      by_cases hlt : j < ks.length
      · have hlt2 : j < ms.length := by have := HL.out; omega
        obtain ⟨g, o, rfl, hg, hc⟩ := h.at_ hlt
        obtain ⟨g2, o2, rfl, hg2, hc2⟩ := h'.at_ hlt2
        have hcx := (hbw.cell (p := ⟨g, o + j, none⟩) hg).trans hc
        have hcy := (hbw.cell (p := ⟨g2, o2 + j, none⟩) hg2).trans hc2
        have HNj := Lib.hid (HN.out j hlt hlt2)
        have HS : Hid (ks[j] = ms[j] → ∀ i, i < j + 1 → (h1 : i < ks.length) → (h2 : i < ms.length) → ks[i] = ms[i]) := fun e i hi h1 h2 => by
          rcases Nat.lt_succ_iff_lt_or_eq.1 hi with hi | rfl
          · exact hh.out i hi h1 h2
          · exact e
        have hj0 : (0 : Int) ≤ (j : Int) := by omega
        have hj1 : (j : Int) < (ks.length : Int) := by omega
        generalize ks[j] = y at *
        generalize ms[j] = z at *
        clear hc hc2
        by_cases hyz : y = z
        · subst hyz
          have HS' := Lib.hid (HS.out rfl)
          clear HS HNj
          go_wp2_with fail
          go_quiet (fail)
          go_wp2_with fail
          go_roundw
          case rel => exact ⟨j + 1, by omega, by go_num, HS'.out, hbw.trans (below_drewN _ _ _)⟩
          case measure => simp [intOf]; omega
        · have hne := str_ne hyz
          have HV := Lib.hid (HNj.out hyz)
          clear HS HNj hyz
          go_wp2_with fail
          go_quiet (fail)
          go_wp2_with fail
          go_ret
          exact ⟨by rw [HV.out]; rfl, hbw.trans (below_drewN _ _ _)⟩
      · obtain rfl : j = ks.length := by omega
        have HV := Lib.hid (HY.out fun i h1 h2 => hh.out i h1 h1 h2)
        go_wp2_with fail
        go_ret
        exact ⟨by rw [HV.out]; rfl, hbw⟩
  · have HV : Hid (decide (ks = ms) = false) := decide_eq_false fun e => hl (by rw [e])
    have hl2 : ((ks.length : Int) != (ms.length : Int)) = true := by simp; omega
    have hl' : ((ks.length : Int) == (ms.length : Int)) = false := by rw [beq_eq_false_iff_ne]; omega
    generalize ks.length = kn at *
    generalize ms.length = mn at *
    go_enter Tryd.func42, Tryd.ntmps42
    go_wp2_with fail
    go_ret
    exact ⟨by rw [HV.out]; rfl, Below.refl _ _⟩

/-- two values are alike, whatever their elements are -/
def like (u v : V) : Bool := decide (u.k = v.k ∧ u.n = v.n ∧ u.s = v.s ∧ u.ks = v.ks ∧ u.l.length = v.l.length)

set_option maxRecDepth 8000 in
set_option maxHeartbeats 1000000 in
theorem alike_any (u v : V) (x y : X) (w : World) (h : Is w u x) (h' : Is w v y) (hb : u.bulk ≤ 4194304) :
    Calls Tryd.prog 34 #[x.v, y.v] w fun e w' => e = .returned (.bool (like u v)) ∧ Below w.heap.size w w' := by
  obtain ⟨ka, kc, la, lc, rfl, h1, h2, h3, h4⟩ := h.open
  obtain ⟨ka', kc', la', lc', rfl, h1', h2', h3', h4'⟩ := h'.open
  have hkl : u.ks.length ≤ 4194304 := by
    have := length_le_keysBulk u.ks
    cases u
    simp only [V.bulk, V.ks] at *
    omega
  have HE := Lib.hid fun w' (hb : Below w.heap.size w w') => equal_any ka ka' u.ks v.ks kc kc' w' (h3.below hb) (h3'.below hb) hkl
  have HV : Hid (like u v = decide (u.k = v.k ∧ u.n = v.n ∧ u.s = v.s ∧ u.ks = v.ks ∧ u.l.length = v.l.length)) := Lib.hid rfl
  simp only [X.v] at *
  clear h h' h1 h2 h3 h4 h1' h2' h3' h4' hkl hb
  obtain ⟨E, hE⟩ : ∃ E : Bool, E = decide (u.ks = v.ks) := ⟨_, rfl⟩
  rw [← hE] at HE
  have HE2 : Hid (decide (u.k = v.k ∧ u.n = v.n ∧ u.s = v.s ∧ u.ks = v.ks ∧ u.l.length = v.l.length) = (decide (u.k = v.k ∧ u.n = v.n ∧ u.s = v.s) && (E && decide (u.l.length = v.l.length)))) := by
    show decide _ = _
    rw [hE, Bool.eq_iff_iff]
    simp [and_assoc]
  clear hE
  generalize u.ks.length = kn at *
  generalize v.ks.length = kn' at *
  generalize u.l.length = ln at *
  generalize v.l.length = ln' at *
  by_cases hk : u.k = v.k
  · by_cases hn : u.n = v.n
    · by_cases hs : u.s = v.s
      · have HV2 : Hid (like u v = (E && decide (ln = ln'))) := by
          show like u v = _
          rw [HV.out, HE2.out, decide_eq_true ⟨hk, hn, hs⟩]
          rfl
        clear HV HE2
        rw [hk, hn, hs] at *
        generalize v.k = k at *
        generalize v.n = n at *
        generalize v.s = s at *
        clear hk hn hs
        by_cases hln : ln = ln'
        · subst hln
          rw [decide_eq_true rfl] at HV2
          go_enter Tryd.func34, Tryd.ntmps34
          go_wp2_with fail
          refine (HE.out _ ((below_alloc w _).trans ((below_alloc _ _).mono (by simp)))).mono ?_
          rintro e w1 ⟨rfl, hb1⟩
          have hb2 := ((below_alloc w (.cells #[.int .i64 k, .int .i64 n, .string s, .slice ka kn kc, .slice la ln lc] 25)).trans ((below_alloc (w.alloc (.cells #[.int .i64 k, .int .i64 n, .string s, .slice ka kn kc, .slice la ln lc] 25)) (.cells #[.int .i64 k, .int .i64 n, .string s, .slice ka' kn' kc', .slice la' ln lc'] 25)).mono (by simp))).trans (hb1.mono (by simp; omega))
          have c4 : w1.cell? ⟨w.heap.size, 4, none⟩ = some (.slice la ln lc) := (hb1.cell (p := ⟨w.heap.size, 4, none⟩) (by simp; omega)).trans (by simp)
          have d4 : w1.cell? ⟨w.heap.size + 1, 4, none⟩ = some (.slice la' ln lc') := (hb1.cell (p := ⟨w.heap.size + 1, 4, none⟩) (by simp)).trans (by rw [World.cell?_alloc_at _ _ _ _ (by simp)]; rfl)
          clear hb1
          cases E
          all_goals
            go_wp2_with fail
            go_ret
            exact ⟨by rw [HV2.out]; rfl, hb2⟩
        · have hl' : ((ln : Int) == (ln' : Int)) = false := by rw [beq_eq_false_iff_ne]; omega
          rw [decide_eq_false hln, Bool.and_false] at HV2
          go_enter Tryd.func34, Tryd.ntmps34
          go_wp2_with fail
          refine (HE.out _ ((below_alloc w _).trans ((below_alloc _ _).mono (by simp)))).mono ?_
          rintro e w1 ⟨rfl, hb1⟩
          have hb2 := ((below_alloc w (.cells #[.int .i64 k, .int .i64 n, .string s, .slice ka kn kc, .slice la ln lc] 25)).trans ((below_alloc (w.alloc (.cells #[.int .i64 k, .int .i64 n, .string s, .slice ka kn kc, .slice la ln lc] 25)) (.cells #[.int .i64 k, .int .i64 n, .string s, .slice ka' kn' kc', .slice la' ln' lc'] 25)).mono (by simp))).trans (hb1.mono (by simp; omega))
          have c4 : w1.cell? ⟨w.heap.size, 4, none⟩ = some (.slice la ln lc) := (hb1.cell (p := ⟨w.heap.size, 4, none⟩) (by simp; omega)).trans (by simp)
          have d4 : w1.cell? ⟨w.heap.size + 1, 4, none⟩ = some (.slice la' ln' lc') := (hb1.cell (p := ⟨w.heap.size + 1, 4, none⟩) (by simp)).trans (by rw [World.cell?_alloc_at _ _ _ _ (by simp)]; rfl)
          clear hb1 hln
          cases E
          all_goals
            go_wp2_with fail
            go_ret
            exact ⟨by rw [HV2.out]; rfl, hb2⟩
      · have hs' := str_ne hs
        have HV2 : Hid (like u v = false) := by
          show like u v = _
          rw [HV.out, HE2.out, decide_eq_false fun h => hs h.2.2]
          rfl
        clear HV HE2 HE hs
        rw [hk, hn] at *
        generalize v.k = k at *
        generalize v.n = n at *
        generalize v.s = s at *
        generalize u.s = s' at *
        clear hk hn
        go_enter Tryd.func34, Tryd.ntmps34
        go_wp2_with fail
        go_ret
        exact ⟨by rw [HV2.out]; rfl, (below_alloc w _).trans ((below_alloc _ _).mono (by simp))⟩
    · have hn' : (u.n == v.n) = false := by rw [beq_eq_false_iff_ne]; exact hn
      have HV2 : Hid (like u v = false) := by
        show like u v = _
        rw [HV.out, HE2.out, decide_eq_false fun h => hn h.2.1]
        rfl
      clear HV HE2 HE hn
      rw [hk] at *
      generalize v.k = k at *
      generalize v.n = n at *
      generalize u.n = n' at *
      clear hk
      go_enter Tryd.func34, Tryd.ntmps34
      go_wp2_with fail
      go_ret
      exact ⟨by rw [HV2.out]; rfl, (below_alloc w _).trans ((below_alloc _ _).mono (by simp))⟩
  · have hk' : (u.k == v.k) = false := by rw [beq_eq_false_iff_ne]; exact hk
    have HV2 : Hid (like u v = false) := by
      show like u v = _
      rw [HV.out, HE2.out, decide_eq_false fun h => hk h.1]
      rfl
    clear HV HE2 HE hk
    generalize v.k = k at *
    generalize u.k = k' at *
    go_enter Tryd.func34, Tryd.ntmps34
    go_wp2_with fail
    go_ret
    exact ⟨by rw [HV2.out]; rfl, (below_alloc w _).trans ((below_alloc _ _).mono (by simp))⟩
end Go.Proofs.YtnjcofjphneccaaDoor
