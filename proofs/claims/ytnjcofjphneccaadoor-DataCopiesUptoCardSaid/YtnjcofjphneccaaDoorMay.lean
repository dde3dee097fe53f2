/-
  The reference's may, Check, by contract.
-/
import Derived.Test.YtnjcofjphneccaaDoorOwn
namespace Go.Proofs.YtnjcofjphneccaaDoor
open Go.RowKit

theorem mays_snoc (l : List V) (j : Nat) (h : j < l.length) : V.mays (l.take (j + 1)) = (V.mays (l.take j) && l[j].may) := by
  rw [snoc_get l j h, mays_append]
  simp [V.mays]
theorem mays_false {l : List V} {j : Nat} (h : j < l.length) (h1 : l[j].may = false) : V.mays l = false := by
  rw [mays_all]
  rw [Bool.eq_false_iff]
  intro h2
  have := List.all_eq_true.1 h2 l[j] (List.getElem_mem h)
  rw [h1] at this
  cases this

set_option maxRecDepth 8000 in
set_option maxHeartbeats 1000000 in
theorem refMay_any : ∀ (v : V) (x : X) (w : World), Is w v x → v.bulk ≤ 4194304 →
    Calls Tryd.prog 29 #[x.v] w fun e w' => e = .returned (.bool v.may) ∧ Below w.heap.size w w' := by
  refine V.ind fun k n s ks l ih => ?_
  intro x w h hbk
  have HO := Lib.hid fun w' (hb' : Below w.heap.size w w') => refOwn_any _ x w' (Is.below hb' _ _ h) hbk
  have HM := Lib.hid (may_eq (.mk k n s ks l))
  obtain ⟨ka, kc, la, lc, rfl, h1, h2, h3, h4⟩ := h.open
  obtain ⟨B, hB⟩ : ∃ B, B = V.own (.mk k n s ks l) := ⟨_, rfl⟩
  rw [← hB] at HO HM
  simp only [V.k, V.n, V.s, V.ks, V.l] at *
  have hbl : V.bulks l ≤ 4194304 := by
    simp only [V.bulk] at hbk
    omega
  have hll : l.length ≤ 4194304 := Nat.le_trans (length_le_bulks l) hbl
  clear hbk hB h
  unfold X.v at *
  simp only at *
  cases B with
  | false =>
    go_enter Tryd.func29, Tryd.ntmps29
    go_wp2_with fail
    refine (HO.out _ (below_alloc w _)).mono ?_
    rintro e w1 ⟨rfl, hb1⟩
    go_wp2_with fail
    go_ret
    exact ⟨by rw [HM.out]; rfl, (below_alloc w _).trans (hb1.mono (by simp))⟩
  | true =>
    go_enter Tryd.func29, Tryd.ntmps29
    go_wp2_with fail
    refine (HO.out _ (below_alloc w _)).mono ?_
    rintro e w1 ⟨rfl, hb1⟩
    have hb0 := (below_alloc w (.cells #[.int .i64 k, .int .i64 n, .string s, .slice ka ks.length kc, .slice la l.length lc] 25)).trans (hb1.mono (by simp))
    have hc4 : w1.cell? ⟨w.heap.size, 4, none⟩ = some (.slice la l.length lc) := (hb1.cell (p := ⟨w.heap.size, 4, none⟩) (by simp)).trans (by simp)
    clear hb1 HO
    go_wp2_with fail
    go_loopw [11] (fun i wr => ∃ j : Nat, j ≤ l.length ∧ i = .int .i64 j ∧ Hid (V.mays (l.take j) = true) ∧ Below w.heap.size w wr)
      (fun i _ => l.length - (intOf i).toNat)
    case atStart => exact ⟨0, Nat.zero_le _, rfl, rfl, hb0⟩
    case round =>
      obtain ⟨j, hj, rfl, hm, hb⟩ := hrel
      clear hc4 hb0
      by_cases hlt : j < l.length
      · obtain ⟨g, o, rfl, hg, y, hy, hv⟩ := h4.at_ hlt
        have hy' := hy.below hg hb
        obtain ⟨c0, c1, c2, c3, c4⟩ := hy'
        obtain ⟨ka', kc', la', lc', rfl, h1', h2', h3', h4'⟩ := hv.open
        have hr := Lib.hid fun w' (hb' : Below w.heap.size w w') => ih l[j] (List.getElem_mem hlt) _ w' (Is.below hb' _ _ hv) (Nat.le_trans (bulk_le_of_mem (List.getElem_mem hlt)) hbl)
        have hs := Lib.hid (mays_snoc l j hlt)
        have hf := Lib.hid (mays_false hlt)
        simp only at *
        generalize l[j] = u at *
        clear hv hy
        obtain ⟨M, hM⟩ : ∃ M, M = u.may := ⟨_, rfl⟩
        have HMM := Lib.hid hM
        rw [← hM] at hr
        clear hM
        cases M with
        | true =>
          go_wp2_with fail
          refine (hr.out _ (hb.alloc (by have := hb.size; omega) _)).mono ?_
          rintro e w2 ⟨rfl, hb2⟩
          have hb3 := (hb.alloc (B := w.heap.size) (by have := hb.size; omega) (.cells #[.int .i64 u.k, .int .i64 u.n, .string u.s, .slice ka' u.ks.length kc', .slice la' u.l.length lc'] 25)).trans (hb2.mono (by have := hb.size; simp; omega))
          clear c0 c1 c2 c3 c4 hb2 hb
          go_wp2_with fail
          go_roundw
          case rel => exact ⟨j + 1, by omega, by go_num, by show V.mays _ = true; rw [hs.out, hm.out, ← HMM.out]; rfl, hb3⟩
          case measure => simp [intOf]; omega
        | false =>
          have HV := Lib.hid (hf.out HMM.out.symm)
          go_wp2_with fail
          refine (hr.out _ (hb.alloc (by have := hb.size; omega) _)).mono ?_
          rintro e w2 ⟨rfl, hb2⟩
          have hb3 := (hb.alloc (B := w.heap.size) (by have := hb.size; omega) (.cells #[.int .i64 u.k, .int .i64 u.n, .string u.s, .slice ka' u.ks.length kc', .slice la' u.l.length lc'] 25)).trans (hb2.mono (by have := hb.size; simp; omega))
          clear c0 c1 c2 c3 c4 hb2 hb
          go_wp2_with fail
          go_ret
          exact ⟨by rw [HM.out, HV.out]; rfl, hb3⟩
      · obtain rfl : j = l.length := by omega
        rw [List.take_length] at hm
        go_wp2_with fail
        go_ret
        exact ⟨by rw [HM.out, hm.out]; rfl, hb⟩

theorem refChk_any (v : V) (x : X) (w : World) (h : Is w v x) (hbk : v.bulk ≤ 4194304) :
    Calls Tryd.prog 12 #[x.v] w fun e w' => e = .returned (.int .i64 v.chk) ∧ Below w.heap.size w w' := by
  have HM := Lib.hid fun w' (hb' : Below w.heap.size w w') => refMay_any v x w' (Is.below hb' _ _ h) hbk
  have HD := Lib.hid fun w' (hb' : Below w.heap.size w w') => refDeep_any v x w' (Is.below hb' _ _ h) hbk
  have hd : v.deep ≤ 4194304 := Nat.le_trans (deep_le_size v) (Nat.le_trans (size_le_bulk v) hbk)
  have HC : Hid (v.chk = if v.may = true then (if 20 < v.deep then 31 else 0) else 30) := Lib.hid rfl
  generalize v.may = M at *
  generalize v.deep = D at *
  obtain ⟨k, n, s, ka, kn, kc, la, ln, lc⟩ := x
  simp only [X.v] at *
  clear h hbk
  cases M with
  | false =>
    go_enter Tryd.func12, Tryd.ntmps12
    go_wp2_with fail
    refine (HM.out _ (below_alloc w _)).mono ?_
    rintro e w1 ⟨rfl, hb1⟩
    go_wp2_with fail
    go_ret
    exact ⟨by rw [HC.out]; rfl, (below_alloc w _).trans (hb1.mono (by simp))⟩
  | true =>
    by_cases h20 : 20 < D
    all_goals
      go_enter Tryd.func12, Tryd.ntmps12
      go_wp2_with fail
      refine (HM.out _ (below_alloc w _)).mono ?_
      rintro e w1 ⟨rfl, hb1⟩
      have hb0 := (below_alloc w (.cells #[.int .i64 k, .int .i64 n, .string s, .slice ka kn kc, .slice la ln lc] 25)).trans (hb1.mono (by simp))
      have c0 : w1.cell? ⟨w.heap.size, 0, none⟩ = some (.int .i64 k) := (hb1.cell (p := ⟨w.heap.size, 0, none⟩) (by simp)).trans (by simp)
      have c1 : w1.cell? ⟨w.heap.size, 1, none⟩ = some (.int .i64 n) := (hb1.cell (p := ⟨w.heap.size, 1, none⟩) (by simp)).trans (by simp)
      have c2 : w1.cell? ⟨w.heap.size, 2, none⟩ = some (.string s) := (hb1.cell (p := ⟨w.heap.size, 2, none⟩) (by simp)).trans (by simp)
      have c3 : w1.cell? ⟨w.heap.size, 3, none⟩ = some (.slice ka kn kc) := (hb1.cell (p := ⟨w.heap.size, 3, none⟩) (by simp)).trans (by simp)
      have c4 : w1.cell? ⟨w.heap.size, 4, none⟩ = some (.slice la ln lc) := (hb1.cell (p := ⟨w.heap.size, 4, none⟩) (by simp)).trans (by simp)
      clear hb1
      go_wp2_with fail
      refine (HD.out _ hb0).mono ?_
      rintro e w2 ⟨rfl, hb2⟩
      have hb3 := hb0.trans (hb2.mono hb0.size)
      clear c0 c1 c2 c3 c4 hb2 hb0
      go_wp2_with fail
      go_ret
      exact ⟨by rw [HC.out]; simp [h20], hb3⟩
end Go.Proofs.YtnjcofjphneccaaDoor
