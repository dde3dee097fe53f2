/-
  The reference's deep, keys, by contract.
-/
import Derived.Test.YtnjcofjphneccaaDoorSz
import Derived.Test.YtnjcofjphneccaaDoorSpec
import Derived.Lib.MinMax
namespace Go.Proofs.YtnjcofjphneccaaDoor
open Go.RowKit

theorem max_nat (a b : Nat) : max (a : Int) (b : Int) = ((max a b : Nat) : Int) := by omega
set_option maxRecDepth 4000 in
set_option maxHeartbeats 400000 in
theorem refDeep_any : ∀ (v : V) (x : X) (w : World), Is w v x → v.bulk ≤ 4194304 →
    Calls Tryd.prog 30 #[x.v] w fun e w' => e = .returned (.int .i64 (v.deep : Nat)) ∧ Below w.heap.size w w' := by
  refine V.ind fun k n s ks l ih => ?_
  intro x w h hbk
  obtain ⟨ka, kc, la, lc, rfl, h1, h2, h3, h4⟩ := h.open
  simp only [V.k, V.n, V.s, V.ks, V.l] at *
  have hbl : V.bulks l ≤ 4194304 := by
    simp only [V.bulk] at hbk
    omega
  have hll : l.length ≤ 4194304 := Nat.le_trans (length_le_bulks l) hbl
  have hdl : V.deeps l ≤ 4194304 := Nat.le_trans (deeps_le_bulks l) hbl
  clear hbk
  unfold X.v
  go_enter Tryd.func30, Tryd.ntmps30
  go_wp2_with fail
  go_loopw [3, 9] (fun t i wr => ∃ j : Nat, j ≤ l.length ∧ i = .int .i64 j ∧ t = .int .i64 ((V.deeps (l.take j) : Nat) : Int) ∧ Below w.heap.size w wr)
    (fun _ i _ => l.length - (intOf i).toNat)
  case atStart => exact ⟨0, Nat.zero_le _, rfl, rfl, below_alloc w _⟩
  case round =>
    obtain ⟨j, hj, rfl, rfl, hb⟩ := hrel
    by_cases hlt : j < l.length
    · obtain ⟨g, o, rfl, hg, y, hy, hv⟩ := h4.at_ hlt
      have hy' := hy.below hg hb
      obtain ⟨c0, c1, c2, c3, c4⟩ := hy'
      obtain ⟨ka', kc', la', lc', rfl, h1', h2', h3', h4'⟩ := hv.open
      have hr := Lib.hid fun w' (hb' : Below w.heap.size w w') => ih l[j] (List.getElem_mem hlt) _ w' (Is.below hb' _ _ hv) (Nat.le_trans (bulk_le_of_mem (List.getElem_mem hlt)) hbl)
      have hs := Lib.hid (deeps_snoc l j hlt)
      have HM := max_nat (V.deeps (l.take j)) l[j].deep
      simp only [X.v] at *
      generalize l[j] = u at *
      clear hv hy
      go_wp2_with fail
      refine (hr.out _ (hb.alloc (by have := hb.size; omega) _)).mono ?_
      rintro e w1 ⟨rfl, hb1⟩
      have hb2 := (hb.alloc (B := w.heap.size) (by have := hb.size; omega) (.cells #[.int .i64 u.k, .int .i64 u.n, .string u.s, .slice ka' u.ks.length kc', .slice la' u.l.length lc'] 25)).trans (hb1.mono (by have := hb.size; simp; omega))
      clear c0 c1 c2 c3 c4 hb1 hb
      go_wp2
      go_roundw
      case rel => exact ⟨j + 1, by omega, by go_num, by rw [hs.out], hb2⟩
      case measure => simp [intOf]; omega
    · obtain rfl : j = l.length := by omega
      rw [List.take_length]
      go_wp2
      go_ret
      exact ⟨by rw [V.deep]; rfl, hb⟩

theorem str_ne {a b : ByteArray} (h : ¬ a = b) : (a.toList == b.toList) = false := by
  rw [beq_eq_false_iff_ne]
  intro e
  rw [ByteArray.toList_eq, ByteArray.toList_eq] at e
  exact h (ByteArray.ext (Array.toList_inj.1 e))
theorem nodup_snoc {l : List ByteArray} {k : Nat} (h : k < l.length) (h1 : (l.take k).Nodup) (h2 : ∀ i, (hi : i < k) → ¬ l[i] = l[k]) : (l.take (k + 1)).Nodup := by
  rw [snoc_get l k h]
  refine List.nodup_append.2 ⟨h1, by simp, fun a ha b hb => ?_⟩
  simp at hb
  subst hb
  obtain ⟨i, hi, rfl⟩ := List.getElem_of_mem ha
  rw [List.getElem_take]
  rw [List.length_take] at hi
  exact h2 i (by omega)
theorem nodup_get {l : List ByteArray} (h : l.Nodup) {i k : Nat} (hik : i < k) (hk : k < l.length) : ¬ l[i] = l[k] :=
  List.pairwise_iff_getElem.1 h i k (by omega) hk hik

set_option maxRecDepth 8000 in
set_option maxHeartbeats 1000000 in
theorem refKeys_any (v : V) (x : X) (w : World) (h : Is w v x) (hbk : v.bulk ≤ 4194304) :
    Calls Tryd.prog 52 #[x.v] w fun e w' => e = .returned (.bool (decide (v.ks.length = v.l.length ∧ okKeys v.ks))) ∧ Below w.heap.size w w' := by
  obtain ⟨ka, kc, la, lc, rfl, h1, h2, h3, h4⟩ := h.open
  have hsz : keysBulk v.ks ≤ 4194304 := by
    cases v
    simp only [V.bulk, V.ks] at *
    omega
  have hwl : v.ks.length ≤ 4194304 := Nat.le_trans (length_le_keysBulk _) hsz
  simp only [X.v]
  obtain ⟨k, hk⟩ : ∃ n, n = v.k := ⟨_, rfl⟩
  obtain ⟨n, hn⟩ : ∃ n, n = v.n := ⟨_, rfl⟩
  obtain ⟨s, hs⟩ : ∃ s, s = v.s := ⟨_, rfl⟩
  obtain ⟨ln, hln⟩ : ∃ n, n = v.l.length := ⟨_, rfl⟩
  rw [← hk, ← hn, ← hs, ← hln]
  generalize v.ks = ks at *
  clear hk hn hs hln h4 h h2 hbk
  by_cases hl : ks.length = ln
  · subst hl
    rw [show decide (ks.length = ks.length ∧ okKeys ks) = decide (okKeys ks) by simp]
    go_enter Tryd.func52, Tryd.ntmps52
    go_wp2_with fail
    go_loop [17] (fun i => ∃ j : Nat, j ≤ ks.length ∧ i = .int .i64 j ∧ Hid (∀ y ∈ ks.take j, y.size % 2 = 0) ∧ Hid (ks.take j).Nodup)
      (fun i => ks.length - (intOf i).toNat)
    case atStart => exact ⟨0, Nat.zero_le _, rfl, fun y hy => by simp at hy, List.nodup_nil⟩
    case round =>
      obtain ⟨j, hj, rfl, hev, hnd⟩ := hrel
      by_cases hlt : j < ks.length
      · obtain ⟨g, o, rfl, hg, hc⟩ := h3.at_ hlt
        have hcx := ((below_alloc w (.cells #[.int .i64 k, .int .i64 n, .string s, .slice (some ⟨g, o, none⟩) ks.length kc, .slice la ks.length lc] 25)).cell (p := ⟨g, o + j, none⟩) hg).trans hc
        have HC := Lib.hid fun i (hi : i < ks.length) => h3.at_ hi
        have hmem := List.getElem_mem hlt
        have HM := Lib.hid hmem
        have hsy : ks[j].size ≤ 4194304 := Nat.le_trans (key_le_keysBulk hmem) hsz
        have HN := Lib.hid fun (hn : (ks.take (j + 1)).Nodup) => hn
        have HS := Lib.hid (fun (hh : ∀ i, (hi : i < j) → ¬ ks[i] = ks[j]) => nodup_snoc hlt hnd.out hh)
        have HT := Lib.hid (snoc_get ks j hlt)
        obtain ⟨y, hy⟩ : ∃ y, y = ks[j] := ⟨_, rfl⟩
        have HY := Lib.hid hy
        rw [← hy] at hcx hsy
        clear hc h3 hmem hnd hy HN
        go_wp2_with fail
        go_loop [27] (fun i => ∃ q : Nat, q ≤ j ∧ i = .int .i64 q ∧ Hid (∀ i, (hi : i < q) → (hj : i < ks.length) → ¬ ks[i] = y))
          (fun i => j - (intOf i).toNat)
        case atStart => exact ⟨0, Nat.zero_le _, rfl, fun i hi => by omega⟩
        case round =>
          obtain ⟨q, hq, rfl, hh⟩ := hrel
          by_cases hqj : q < j
          · obtain ⟨g', o', hA, -, hcq⟩ := HC.out q (by omega)
            injection hA with hA
            injection hA with hA1 hA2
            subst hA1 hA2
            have hcq' := ((below_alloc w (.cells #[.int .i64 k, .int .i64 n, .string s, .slice (some ⟨g, o, none⟩) ks.length kc, .slice la ks.length lc] 25)).cell (p := ⟨g, o + q, none⟩) hg).trans hcq
            have HQ : Hid (∀ z, z = ks[q] → ¬ z = y → ∀ i, (hi : i < q + 1) → (hj : i < ks.length) → ¬ ks[i] = y) := fun z hz hne i hi hj => by
              rcases Nat.lt_succ_iff_lt_or_eq.1 hi with hi | rfl
              · exact hh.out i hi hj
              · rw [← hz]; exact hne
            have HD := Lib.hid fun (hn : ks.Nodup) => nodup_get hn hqj hlt
            obtain ⟨z, hz⟩ : ∃ z, z = ks[q] := ⟨_, rfl⟩
            have HZ := Lib.hid hz
            rw [← hz] at hcq'
            clear hcq hz
            by_cases hzy : z = y
            · have HV : Hid (decide (okKeys ks) = false) := by
                show _ = false
                refine decide_eq_false fun h => HD.out h.2 ?_
                rw [← HZ.out, ← HY.out, hzy]
              subst hzy
              clear HD HZ HY HQ
              go_wp2_with fail
              go_ret
              exact ⟨by rw [HV.out]; rfl, below_alloc w _⟩
            · have hne := str_ne hzy
              have HQ' := Lib.hid (HQ.out z HZ.out hzy)
              clear HD HQ hzy
              go_wp2_with fail
              go_round
              case rel => exact ⟨q + 1, by omega, by go_num, HQ'.out⟩
              case measure => simp [intOf]; omega
          · obtain rfl : q = j := by omega
            have HS2 : Hid (ks.take (q + 1)).Nodup := HS.out fun i hi => by
              rw [← HY.out]
              exact hh.out i hi (by omega)
            have HCk := Lib.hid fun w => refCheck_any y w (by unfold maxLen; omega)
            by_cases he : y.size % 2 = 0
            · rw [decide_eq_true he] at HCk
              have HE : Hid (∀ z ∈ ks.take (q + 1), z.size % 2 = 0) := by
                intro z hz
                rw [HT.out, List.mem_append, List.mem_singleton] at hz
                rcases hz with hz | rfl
                · exact hev.out z hz
                · rw [← HY.out]; exact he
              clear he
              go_wp2_with fail
              refine (HCk.out _).mono ?_
              rintro e w' ⟨rfl, rfl⟩
              go_wp2_with fail
              go_round
              case rel => exact ⟨q + 1, by omega, by go_num, HE.out, HS2.out⟩
              case measure => simp [intOf]; omega
            · rw [decide_eq_false he] at HCk
              have HV : Hid (decide (okKeys ks) = false) := by
                show _ = false
                refine decide_eq_false fun h => he ?_
                rw [HY.out]
                exact h.1 _ HM.out
              clear he
              go_wp2_with fail
              refine (HCk.out _).mono ?_
              rintro e w' ⟨rfl, rfl⟩
              go_wp2_with fail
              go_ret
              exact ⟨by rw [HV.out]; rfl, below_alloc w _⟩
      · obtain rfl : j = ks.length := by omega
        have HV : Hid (decide (okKeys ks) = true) := by
          show _ = true
          have h1 := hev.out
          have h2 := hnd.out
          rw [List.take_length] at h1 h2
          exact decide_eq_true ⟨h1, h2⟩
        go_wp2_with fail
        go_ret
        exact ⟨by rw [HV.out]; rfl, below_alloc w _⟩
  · have hl' : ((ks.length : Int) == (ln : Int)) = false := by rw [beq_eq_false_iff_ne]; omega
    have HV : Hid (decide (ks.length = ln ∧ okKeys ks) = false) := by
      show _ = false
      exact decide_eq_false fun h => hl h.1
    have hl2 : ((ks.length : Int) != (ln : Int)) = true := by simp; omega
    clear h3 hsz
    generalize ks.length = kn at *
    go_enter Tryd.func52, Tryd.ntmps52
    go_wp2_with fail
    go_ret
    exact ⟨by rw [HV.out]; rfl, below_alloc w _⟩
end Go.Proofs.YtnjcofjphneccaaDoor
