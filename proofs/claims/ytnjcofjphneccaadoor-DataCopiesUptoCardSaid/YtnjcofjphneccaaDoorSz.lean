/-
  The reference's Size, by contract.
-/
import Derived.Test.YtnjcofjphneccaaDoorMem
namespace Go.Proofs.YtnjcofjphneccaaDoor
open Go.RowKit

set_option maxRecDepth 4000 in
set_option maxHeartbeats 400000 in
theorem refSize_any : ∀ (v : V) (x : X) (w : World), Is w v x → v.bulk ≤ 4194304 →
    Calls Tryd.prog 18 #[x.v] w fun e w' => e = .returned (.int .i64 (v.size : Nat)) ∧ Below w.heap.size w w' := by
  refine V.ind fun k n s ks l ih => ?_
  intro x w h hbk
  obtain ⟨ka, kc, la, lc, rfl, h1, h2, h3, h4⟩ := h.open
  simp only [V.k, V.n, V.s, V.ks, V.l] at *
  have hbl : V.bulks l ≤ 4194304 := by
    simp only [V.bulk] at hbk
    omega
  have hll : l.length ≤ 4194304 := Nat.le_trans (length_le_bulks l) hbl
  clear hbk
  unfold X.v
  go_enter Tryd.func18, Tryd.ntmps18
  go_wp2_with fail
  go_loopw [3, 9] (fun t i wr => ∃ j : Nat, j ≤ l.length ∧ i = .int .i64 j ∧ t = .int .i64 ((1 + V.sizes (l.take j) : Nat) : Int) ∧ Below w.heap.size w wr)
    (fun _ i _ => l.length - (intOf i).toNat)
  case atStart => exact ⟨0, Nat.zero_le _, rfl, rfl, below_alloc w _⟩
  case round =>
    obtain ⟨j, hj, rfl, rfl, hb⟩ := hrel
    by_cases hlt : j < l.length
    · obtain ⟨g, o, rfl, hg, y, hy, hv⟩ := h4.at_ hlt
      have hy' := hy.below hg hb
      obtain ⟨c0, c1, c2, c3, c4⟩ := hy'
      obtain ⟨ka', kc', la', lc', rfl, h1', h2', h3', h4'⟩ := hv.open
      have hr := Lib.hid fun w' (hb' : Below w.heap.size w w') => ih l[j] (List.getElem_mem hlt) _ w' (Is.below hb' _ _ hv) (Nat.le_trans (bulk_le_of_mem (List.getElem_mem hlt)) hbl)
      have hs := Lib.hid (sizes_snoc l j hlt)
      have hsl : V.sizes (l.take j) + l[j].size ≤ 4194304 := by
        have := sizes_take_le l (j + 1)
        have := sizes_le_bulks l
        have := hs.out
        omega
      simp only [X.v] at *
      generalize l[j] = u at *
      clear hv hy
      go_wp2_with fail
      refine (hr.out _ (hb.alloc (by have := hb.size; omega) _)).mono ?_
      rintro e w1 ⟨rfl, hb1⟩
      have hb2 := (hb.alloc (B := w.heap.size) (by have := hb.size; omega) (.cells #[.int .i64 u.k, .int .i64 u.n, .string u.s, .slice ka' u.ks.length kc', .slice la' u.l.length lc'] 25)).trans (hb1.mono (by have := hb.size; simp; omega))
      clear c0 c1 c2 c3 c4 hb1 hb
      go_wp2
      go_roundw
      case rel => exact ⟨j + 1, by omega, by go_num, by rw [hs.out]; go_num, hb2⟩
      case measure => simp [intOf]; omega
    · obtain rfl : j = l.length := by omega
      go_wp2
      go_ret
      exact ⟨by rw [List.take_length]; rfl, hb⟩
end Go.Proofs.YtnjcofjphneccaaDoor
