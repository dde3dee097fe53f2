/-
  order's Check, by contract.
-/
import Derived.Test.YtkanpdhlpobfoaaDoorC
namespace Go.Proofs.YtkanpdhlpobfoaaDoor
open Go.RowKit
open K (Pt)

set_option maxRecDepth 4000 in
set_option maxHeartbeats 1000000 in
theorem chk_any (A : Option Addr) (k : List Pt) (c : Nat) (w : World) (h : Row w A k) (hb : bulk k ≤ 1048576) :
    Calls Tryd.prog 15 #[.slice A k.length c] w fun e w' => e = .returned (.int .i64 (K.chk k)) ∧ Below w.heap.size w w' := by
  have hll : k.length ≤ 1048576 := Nat.le_trans (length_le_bulk k) hb
  go_enter Tryd.func15, Tryd.ntmps15
  go_wp2_with fail
  go_loopw [3, 8] (fun t i wr => ∃ j : Nat, j ≤ k.length ∧ i = .int .i64 j ∧ t = .int .i64 (K.encs (k.take j)).length ∧ Hid (∀ p ∈ k.take j, p.may = true) ∧ Below w.heap.size w wr)
    (fun _ i _ => k.length - (intOf i).toNat)
  case atStart => exact ⟨0, Nat.zero_le _, rfl, rfl, fun p hp => by simp at hp, Below.refl _ _⟩
  case round =>
    obtain ⟨j, hj, rfl, rfl, hm, hbw⟩ := hrel
    by_cases hlt : j < k.length
    · obtain ⟨g, o, rfl, hg, hp⟩ := h.at_ hlt
      obtain ⟨c0, c1, c2⟩ := hp.below hg hbw
      have hps := mem_bulk (List.getElem_mem hlt)
      have HV := Lib.hid fun w => valid_any k[j] w (by unfold maxLen; omega)
      have HS := Lib.hid fun w => sizeOf_any k[j] w (by omega)
      have HN := Lib.hid fun e => may_snoc hlt hm.out e
      have HB := Lib.hid fun e => chk_bad hlt e
      have HE := Lib.hid (encs_snoc k j hlt)
      have hl1 : (K.encs (k.take j)).length ≤ 9437184 := by
        have := encs_le (k.take j)
        have := take_bulk k j
        omega
      have hl2 := enc_le k[j]
      generalize K.encs (k.take j) = es at *
      generalize k[j] = p at *
      have hat := at_new' wr (p := p)
      unfold cellsP at hat
      obtain ⟨t, n, s⟩ := p
      simp only [pV] at *
      obtain ⟨B, hB⟩ : ∃ B, B = Pt.may ⟨t, n, s⟩ := ⟨_, rfl⟩
      have HB' := Lib.hid hB
      rw [← hB] at HV
      have HA := Lib.hid hat
      clear hp hat hB h
      cases B with
      | false =>
        go_wp2_with fail
        refine (HV.out _).mono ?_
        rintro e w1 ⟨rfl, hb1⟩
        have hb2 := (hbw.alloc (B := w.heap.size) (by have := hbw.size; omega) (.cells #[.bool t, .int .i64 n, .string s] 39)).trans (hb1.mono (by have := hbw.size; simp; omega))
        clear c0 c1 c2 hb1 hbw
        go_wp2_with fail
        go_ret
        exact ⟨by rw [HB.out HB'.out.symm]; rfl, hb2⟩
      | true =>
        go_wp2_with fail
        refine (HV.out _).mono ?_
        rintro e w1 ⟨rfl, hb1⟩
        obtain ⟨d0, d1, d2⟩ := HA.out _ hb1
        have hb2 := (hbw.alloc (B := w.heap.size) (by have := hbw.size; omega) (.cells #[.bool t, .int .i64 n, .string s] 39)).trans (hb1.mono (by have := hbw.size; simp; omega))
        clear c0 c1 c2 hb1 hbw
        go_wp2_with fail
        refine (HS.out _).mono ?_
        rintro e w2 ⟨rfl, hb3⟩
        have hb4 := hb2.trans (hb3.mono hb2.size)
        clear d0 d1 d2 hb2 hb3
        go_wp2_with fail
        go_roundw
        case rel => exact ⟨j + 1, by omega, by go_num, by rw [HE.out, List.length_append]; go_num, HN.out HB'.out.symm, hb4⟩
        case measure => simp [intOf]; omega
    · obtain rfl : j = k.length := by omega
      rw [List.take_length] at hm ⊢
      have HC := Lib.hid (chk_good hm.out)
      have hl := encs_le k
      by_cases h256 : (K.encs k).length ≤ 256
      · rw [if_pos h256] at HC
        generalize K.encs k = es at *
        go_wp2_with fail
        go_ret
        exact ⟨by rw [HC.out]; rfl, hbw⟩
      · rw [if_neg h256] at HC
        generalize K.encs k = es at *
        have h257 : 256 < es.length := by omega
        clear h256
        go_wp2_with fail
        go_ret
        exact ⟨by rw [HC.out]; rfl, hbw⟩
end Go.Proofs.YtkanpdhlpobfoaaDoor
