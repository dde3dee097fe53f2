/-
  CompareFunc with comparePart, Compare, by contract.
-/
import Derived.Test.YtkanpdhlpobfoaaDoorJ
namespace Go.Proofs.YtkanpdhlpobfoaaDoor
open Go.RowKit
open K (Pt)

theorem cmpK_drop {k m : List Pt} {j : Nat} (h1 : j < k.length) (h2 : j < m.length) : K.cmpK (k.drop j) (m.drop j) = if K.cmpP k[j] m[j] = 0 then K.cmpK (k.drop (j + 1)) (m.drop (j + 1)) else K.cmpP k[j] m[j] := by
  rw [List.drop_eq_getElem_cons h1, List.drop_eq_getElem_cons h2]
  rfl
theorem cmpK_long {k m : List Pt} {j : Nat} (h1 : j < k.length) (h2 : m.length ≤ j) : K.cmpK (k.drop j) (m.drop j) = 1 := by
  rw [List.drop_eq_getElem_cons h1, List.drop_eq_nil_of_le h2]
  rfl
theorem cmpK_short {k m : List Pt} {j : Nat} (h1 : k.length ≤ j) (h2 : j < m.length) : K.cmpK (k.drop j) (m.drop j) = -1 := by
  rw [List.drop_eq_getElem_cons h2, List.drop_eq_nil_of_le h1]
  rfl
theorem cmpK_end {k m : List Pt} {j : Nat} (h1 : k.length ≤ j) (h2 : m.length ≤ j) : K.cmpK (k.drop j) (m.drop j) = 0 := by
  rw [List.drop_eq_nil_of_le h1, List.drop_eq_nil_of_le h2]
  rfl

set_option maxRecDepth 8000 in
set_option maxHeartbeats 1000000 in
theorem compareFunc_any (A B : Option Addr) (k m : List Pt) (c d : Nat) (w : World) (h : Row w A k) (h' : Row w B m) (hk : k.length ≤ 9223372036854775807) :
    Calls Tryd.prog 34 #[.slice A k.length c, .slice B m.length d, .func (.func 35) #[] #[]] w fun e w' => e = .returned (.int .i64 (K.cmpK k m)) ∧ Below w.heap.size w w' := by
  go_enter Tryd.func34, Tryd.ntmps34
  go_wp2_with fail
  go_loopw [13] (fun i wr => ∃ j : Nat, j ≤ k.length ∧ i = .int .i64 j ∧ Hid (K.cmpK k m = K.cmpK (k.drop j) (m.drop j)) ∧ Below w.heap.size w wr)
    (fun i _ => k.length - (intOf i).toNat)
  case atStart => exact ⟨0, Nat.zero_le _, rfl, rfl, Below.refl _ _⟩
  case round =>
    obtain ⟨j, hj, rfl, hh, hbw⟩ := hrel
    by_cases hlt : j < k.length
    · obtain ⟨g, o, rfl, hg, hp⟩ := h.at_ hlt
      have hp' := hp.below hg hbw
      by_cases hlt2 : j < m.length
      · obtain ⟨g2, o2, rfl, hg2, hq⟩ := h'.at_ hlt2
        have hq' := (hq.below hg2 hbw).below (B := wr.heap.size) (Nat.lt_of_lt_of_le hg2 hbw.size) (below_alloc wr (cellsP k[j]))
        obtain ⟨c0, c1, c2⟩ := hp'
        obtain ⟨d0, d1, d2⟩ := hq'
        have HC := Lib.hid fun w => comparePart_any k[j] m[j] w
        have HD := Lib.hid (cmpK_drop hlt hlt2)
        have hb2 := ((hbw.trans ((below_alloc wr (cellsP k[j])).mono hbw.size)).trans ((below_alloc (wr.alloc (cellsP k[j])) (cellsP m[j])).mono (by have := hbw.size; simp; omega)))
        obtain ⟨C, hC⟩ : ∃ C, C = K.cmpP k[j] m[j] := ⟨_, rfl⟩
        have hsg := K.cmpP_tot.sign k[j] m[j]
        rw [← hC] at HC HD hsg
        generalize k[j] = p at *
        generalize m[j] = q at *
        obtain ⟨t, n, s⟩ := p
        obtain ⟨t', n', s'⟩ := q
        unfold cellsP at *
        simp only [pV] at *
        clear hp hq hC h h'
        rcases hsg with rfl | rfl | rfl
        · rw [if_neg (by decide)] at HD
          have HV := Lib.hid (hh.out.trans HD.out)
          go_wp2_with fail
          refine (HC.out _).mono ?_
          rintro e w1 ⟨rfl, hb1⟩
          have hb3 := hb2.trans (hb1.mono hb2.size)
          clear c0 c1 c2 d0 d1 d2 hb1 hb2 hbw
          go_wp2_with fail
          go_ret
          exact ⟨by rw [HV.out]; rfl, hb3⟩
        · rw [if_pos rfl] at HD
          have HV := Lib.hid (hh.out.trans HD.out)
          go_wp2_with fail
          refine (HC.out _).mono ?_
          rintro e w1 ⟨rfl, hb1⟩
          have hb3 := hb2.trans (hb1.mono hb2.size)
          clear c0 c1 c2 d0 d1 d2 hb1 hb2 hbw
          go_wp2_with fail
          go_roundw
          case rel => exact ⟨j + 1, by omega, by go_num, HV, hb3⟩
          case measure => simp [intOf]; omega
        · rw [if_neg (by decide)] at HD
          have HV := Lib.hid (hh.out.trans HD.out)
          go_wp2_with fail
          refine (HC.out _).mono ?_
          rintro e w1 ⟨rfl, hb1⟩
          have hb3 := hb2.trans (hb1.mono hb2.size)
          clear c0 c1 c2 d0 d1 d2 hb1 hb2 hbw
          go_wp2_with fail
          go_ret
          exact ⟨by rw [HV.out]; rfl, hb3⟩
      · have hge : m.length ≤ j := by omega
        have HV := Lib.hid (hh.out.trans (cmpK_long hlt hge))
        have hb2 := (hbw.trans ((below_alloc wr (cellsP k[j])).mono hbw.size))
        obtain ⟨c0, c1, c2⟩ := hp'
        generalize k[j] = p at *
        obtain ⟨t, n, s⟩ := p
        unfold cellsP at *
        simp only at *
        clear hp h h' hlt2
        go_wp2_with fail
        go_ret
        exact ⟨by rw [HV.out]; rfl, hb2⟩
    · obtain rfl : j = k.length := by omega
      by_cases hlt2 : k.length < m.length
      · have HV := Lib.hid (hh.out.trans (cmpK_short (Nat.le_refl _) hlt2))
        go_wp2_with fail
        go_ret
        exact ⟨by rw [HV.out]; rfl, hbw⟩
      · have hge : m.length ≤ k.length := by omega
        have HV := Lib.hid (hh.out.trans (cmpK_end (Nat.le_refl _) hge))
        clear hlt2
        go_wp2_with fail
        go_ret
        exact ⟨by rw [HV.out]; rfl, hbw⟩

theorem compare_any (A B : Option Addr) (k m : List Pt) (c d : Nat) (w : World) (h : Row w A k) (h' : Row w B m) (hk : k.length ≤ 9223372036854775807) :
    Calls Tryd.prog 20 #[.slice A k.length c, .slice B m.length d] w fun e w' => e = .returned (.int .i64 (K.cmpK k m)) ∧ Below w.heap.size w w' := by
  have HC := Lib.hid (compareFunc_any A B k m c d w h h' hk)
  clear h h'
  generalize K.cmpK k m = r at *
  go_enter Tryd.func20, Tryd.ntmps20
  go_wp2_with fail
  refine HC.out.mono ?_
  rintro e w1 ⟨rfl, hb1⟩
  go_wp2_with fail
  go_ret
  exact ⟨rfl, hb1⟩
end Go.Proofs.YtkanpdhlpobfoaaDoor
