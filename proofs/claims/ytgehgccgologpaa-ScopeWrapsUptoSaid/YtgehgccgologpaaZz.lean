/-
  ScopeWraps. (gen_zz.py)
-/
import Derived.Test.YtgehgccgologpaaZy
import Derived.Laws.EntriesVeiled
import Derived.Test.YtgehgccgologpaaVv
namespace Go.Proofs.Ytgehgccgologpaa.Z
open Go.RowKit Go.Shelf Go.Proofs.Ytgehgccgologpaa Go.Proofs.Ytgehgccgologpaa.R Go.Proofs.Ytgehgccgologpaa.T

theorem leaf_bulk (k : Int) (nm : ByteArray) (n : Int) : (leaf k nm n).bulk = 1 + nm.size := by
  simp only [V.bulk, V.bulks, keysBulk]
  rfl
theorem kids_bulk (k : Int) (nm : ByteArray) (l : List V) : (kidsV k nm l).bulk = 1 + nm.size + V.bulks l := by
  simp only [V.bulk, keysBulk]
  rfl
theorem n0_size : n0.size = 0 := rfl
theorem two_start (w : World) (s : ByteArray) : ∃ W, (w.alloc (.cells (X.cells ⟨31, s, 0, n0, none, 0, 0, none, 0, 0⟩) 25)).alloc (.cells (X.cells ⟨32, s, 0, n0, none, 0, 0, none, 0, 0⟩) 25) = W ∧
    Below w.heap.size w W ∧ W.heap.size = w.heap.size + 2 ∧ At W w.heap.size 0 ⟨31, s, 0, n0, none, 0, 0, none, 0, 0⟩ ∧ At W (w.heap.size + 1) 0 ⟨32, s, 0, n0, none, 0, 0, none, 0, 0⟩ := by
  refine ⟨_, rfl, ?_, by simp, at_row (hp_alloc (hp_new rfl)) rfl rfl rfl rfl rfl rfl, at_row (hp_new (by simp)) rfl rfl rfl rfl rfl rfl⟩
  repeat' (first | exact Below.refl _ _ | refine Below.alloc ?_ (by simp <;> omega) _)
theorem wraps_start (w1 : World) : ∃ W, (((w1.alloc (.cells #[.func (.func 19) #[] #[]] 36)).alloc (.cells (X.cells ⟨31, n0, 0, n0, none, 0, 0, none, 0, 0⟩) 25)).alloc (.cells (X.cells ⟨32, n0, 0, n0, none, 0, 0, none, 0, 0⟩) 25)).alloc (.cells (X.cells ⟨33, n0, 0, n0, none, 0, 0, none, 0, 0⟩) 25) = W ∧
    Below w1.heap.size w1 W ∧ W.heap.size = w1.heap.size + 4 ∧ W.cell? ⟨w1.heap.size, 0, none⟩ = some (.func (.func 19) #[] #[]) ∧ At W (w1.heap.size + 1) 0 ⟨31, n0, 0, n0, none, 0, 0, none, 0, 0⟩ ∧ At W (w1.heap.size + 1 + 1) 0 ⟨32, n0, 0, n0, none, 0, 0, none, 0, 0⟩ ∧ At W (w1.heap.size + 1 + 1 + 1) 0 ⟨33, n0, 0, n0, none, 0, 0, none, 0, 0⟩ := by
  refine ⟨_, rfl, ?_, by simp, ?_, at_row (hp_alloc (hp_alloc (hp_new (by simp)))) rfl rfl rfl rfl rfl rfl, at_row (hp_alloc (hp_new (by simp))) rfl rfl rfl rfl rfl rfl, at_row (hp_new (by simp)) rfl rfl rfl rfl rfl rfl⟩
  · repeat' (first | exact Below.refl _ _ | refine Below.alloc ?_ (by simp <;> omega) _)
  · exact (cell_of_row _ w1.heap.size 0 _ _ _ (hp_alloc (hp_alloc (hp_alloc (hp_new rfl))))).trans rfl
set_option maxRecDepth 40000 in
set_option maxHeartbeats 4000000 in
theorem wraps_any (s : ByteArray) (w : World) (hs : s.size ≤ 2000000) : Calls Try.prog 7 #[.string s] w (AnsB w true) := by
  have HB0 := Lib.hid (below_alloc w (.cells #[.string s] 9))
  have HN0 : Hid ((w.alloc (.cells #[.string s] 9)).cell? ⟨w.heap.size, 0, none⟩ = some (.string s) ∧ (w.alloc (.cells #[.string s] 9)).heap.size = w.heap.size + 1) := ⟨by simp, by simp⟩
  have E1 := enters_of Try.func19 (by kernel_rfl) rfl
  have E2 := enters_of Try.func20 (by kernel_rfl) rfl
  have E3 := enters_of Try.func21 (by kernel_rfl) rfl
  have E4 := enters_of Try.func22 (by kernel_rfl) rfl
  have E5 := enters_of Try.func23 (by kernel_rfl) rfl
  go_enter Try.func7, Try.ntmps7
  go_wp2_with fail
  refine (live_any _).mono ?_
  rintro e w1 ⟨rfl, hb1⟩
  have HW1 := Lib.hid (HB0.out.trans (hb1.mono HB0.out.size))
  have HM1 := Lib.hid ((hb1.cell (p := ⟨w.heap.size, 0, none⟩) (by show w.heap.size < _; rw [HN0.out.2]; omega)).trans HN0.out.1)
  have HN1 : Hid (w.heap.size < w1.heap.size) := Nat.lt_of_lt_of_le (by rw [HN0.out.2]; omega) hb1.size
  have HS := Lib.hid (wraps_start w1)
  clear hb1
  go_wp2_with fail
  obtain ⟨W0, hW0, hbs, hzs, k0, k1, k2, k3⟩ := HS.out
  dsimp only [X.cells] at hW0
  rw [hW0]
  have HBW : Hid (Below W0.heap.size W0 W0) := Below.refl _ _
  have HSZ : Hid (w.heap.size < w1.heap.size ∧ W0.heap.size = w1.heap.size + 4) := ⟨HN1.out, hzs⟩
  have HWW := Lib.hid (HW1.out.trans (hbs.mono HW1.out.size))
  have HC : Hid (∀ w', Below W0.heap.size W0 w' → w'.cell? ⟨w1.heap.size, 0, none⟩ = some (.func (.func 19) #[] #[]) ∧ At w' (w1.heap.size + 1) 0 ⟨31, n0, 0, n0, none, 0, 0, none, 0, 0⟩ ∧ At w' (w1.heap.size + 1 + 1) 0 ⟨32, n0, 0, n0, none, 0, 0, none, 0, 0⟩ ∧ At w' (w1.heap.size + 1 + 1 + 1) 0 ⟨33, n0, 0, n0, none, 0, 0, none, 0, 0⟩ ∧ w'.cell? ⟨w.heap.size, 0, none⟩ = some (.string s)) := fun w' h =>
    ⟨(h.cell (p := ⟨w1.heap.size, 0, none⟩) (by show w1.heap.size < W0.heap.size; omega)).trans k0, k1.below (by omega) h, k2.below (by omega) h, k3.below (by omega) h, (h.cell (p := ⟨w.heap.size, 0, none⟩) (by show w.heap.size < W0.heap.size; have := HN1.out; omega)).trans ((hbs.cell (p := ⟨w.heap.size, 0, none⟩) HN1.out).trans HM1.out)⟩
  clear hW0 hbs hzs k0 k1 k2 k3 HS HN0 HM1 HW1 HB0
  refine (lop_any w1.heap.size (brk n0) ⟨31, n0, 0, n0, none, 0, 0, none, 0, 0⟩ W0 (leaf_is W0 _ 31 n0 0) (show w1.heap.size < _ by have := HBW.out.size; have := HSZ.out; omega) (HC.out _ HBW.out).1).mono ?_
  rintro e v1 ⟨z1, rfl, hz, hb⟩
  have HZ1 := Lib.hid hz
  have HB1 := Lib.hid (HBW.out.trans (hb.mono HBW.out.size))
  clear hb hz
  obtain ⟨f0, ⟨a0, a1, a2, a3, a4, a5⟩, ⟨b0, b1, b2, b3, b4, b5⟩, ⟨c0, c1, c2, c3, c4, c5⟩, m0⟩ := HC.out _ HB1.out
  go_wp2_with fail
  clear f0 a0 a1 a2 a3 a4 a5 b0 b1 b2 b3 b4 b5 c0 c1 c2 c3 c4 c5 m0
  refine (chk_any (lop (brk n0)) z1 v1 HZ1.out (by decide +kernel)).mono ?_
  rintro e v2 ⟨rfl, hb⟩
  have HB2 := Lib.hid (HB1.out.trans (hb.mono HB1.out.size))
  clear hb
  rw [wr_1]
  obtain ⟨f0, ⟨a0, a1, a2, a3, a4, a5⟩, ⟨b0, b1, b2, b3, b4, b5⟩, ⟨c0, c1, c2, c3, c4, c5⟩, m0⟩ := HC.out _ HB2.out
  go_wp2_with fail
  clear f0 a0 a1 a2 a3 a4 a5 b0 b1 b2 b3 b4 b5 c0 c1 c2 c3 c4 c5 m0
  refine (lop_any w1.heap.size (con n0) ⟨32, n0, 0, n0, none, 0, 0, none, 0, 0⟩ v2 (leaf_is v2 _ 32 n0 0) (show w1.heap.size < _ by have := HB2.out.size; have := HSZ.out; omega) (HC.out _ HB2.out).1).mono ?_
  rintro e v3 ⟨z3, rfl, hz, hb⟩
  have HZ3 := Lib.hid hz
  have HB3 := Lib.hid (HB2.out.trans (hb.mono HB2.out.size))
  clear hb hz
  obtain ⟨f0, ⟨a0, a1, a2, a3, a4, a5⟩, ⟨b0, b1, b2, b3, b4, b5⟩, ⟨c0, c1, c2, c3, c4, c5⟩, m0⟩ := HC.out _ HB3.out
  go_wp2_with fail
  clear f0 a0 a1 a2 a3 a4 a5 b0 b1 b2 b3 b4 b5 c0 c1 c2 c3 c4 c5 m0
  refine (chk_any (lop (con n0)) z3 v3 HZ3.out (by decide +kernel)).mono ?_
  rintro e v4 ⟨rfl, hb⟩
  have HB4 := Lib.hid (HB3.out.trans (hb.mono HB3.out.size))
  clear hb
  rw [wr_2]
  obtain ⟨f0, ⟨a0, a1, a2, a3, a4, a5⟩, ⟨b0, b1, b2, b3, b4, b5⟩, ⟨c0, c1, c2, c3, c4, c5⟩, m0⟩ := HC.out _ HB4.out
  go_wp2_with fail
  clear f0 a0 a1 a2 a3 a4 a5 b0 b1 b2 b3 b4 b5 c0 c1 c2 c3 c4 c5 m0
  refine (chk_any (brk n0) ⟨31, n0, 0, n0, none, 0, 0, none, 0, 0⟩ v4 (leaf_is v4 _ 31 n0 0) (by decide +kernel)).mono ?_
  rintro e v5 ⟨rfl, hb⟩
  have HB5 := Lib.hid (HB4.out.trans (hb.mono HB4.out.size))
  clear hb
  rw [wr_3]
  obtain ⟨f0, ⟨a0, a1, a2, a3, a4, a5⟩, ⟨b0, b1, b2, b3, b4, b5⟩, ⟨c0, c1, c2, c3, c4, c5⟩, m0⟩ := HC.out _ HB5.out
  go_wp2_with fail
  clear f0 a0 a1 a2 a3 a4 a5 b0 b1 b2 b3 b4 b5 c0 c1 c2 c3 c4 c5 m0
  refine (chk_any (con n0) ⟨32, n0, 0, n0, none, 0, 0, none, 0, 0⟩ v5 (leaf_is v5 _ 32 n0 0) (by decide +kernel)).mono ?_
  rintro e v6 ⟨rfl, hb⟩
  have HB6 := Lib.hid (HB5.out.trans (hb.mono HB5.out.size))
  clear hb
  rw [wr_4]
  obtain ⟨f0, ⟨a0, a1, a2, a3, a4, a5⟩, ⟨b0, b1, b2, b3, b4, b5⟩, ⟨c0, c1, c2, c3, c4, c5⟩, m0⟩ := HC.out _ HB6.out
  go_wp2_with fail
  clear f0 a0 a1 a2 a3 a4 a5 b0 b1 b2 b3 b4 b5 c0 c1 c2 c3 c4 c5 m0
  refine (fnc_any (leaf 33 n0 0) ⟨33, n0, 0, n0, none, 0, 0, none, 0, 0⟩ v6 (leaf_is v6 _ 33 n0 0)).mono ?_
  rintro e v7 ⟨z7, rfl, hz, hb⟩
  have HZ7 := Lib.hid hz
  have HB7 := Lib.hid (HB6.out.trans (hb.mono HB6.out.size))
  clear hb hz
  obtain ⟨f0, ⟨a0, a1, a2, a3, a4, a5⟩, ⟨b0, b1, b2, b3, b4, b5⟩, ⟨c0, c1, c2, c3, c4, c5⟩, m0⟩ := HC.out _ HB7.out
  go_wp2_with fail
  clear f0 a0 a1 a2 a3 a4 a5 b0 b1 b2 b3 b4 b5 c0 c1 c2 c3 c4 c5 m0
  refine (chk_any (fnc (leaf 33 n0 0)) z7 v7 HZ7.out (by decide +kernel)).mono ?_
  rintro e v8 ⟨rfl, hb⟩
  have HB8 := Lib.hid (HB7.out.trans (hb.mono HB7.out.size))
  clear hb
  rw [wr_5]
  obtain ⟨f0, ⟨a0, a1, a2, a3, a4, a5⟩, ⟨b0, b1, b2, b3, b4, b5⟩, ⟨c0, c1, c2, c3, c4, c5⟩, m0⟩ := HC.out _ HB8.out
  go_wp2_with fail
  clear f0 a0 a1 a2 a3 a4 a5 b0 b1 b2 b3 b4 b5 c0 c1 c2 c3 c4 c5 m0
  refine (lop_any w1.heap.size (leaf 33 n0 0) ⟨33, n0, 0, n0, none, 0, 0, none, 0, 0⟩ v8 (leaf_is v8 _ 33 n0 0) (show w1.heap.size < _ by have := HB8.out.size; have := HSZ.out; omega) (HC.out _ HB8.out).1).mono ?_
  rintro e v9 ⟨z9, rfl, hz, hb⟩
  have HZ9 := Lib.hid hz
  have HB9 := Lib.hid (HB8.out.trans (hb.mono HB8.out.size))
  clear hb hz
  obtain ⟨f0, ⟨a0, a1, a2, a3, a4, a5⟩, ⟨b0, b1, b2, b3, b4, b5⟩, ⟨c0, c1, c2, c3, c4, c5⟩, m0⟩ := HC.out _ HB9.out
  go_wp2_with fail
  clear f0 a0 a1 a2 a3 a4 a5 b0 b1 b2 b3 b4 b5 c0 c1 c2 c3 c4 c5 m0
  refine (chk_any (lop (leaf 33 n0 0)) z9 v9 HZ9.out (by decide +kernel)).mono ?_
  rintro e v10 ⟨rfl, hb⟩
  have HB10 := Lib.hid (HB9.out.trans (hb.mono HB9.out.size))
  clear hb
  rw [wr_6]
  obtain ⟨f0, ⟨a0, a1, a2, a3, a4, a5⟩, ⟨b0, b1, b2, b3, b4, b5⟩, ⟨c0, c1, c2, c3, c4, c5⟩, m0⟩ := HC.out _ HB10.out
  go_wp2_with fail
  clear f0 a0 a1 a2 a3 a4 a5 b0 b1 b2 b3 b4 b5 c0 c1 c2 c3 c4 c5 m0
  refine (fnc_any (brk n0) ⟨31, n0, 0, n0, none, 0, 0, none, 0, 0⟩ v10 (leaf_is v10 _ 31 n0 0)).mono ?_
  rintro e v11 ⟨z11, rfl, hz, hb⟩
  have HZ11 := Lib.hid hz
  have HB11 := Lib.hid (HB10.out.trans (hb.mono HB10.out.size))
  clear hb hz
  obtain ⟨f0, ⟨a0, a1, a2, a3, a4, a5⟩, ⟨b0, b1, b2, b3, b4, b5⟩, ⟨c0, c1, c2, c3, c4, c5⟩, m0⟩ := HC.out _ HB11.out
  go_wp2_with fail
  clear f0 a0 a1 a2 a3 a4 a5 b0 b1 b2 b3 b4 b5 c0 c1 c2 c3 c4 c5 m0
  refine (lop_any w1.heap.size (fnc (brk n0)) z11 v11 HZ11.out (show w1.heap.size < _ by have := HB11.out.size; have := HSZ.out; omega) (HC.out _ HB11.out).1).mono ?_
  rintro e v12 ⟨z12, rfl, hz, hb⟩
  have HZ12 := Lib.hid hz
  have HB12 := Lib.hid (HB11.out.trans (hb.mono HB11.out.size))
  clear hb hz
  obtain ⟨f0, ⟨a0, a1, a2, a3, a4, a5⟩, ⟨b0, b1, b2, b3, b4, b5⟩, ⟨c0, c1, c2, c3, c4, c5⟩, m0⟩ := HC.out _ HB12.out
  go_wp2_with fail
  clear f0 a0 a1 a2 a3 a4 a5 b0 b1 b2 b3 b4 b5 c0 c1 c2 c3 c4 c5 m0
  refine (chk_any (lop (fnc (brk n0))) z12 v12 HZ12.out (by decide +kernel)).mono ?_
  rintro e v13 ⟨rfl, hb⟩
  have HB13 := Lib.hid (HB12.out.trans (hb.mono HB12.out.size))
  clear hb
  rw [wr_7]
  obtain ⟨-, -, -, -, m0⟩ := HC.out _ HB13.out
  have htn := toList_nil s
  by_cases h0 : s.size = 0
  · have htn1 := htn.2 h0
    clear h0 htn
    go_wp2_with fail
    go_ret
    exact ⟨rfl, HWW.out.trans (HB13.out.mono HWW.out.size)⟩
  · have htn1 : ¬ s.toList = [] := fun e => h0 (htn.1 e)
    have htn2 : s.toList.isEmpty = false := by simpa using htn1
    have HS0 := Lib.hid h0
    clear h0 htn
    go_wp2_with fail
    have hbA := below_alloc v13 (.cells (X.cells ⟨31, s, 0, n0, none, 0, 0, none, 0, 0⟩) 25)
    have hr := row_one v13 _ (leaf_is v13 v13.heap.size 31 s 0) (Nat.le_refl _)
    have HRC := Lib.hid (R.refCheck_any (prg (brk s)) ⟨41, n0, 0, n0, none, 0, 0, some ⟨v13.heap.size, 0, none⟩, 1, 1⟩ (v13.alloc (.cells (X.cells ⟨31, s, 0, n0, none, 0, 0, none, 0, 0⟩) 25)) (row_is rfl (Nat.le_refl _) (by rw [show (v13.alloc (.cells (X.cells ⟨31, s, 0, n0, none, 0, 0, none, 0, 0⟩) 25)).heap.size = v13.heap.size + 1 by simp]; exact hr)) (by simp only [kids_bulk, leaf_bulk, V.bulks, n0_size]; omega))
    have HBA := Lib.hid (HB13.out.trans (hbA.mono HB13.out.size))
    dsimp only [X.cells] at HRC HBA
    clear hbA hr m0
    refine HRC.out.mono ?_
    rintro e v14 ⟨rfl, hb⟩
    have HB14 := Lib.hid (HBA.out.trans (hb.mono HBA.out.size))
    clear hb
    by_cases hch : (prg (brk s)).chk = 0
    · have HNM := Lib.hid (nm_of hch HS0.out)
      rw [hch]
      clear hch
      obtain ⟨f0, ⟨a0, a1, a2, a3, a4, a5⟩, ⟨b0, b1, b2, b3, b4, b5⟩, ⟨c0, c1, c2, c3, c4, c5⟩, m0⟩ := HC.out _ HB14.out
      have HS2 := Lib.hid (two_start v14 s)
      have hmA := ((below_alloc v14 (.cells (X.cells ⟨31, s, 0, n0, none, 0, 0, none, 0, 0⟩) 25)).cell (p := ⟨w.heap.size, 0, none⟩) (by show w.heap.size < v14.heap.size; have := HB14.out.size; have := HSZ.out; omega)).trans m0
      have hfA := (((below_alloc v14 (.cells (X.cells ⟨31, s, 0, n0, none, 0, 0, none, 0, 0⟩) 25)).alloc (by simp) (.cells (X.cells ⟨32, s, 0, n0, none, 0, 0, none, 0, 0⟩) 25)).cell (p := ⟨w1.heap.size, 0, none⟩) (by show w1.heap.size < v14.heap.size; have := HB14.out.size; have := HSZ.out; omega)).trans f0
      dsimp only [X.cells] at hmA hfA
      go_wp2_with fail
      obtain ⟨W5, hW5, hb5, hz5, g1, g2⟩ := HS2.out
      dsimp only [X.cells] at hW5
      rw [hW5]
      have HBX : Hid (Below W5.heap.size W5 W5) := Below.refl _ _
      have hk := HB14.out.size
      have hsz := HSZ.out
      have HB05 := Lib.hid (HB14.out.trans (hb5.mono HB14.out.size))
      have HC2 : Hid (∀ w', Below W5.heap.size W5 w' → w'.cell? ⟨w1.heap.size, 0, none⟩ = some (.func (.func 19) #[] #[]) ∧ At w' v14.heap.size 0 ⟨31, s, 0, n0, none, 0, 0, none, 0, 0⟩ ∧ At w' (v14.heap.size + 1) 0 ⟨32, s, 0, n0, none, 0, 0, none, 0, 0⟩ ∧ At w' (w1.heap.size + 1) 0 ⟨31, n0, 0, n0, none, 0, 0, none, 0, 0⟩ ∧ w'.cell? ⟨w.heap.size, 0, none⟩ = some (.string s)) := fun w' h => by
        obtain ⟨e1, e2, -, -, e3⟩ := HC.out w' (HB05.out.trans (h.mono HB05.out.size))
        exact ⟨e1, g1.below (by omega) h, g2.below (by omega) h, e2, e3⟩
      have HSZ : Hid (w.heap.size < w1.heap.size ∧ w1.heap.size < W5.heap.size) := ⟨hsz.1, by omega⟩
      clear f0 a0 a1 a2 a3 a4 a5 b0 b1 b2 b3 b4 b5 c0 c1 c2 c3 c4 c5 m0 hmA hfA hW5 hb5 hz5 g1 g2 hk hsz HS2
      refine (blk_any (brk s) ⟨31, s, 0, n0, none, 0, 0, none, 0, 0⟩ W5 (leaf_is W5 _ 31 s 0)).mono ?_
      rintro e v15 ⟨z15, rfl, hz, hb⟩
      have HZ15 := Lib.hid hz
      have HB15 := Lib.hid (HBX.out.trans (hb.mono HBX.out.size))
      clear hb hz
      obtain ⟨f0, ⟨a0, a1, a2, a3, a4, a5⟩, ⟨b0, b1, b2, b3, b4, b5⟩, ⟨c0, c1, c2, c3, c4, c5⟩, m0⟩ := HC2.out _ HB15.out
      go_wp2_with fail
      clear f0 a0 a1 a2 a3 a4 a5 b0 b1 b2 b3 b4 b5 c0 c1 c2 c3 c4 c5 m0
      refine (lab_any s w.heap.size (blk (brk s)) z15 v15 HZ15.out (show w.heap.size < _ by have := HB15.out.size; have := HSZ.out; omega) (HC2.out _ HB15.out).2.2.2.2).mono ?_
      rintro e v16 ⟨z16, rfl, hz, hb⟩
      have HZ16 := Lib.hid hz
      have HB16 := Lib.hid (HB15.out.trans (hb.mono HB15.out.size))
      clear hb hz
      obtain ⟨f0, ⟨a0, a1, a2, a3, a4, a5⟩, ⟨b0, b1, b2, b3, b4, b5⟩, ⟨c0, c1, c2, c3, c4, c5⟩, m0⟩ := HC2.out _ HB16.out
      go_wp2_with fail
      clear f0 a0 a1 a2 a3 a4 a5 b0 b1 b2 b3 b4 b5 c0 c1 c2 c3 c4 c5 m0
      refine (chk_any (lab s (blk (brk s))) z16 v16 HZ16.out (by simp only [kids_bulk, leaf_bulk, V.bulks, n0_size]; omega)).mono ?_
      rintro e v17 ⟨rfl, hb⟩
      have HB17 := Lib.hid (HB16.out.trans (hb.mono HB16.out.size))
      clear hb
      rw [wr_8 HNM.out HS0.out]
      obtain ⟨f0, ⟨a0, a1, a2, a3, a4, a5⟩, ⟨b0, b1, b2, b3, b4, b5⟩, ⟨c0, c1, c2, c3, c4, c5⟩, m0⟩ := HC2.out _ HB17.out
      go_wp2_with fail
      clear f0 a0 a1 a2 a3 a4 a5 b0 b1 b2 b3 b4 b5 c0 c1 c2 c3 c4 c5 m0
      refine (blk_any (con s) ⟨32, s, 0, n0, none, 0, 0, none, 0, 0⟩ v17 (leaf_is v17 _ 32 s 0)).mono ?_
      rintro e v18 ⟨z18, rfl, hz, hb⟩
      have HZ18 := Lib.hid hz
      have HB18 := Lib.hid (HB17.out.trans (hb.mono HB17.out.size))
      clear hb hz
      obtain ⟨f0, ⟨a0, a1, a2, a3, a4, a5⟩, ⟨b0, b1, b2, b3, b4, b5⟩, ⟨c0, c1, c2, c3, c4, c5⟩, m0⟩ := HC2.out _ HB18.out
      go_wp2_with fail
      clear f0 a0 a1 a2 a3 a4 a5 b0 b1 b2 b3 b4 b5 c0 c1 c2 c3 c4 c5 m0
      refine (lab_any s w.heap.size (blk (con s)) z18 v18 HZ18.out (show w.heap.size < _ by have := HB18.out.size; have := HSZ.out; omega) (HC2.out _ HB18.out).2.2.2.2).mono ?_
      rintro e v19 ⟨z19, rfl, hz, hb⟩
      have HZ19 := Lib.hid hz
      have HB19 := Lib.hid (HB18.out.trans (hb.mono HB18.out.size))
      clear hb hz
      obtain ⟨f0, ⟨a0, a1, a2, a3, a4, a5⟩, ⟨b0, b1, b2, b3, b4, b5⟩, ⟨c0, c1, c2, c3, c4, c5⟩, m0⟩ := HC2.out _ HB19.out
      go_wp2_with fail
      clear f0 a0 a1 a2 a3 a4 a5 b0 b1 b2 b3 b4 b5 c0 c1 c2 c3 c4 c5 m0
      refine (chk_any (lab s (blk (con s))) z19 v19 HZ19.out (by simp only [kids_bulk, leaf_bulk, V.bulks, n0_size]; omega)).mono ?_
      rintro e v20 ⟨rfl, hb⟩
      have HB20 := Lib.hid (HB19.out.trans (hb.mono HB19.out.size))
      clear hb
      rw [wr_9 HNM.out HS0.out]
      obtain ⟨f0, ⟨a0, a1, a2, a3, a4, a5⟩, ⟨b0, b1, b2, b3, b4, b5⟩, ⟨c0, c1, c2, c3, c4, c5⟩, m0⟩ := HC2.out _ HB20.out
      go_wp2_with fail
      clear f0 a0 a1 a2 a3 a4 a5 b0 b1 b2 b3 b4 b5 c0 c1 c2 c3 c4 c5 m0
      refine (lop_any w1.heap.size (con s) ⟨32, s, 0, n0, none, 0, 0, none, 0, 0⟩ v20 (leaf_is v20 _ 32 s 0) (show w1.heap.size < _ by have := HB20.out.size; have := HSZ.out; omega) (HC2.out _ HB20.out).1).mono ?_
      rintro e v21 ⟨z21, rfl, hz, hb⟩
      have HZ21 := Lib.hid hz
      have HB21 := Lib.hid (HB20.out.trans (hb.mono HB20.out.size))
      clear hb hz
      obtain ⟨f0, ⟨a0, a1, a2, a3, a4, a5⟩, ⟨b0, b1, b2, b3, b4, b5⟩, ⟨c0, c1, c2, c3, c4, c5⟩, m0⟩ := HC2.out _ HB21.out
      go_wp2_with fail
      clear f0 a0 a1 a2 a3 a4 a5 b0 b1 b2 b3 b4 b5 c0 c1 c2 c3 c4 c5 m0
      refine (lab_any s w.heap.size (lop (con s)) z21 v21 HZ21.out (show w.heap.size < _ by have := HB21.out.size; have := HSZ.out; omega) (HC2.out _ HB21.out).2.2.2.2).mono ?_
      rintro e v22 ⟨z22, rfl, hz, hb⟩
      have HZ22 := Lib.hid hz
      have HB22 := Lib.hid (HB21.out.trans (hb.mono HB21.out.size))
      clear hb hz
      obtain ⟨f0, ⟨a0, a1, a2, a3, a4, a5⟩, ⟨b0, b1, b2, b3, b4, b5⟩, ⟨c0, c1, c2, c3, c4, c5⟩, m0⟩ := HC2.out _ HB22.out
      go_wp2_with fail
      clear f0 a0 a1 a2 a3 a4 a5 b0 b1 b2 b3 b4 b5 c0 c1 c2 c3 c4 c5 m0
      refine (chk_any (lab s (lop (con s))) z22 v22 HZ22.out (by simp only [kids_bulk, leaf_bulk, V.bulks, n0_size]; omega)).mono ?_
      rintro e v23 ⟨rfl, hb⟩
      have HB23 := Lib.hid (HB22.out.trans (hb.mono HB22.out.size))
      clear hb
      rw [wr_10 HNM.out HS0.out]
      obtain ⟨f0, ⟨a0, a1, a2, a3, a4, a5⟩, ⟨b0, b1, b2, b3, b4, b5⟩, ⟨c0, c1, c2, c3, c4, c5⟩, m0⟩ := HC2.out _ HB23.out
      go_wp2_with fail
      clear f0 a0 a1 a2 a3 a4 a5 b0 b1 b2 b3 b4 b5 c0 c1 c2 c3 c4 c5 m0
      refine (lop_any w1.heap.size (brk s) ⟨31, s, 0, n0, none, 0, 0, none, 0, 0⟩ v23 (leaf_is v23 _ 31 s 0) (show w1.heap.size < _ by have := HB23.out.size; have := HSZ.out; omega) (HC2.out _ HB23.out).1).mono ?_
      rintro e v24 ⟨z24, rfl, hz, hb⟩
      have HZ24 := Lib.hid hz
      have HB24 := Lib.hid (HB23.out.trans (hb.mono HB23.out.size))
      clear hb hz
      obtain ⟨f0, ⟨a0, a1, a2, a3, a4, a5⟩, ⟨b0, b1, b2, b3, b4, b5⟩, ⟨c0, c1, c2, c3, c4, c5⟩, m0⟩ := HC2.out _ HB24.out
      go_wp2_with fail
      clear f0 a0 a1 a2 a3 a4 a5 b0 b1 b2 b3 b4 b5 c0 c1 c2 c3 c4 c5 m0
      refine (chk_any (lop (brk s)) z24 v24 HZ24.out (by simp only [kids_bulk, leaf_bulk, V.bulks, n0_size]; omega)).mono ?_
      rintro e v25 ⟨rfl, hb⟩
      have HB25 := Lib.hid (HB24.out.trans (hb.mono HB24.out.size))
      clear hb
      rw [wr_11 HNM.out HS0.out]
      obtain ⟨f0, ⟨a0, a1, a2, a3, a4, a5⟩, ⟨b0, b1, b2, b3, b4, b5⟩, ⟨c0, c1, c2, c3, c4, c5⟩, m0⟩ := HC2.out _ HB25.out
      go_wp2_with fail
      clear f0 a0 a1 a2 a3 a4 a5 b0 b1 b2 b3 b4 b5 c0 c1 c2 c3 c4 c5 m0
      refine (lab_any s w.heap.size (brk n0) ⟨31, n0, 0, n0, none, 0, 0, none, 0, 0⟩ v25 (leaf_is v25 _ 31 n0 0) (show w.heap.size < _ by have := HB25.out.size; have := HSZ.out; omega) (HC2.out _ HB25.out).2.2.2.2).mono ?_
      rintro e v26 ⟨z26, rfl, hz, hb⟩
      have HZ26 := Lib.hid hz
      have HB26 := Lib.hid (HB25.out.trans (hb.mono HB25.out.size))
      clear hb hz
      obtain ⟨f0, ⟨a0, a1, a2, a3, a4, a5⟩, ⟨b0, b1, b2, b3, b4, b5⟩, ⟨c0, c1, c2, c3, c4, c5⟩, m0⟩ := HC2.out _ HB26.out
      go_wp2_with fail
      clear f0 a0 a1 a2 a3 a4 a5 b0 b1 b2 b3 b4 b5 c0 c1 c2 c3 c4 c5 m0
      refine (lab_any s w.heap.size (lab s (brk n0)) z26 v26 HZ26.out (show w.heap.size < _ by have := HB26.out.size; have := HSZ.out; omega) (HC2.out _ HB26.out).2.2.2.2).mono ?_
      rintro e v27 ⟨z27, rfl, hz, hb⟩
      have HZ27 := Lib.hid hz
      have HB27 := Lib.hid (HB26.out.trans (hb.mono HB26.out.size))
      clear hb hz
      obtain ⟨f0, ⟨a0, a1, a2, a3, a4, a5⟩, ⟨b0, b1, b2, b3, b4, b5⟩, ⟨c0, c1, c2, c3, c4, c5⟩, m0⟩ := HC2.out _ HB27.out
      go_wp2_with fail
      clear f0 a0 a1 a2 a3 a4 a5 b0 b1 b2 b3 b4 b5 c0 c1 c2 c3 c4 c5 m0
      refine (chk_any (lab s (lab s (brk n0))) z27 v27 HZ27.out (by simp only [kids_bulk, leaf_bulk, V.bulks, n0_size]; omega)).mono ?_
      rintro e v28 ⟨rfl, hb⟩
      have HB28 := Lib.hid (HB27.out.trans (hb.mono HB27.out.size))
      clear hb
      rw [wr_12 HNM.out HS0.out]
      obtain ⟨f0, ⟨a0, a1, a2, a3, a4, a5⟩, ⟨b0, b1, b2, b3, b4, b5⟩, ⟨c0, c1, c2, c3, c4, c5⟩, m0⟩ := HC2.out _ HB28.out
      go_wp2_with fail
      clear f0 a0 a1 a2 a3 a4 a5 b0 b1 b2 b3 b4 b5 c0 c1 c2 c3 c4 c5 m0
      refine (fnc_any (brk s) ⟨31, s, 0, n0, none, 0, 0, none, 0, 0⟩ v28 (leaf_is v28 _ 31 s 0)).mono ?_
      rintro e v29 ⟨z29, rfl, hz, hb⟩
      have HZ29 := Lib.hid hz
      have HB29 := Lib.hid (HB28.out.trans (hb.mono HB28.out.size))
      clear hb hz
      obtain ⟨f0, ⟨a0, a1, a2, a3, a4, a5⟩, ⟨b0, b1, b2, b3, b4, b5⟩, ⟨c0, c1, c2, c3, c4, c5⟩, m0⟩ := HC2.out _ HB29.out
      go_wp2_with fail
      clear f0 a0 a1 a2 a3 a4 a5 b0 b1 b2 b3 b4 b5 c0 c1 c2 c3 c4 c5 m0
      refine (lab_any s w.heap.size (fnc (brk s)) z29 v29 HZ29.out (show w.heap.size < _ by have := HB29.out.size; have := HSZ.out; omega) (HC2.out _ HB29.out).2.2.2.2).mono ?_
      rintro e v30 ⟨z30, rfl, hz, hb⟩
      have HZ30 := Lib.hid hz
      have HB30 := Lib.hid (HB29.out.trans (hb.mono HB29.out.size))
      clear hb hz
      obtain ⟨f0, ⟨a0, a1, a2, a3, a4, a5⟩, ⟨b0, b1, b2, b3, b4, b5⟩, ⟨c0, c1, c2, c3, c4, c5⟩, m0⟩ := HC2.out _ HB30.out
      go_wp2_with fail
      clear f0 a0 a1 a2 a3 a4 a5 b0 b1 b2 b3 b4 b5 c0 c1 c2 c3 c4 c5 m0
      refine (chk_any (lab s (fnc (brk s))) z30 v30 HZ30.out (by simp only [kids_bulk, leaf_bulk, V.bulks, n0_size]; omega)).mono ?_
      rintro e v31 ⟨rfl, hb⟩
      have HB31 := Lib.hid (HB30.out.trans (hb.mono HB30.out.size))
      clear hb
      rw [wr_13 HNM.out HS0.out]
      obtain ⟨f0, ⟨a0, a1, a2, a3, a4, a5⟩, ⟨b0, b1, b2, b3, b4, b5⟩, ⟨c0, c1, c2, c3, c4, c5⟩, m0⟩ := HC2.out _ HB31.out
      go_wp2_with fail
      clear f0 a0 a1 a2 a3 a4 a5 b0 b1 b2 b3 b4 b5 c0 c1 c2 c3 c4 c5 m0
      go_ret
      exact ⟨rfl, HWW.out.trans ((HB05.out.trans (HB31.out.mono HB05.out.size)).mono HWW.out.size)⟩
    · have hne : ((prg (brk s)).chk == 0) = false := by rw [beq_eq_false_iff_ne]; exact hch
      have hne2 : ((prg (brk s)).chk != 0) = true := by rw [bne, hne]; rfl
      generalize (prg (brk s)).chk = ch at *
      go_wp2_with fail
      go_ret
      exact ⟨rfl, HWW.out.trans (HB14.out.mono HWW.out.size)⟩
end Go.Proofs.Ytgehgccgologpaa.Z
