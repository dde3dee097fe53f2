/-
  live.
-/
import Derived.Test.YtgehgccgologpaaZs
import Derived.Test.YtgehgccgologpaaZt
namespace Go.Proofs.Ytgehgccgologpaa.Z
open Go.RowKit Go.Shelf Go.Proofs.Ytgehgccgologpaa Go.Proofs.Ytgehgccgologpaa.R Go.Proofs.Ytgehgccgologpaa.T

abbrev e0 : ByteArray := ⟨#[]⟩
abbrev brkV : V := leaf 31 e0 0
abbrev loopV : V := kidsV 27 e0 [leaf 1 e0 1, kidsV 25 e0 [brkV]]
abbrev varV : V := kidsV 22 e0 [leaf 23 ⟨#[120]⟩ 0]
abbrev brkX : X := ⟨31, e0, 0, e0, none, 0, 0, none, 0, 0⟩
abbrev loopX (w : World) : X := ⟨27, e0, 0, e0, none, 0, 0, some ⟨w.heap.size + 1 + 1, 0, none⟩, 2, 2⟩
abbrev varX (w : World) : X := ⟨22, e0, 0, e0, none, 0, 0, some ⟨w.heap.size + 1 + 1 + 1 + 1, 0, none⟩, 1, 1⟩
theorem live_chs1 : chs (kidsV 41 e0 [loopV]) = 0 := by decide +kernel
theorem live_chs2 : chs (kidsV 41 e0 [brkV]) = 90 := by decide +kernel
theorem live_vars : vars [loopV, varV] = [⟨#[120]⟩] := by kernel_rfl
theorem live_start (w : World) : ∃ W, (((((((w.alloc (.cells brkX.cells 25)).alloc (.cells brkX.cells 25)).alloc (.cells #[.int .i64 1, .string e0, .int .i64 1, .string e0, .slice none 0 0, .slice none 0 0, .int .i64 25, .string e0, .int .i64 0, .string e0, .slice none 0 0, .slice (some ⟨w.heap.size + 1, 0, none⟩) 1 1] 25)).alloc (.cells (loopX w).cells 25)).alloc (.cells #[.int .i64 23, .string ⟨#[120]⟩, .int .i64 0, .string e0, .slice none 0 0, .slice none 0 0] 25)).alloc (.cells (varX w).cells 25)).alloc (.cells (loopX w).cells 25)) = W ∧
    Below w.heap.size w W ∧ RowB W W.heap.size (some ⟨w.heap.size + 1 + 1 + 1 + 1 + 1 + 1, 0, none⟩) [loopV] ∧ IsB W W.heap.size loopV (loopX w) ∧ IsB W W.heap.size varV (varX w) ∧
    At W w.heap.size 0 brkX ∧ At W (w.heap.size + 1 + 1 + 1) 0 (loopX w) ∧ At W (w.heap.size + 1 + 1 + 1 + 1 + 1) 0 (varX w) ∧ W.heap.size = w.heap.size + 7 := by
  obtain ⟨W, hW⟩ : ∃ W, (((((((w.alloc (.cells brkX.cells 25)).alloc (.cells brkX.cells 25)).alloc (.cells #[.int .i64 1, .string e0, .int .i64 1, .string e0, .slice none 0 0, .slice none 0 0, .int .i64 25, .string e0, .int .i64 0, .string e0, .slice none 0 0, .slice (some ⟨w.heap.size + 1, 0, none⟩) 1 1] 25)).alloc (.cells (loopX w).cells 25)).alloc (.cells #[.int .i64 23, .string ⟨#[120]⟩, .int .i64 0, .string e0, .slice none 0 0, .slice none 0 0] 25)).alloc (.cells (varX w).cells 25)).alloc (.cells (loopX w).cells 25)) = W := ⟨_, rfl⟩
  have hz : W.heap.size = w.heap.size + 7 := by rw [← hW]; simp
  have h0 : W.heap[w.heap.size]? = some (.cells brkX.cells 25) := by rw [← hW]; exact hp_alloc (hp_alloc (hp_alloc (hp_alloc (hp_alloc (hp_alloc (hp_new rfl))))))
  have h1 : W.heap[w.heap.size + 1]? = some (.cells brkX.cells 25) := by rw [← hW]; exact hp_alloc (hp_alloc (hp_alloc (hp_alloc (hp_alloc (hp_new (by simp))))))
  have h2 := show W.heap[w.heap.size + 1 + 1]? = some (.cells _ 25) by rw [← hW]; exact hp_alloc (hp_alloc (hp_alloc (hp_alloc (hp_new (by simp)))))
  have h3 : W.heap[w.heap.size + 1 + 1 + 1]? = some (.cells (loopX w).cells 25) := by rw [← hW]; exact hp_alloc (hp_alloc (hp_alloc (hp_new (by simp))))
  have h4 := show W.heap[w.heap.size + 1 + 1 + 1 + 1]? = some (.cells _ 25) by rw [← hW]; exact hp_alloc (hp_alloc (hp_new (by simp)))
  have h5 : W.heap[w.heap.size + 1 + 1 + 1 + 1 + 1]? = some (.cells (varX w).cells 25) := by rw [← hW]; exact hp_alloc (hp_new (by simp))
  have h6 : W.heap[w.heap.size + 1 + 1 + 1 + 1 + 1 + 1]? = some (.cells (loopX w).cells 25) := by rw [← hW]; exact hp_new (by simp)
  have hlp : IsB W W.heap.size loopV (loopX w) := row_is rfl (Nat.le_refl _) (.inr ⟨_, 0, rfl, by omega, ⟨⟨1, e0, 1, e0, none, 0, 0, none, 0, 0⟩, at_row h2 rfl rfl rfl rfl rfl rfl, leaf_is _ _ _ _ _⟩,
    ⟨⟨25, e0, 0, e0, none, 0, 0, some ⟨w.heap.size + 1, 0, none⟩, 1, 1⟩, at_row h2 rfl rfl rfl rfl rfl rfl, row_is rfl (Nat.le_refl _) (.inr ⟨_, 0, rfl, by omega, ⟨brkX, at_row h1 rfl rfl rfl rfl rfl rfl, leaf_is _ _ _ _ _⟩, trivial⟩)⟩, trivial⟩)
  have hvr : IsB W W.heap.size varV (varX w) := row_is rfl (Nat.le_refl _) (.inr ⟨_, 0, rfl, by omega, ⟨⟨23, ⟨#[120]⟩, 0, e0, none, 0, 0, none, 0, 0⟩, at_row h4 rfl rfl rfl rfl rfl rfl, leaf_is _ _ _ _ _⟩, trivial⟩)
  refine ⟨W, hW, ?_, .inr ⟨_, 0, rfl, by omega, ⟨loopX w, at_row h6 rfl rfl rfl rfl rfl rfl, hlp⟩, trivial⟩, hlp, hvr, at_row h0 rfl rfl rfl rfl rfl rfl, at_row h3 rfl rfl rfl rfl rfl rfl, at_row h5 rfl rfl rfl rfl rfl rfl, hz⟩
  rw [← hW]
  repeat' (first | exact Below.refl _ _ | refine Below.alloc ?_ (by simp <;> omega) _)
set_option maxRecDepth 8000 in
set_option maxHeartbeats 1000000 in
theorem live_any (w : World) : Calls Try.prog 9 #[] w (AnsB w true) := by
  have HS := Lib.hid (live_start w)
  go_enter Try.func9, Try.ntmps9
  go_wp2_with fail
  obtain ⟨W, hW, hb, hrow, hlp, hvr, a0, a3, a5, hz⟩ := HS.out
  dsimp only [X.cells] at hW
  rw [hW]
  have hbr : IsB W W.heap.size brkV brkX := leaf_is _ _ _ _ _
  have HP := Lib.hid (scheck_any (kidsV 41 e0 [loopV]) ⟨41, e0, 0, e0, none, 0, 0, some ⟨w.heap.size + 1 + 1 + 1 + 1 + 1 + 1, 0, none⟩, 1, 1⟩ W (row_is rfl (Nat.le_refl _) hrow) (by decide +kernel))
  rw [live_chs1] at HP
  have HAT : Hid (∀ W', Below W.heap.size W W' → At W' w.heap.size 0 brkX ∧ At W' (w.heap.size + 1 + 1 + 1) 0 (loopX w) ∧ At W' (w.heap.size + 1 + 1 + 1 + 1 + 1) 0 (varX w)) := fun W' h => ⟨a0.below (by omega) h, a3.below (by omega) h, a5.below (by omega) h⟩
  have HB := Lib.hid hb
  have HR2 : Hid (∀ W', Below W.heap.size W W' → RowB (W'.alloc (.cells brkX.cells 25)) (W'.heap.size + 1) (some ⟨W'.heap.size, 0, none⟩) [brkV]) := fun W' h => row_one W' W.heap.size (hbr.to h (Nat.le_refl _)) h.size
  have HR3 : Hid (∀ W', Below W.heap.size W W' → RowB (W'.alloc (.cells ((loopX w).cells ++ (varX w).cells) 25)) (W'.heap.size + 1) (some ⟨W'.heap.size, 0, none⟩) [loopV, varV]) := fun W' h => row_two W' W.heap.size (hlp.to h (Nat.le_refl _)) (hvr.to h (Nat.le_refl _)) h.size
  clear hW hb hrow hlp hvr a0 a3 a5 hz hbr
  refine HP.out.mono ?_
  rintro e W1 ⟨rfl, hb1⟩
  obtain ⟨⟨p0, p1, p2, p3, p4, p5⟩, ⟨q0, q1, q2, q3, q4, q5⟩, ⟨r0, r1, r2, r3, r4, r5⟩⟩ := HAT.out W1 hb1
  go_wp2_with fail
  have HP2 := Lib.hid (scheck_any (kidsV 41 e0 [brkV]) ⟨41, e0, 0, e0, none, 0, 0, some ⟨W1.heap.size, 0, none⟩, 1, 1⟩ (W1.alloc (.cells brkX.cells 25)) (row_is rfl (Nat.le_refl _) (by have := HR2.out W1 hb1; rwa [show (W1.alloc (.cells brkX.cells 25)).heap.size = W1.heap.size + 1 by simp])) (by decide +kernel))
  rw [live_chs2] at HP2
  have hb2 := hb1.trans ((below_alloc W1 (.cells brkX.cells 25)).mono hb1.size)
  have HB2 := Lib.hid hb2
  dsimp only [X.cells] at HP2 HB2
  clear hb2 hb1 p0 p1 p2 p3 p4 p5 q0 q1 q2 q3 q4 q5 r0 r1 r2 r3 r4 r5
  refine HP2.out.mono ?_
  rintro e W2 ⟨rfl, hbb⟩
  have hb3 := HB2.out.trans (hbb.mono HB2.out.size)
  obtain ⟨-, ⟨q0, q1, q2, q3, q4, q5⟩, ⟨r0, r1, r2, r3, r4, r5⟩⟩ := HAT.out W2 hb3
  have HB3 := Lib.hid hb3
  clear hbb
  go_wp2_with fail
  have HR := Lib.hid (HR3.out W2 hb3)
  have HB4 := Lib.hid (hb3.trans ((below_alloc W2 (.cells ((loopX w).cells ++ (varX w).cells) 25)).mono hb3.size))
  have HZ4 : Hid ((W2.alloc (.cells ((loopX w).cells ++ (varX w).cells) 25)).heap.size = W2.heap.size + 1) := by show _ = _; simp
  simp only [X.cells, List.append_toArray, List.cons_append, List.nil_append] at HR HB4 HZ4
  clear hb3 q0 q1 q2 q3 q4 q5 r0 r1 r2 r3 r4 r5
  obtain ⟨W3, hW3⟩ : ∃ W3, W2.alloc (.cells #[.int .i64 27, .string e0, .int .i64 0, .string e0, .slice none 0 0, .slice (some ⟨w.heap.size + 1 + 1, 0, none⟩) 2 2, .int .i64 22, .string e0, .int .i64 0, .string e0, .slice none 0 0, .slice (some ⟨w.heap.size + 1 + 1 + 1 + 1, 0, none⟩) 1 1] 25) = W3 := ⟨_, rfl⟩
  rw [hW3] at HR HB4 HZ4 ⊢
  clear hW3
  refine (vars_any [loopV, varV] (some ⟨W2.heap.size, 0, none⟩) 2 W3 (by rw [Row, HZ4.out]; exact HR.out) (Nat.le_refl _) (by decide +kernel)).mono ?_
  rintro e W5 ⟨nv, rfl, hown, hb5⟩
  rw [live_vars] at hown
  obtain ⟨A, c, rfl, hst⟩ : ∃ A c, nv = .slice A 1 c ∧ Strs W5 A [⟨#[120]⟩] := by
    obtain ⟨A, c, e, -, h⟩ := hown.form
    exact ⟨A, c, e, h⟩
  have HB5 := Lib.hid (HB.out.trans ((HB4.out.mono HB.out.size).trans (hb5.mono (Nat.le_trans HB.out.size HB4.out.size))))
  have HST := Lib.hid hst
  clear hown hb5 hst
  go_wp2_with fail
  have hbl := below_alloc W5 (.cells #[.string ⟨#[120]⟩] 9)
  have hs2 : Strs (W5.alloc (.cells #[.string ⟨#[120]⟩] 9)) (some ⟨W5.heap.size, 0, none⟩) [⟨#[120]⟩] := .inr ⟨_, 0, rfl, by simp, fun j hj => by
    have hj0 : j = 0 := by simpa using hj
    subst hj0
    simp⟩
  have HN := Lib.hid (same_any [⟨#[120]⟩] [⟨#[120]⟩] A (some ⟨W5.heap.size, 0, none⟩) c 1 _ (HST.out.below hbl) hs2 (by decide))
  rw [decide_eq_true (rfl : ([⟨#[120]⟩] : List ByteArray) = [⟨#[120]⟩])] at HN
  have HB6 := Lib.hid (HB5.out.trans (hbl.mono HB5.out.size))
  clear hbl hs2
  refine HN.out.mono ?_
  rintro e W6 ⟨rfl, hb6⟩
  have HB7 := Lib.hid (HB6.out.trans (hb6.mono HB6.out.size))
  clear hb6
  go_wp2_with fail
  go_ret
  exact ⟨rfl, HB7.out⟩
end Go.Proofs.Ytgehgccgologpaa.Z
