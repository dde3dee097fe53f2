/-
  ScopeWraps: what wraps a node, by contract.
-/
import Derived.Test.YtgehgccgologpaaZx
import Derived.Test.YtgehgccgologpaaZu
import Derived.Test.YtgehgccgologpaaZr
namespace Go.Proofs.Ytgehgccgologpaa.Z
open Go.RowKit Go.Shelf Go.Proofs.Ytgehgccgologpaa Go.Proofs.Ytgehgccgologpaa.R Go.Proofs.Ytgehgccgologpaa.T

theorem putAt_row {w : World} {g : Nat} {a0 a1 a2 a3 a4 a5 : Value} {t : TypeId} {fr : Nat × Nat} (h : w.heap[g]? = some (.cells #[a0, a1, a2, a3, a4, a5] t fr)) (y : X) : (putAt w g 0 y).heap[g]? = some (.cells y.cells t fr) := by
  simp [putAt, World.setCell, Array.getElem?_modify, h, X.cells]
theorem below_putAt {B : Nat} {w w' : World} (h : Below B w w') {g : Nat} (hg : B ≤ g) (y : X) : Below B w (putAt w' g 0 y) := by
  unfold putAt
  exact ((((((h.setCell (p := ⟨g, 0, none⟩) hg _).setCell (p := ⟨g, 1, none⟩) hg _).setCell (p := ⟨g, 2, none⟩) hg _).setCell (p := ⟨g, 3, none⟩) hg _).setCell (p := ⟨g, 4, none⟩) hg _).setCell (p := ⟨g, 5, none⟩) hg _)
set_option maxRecDepth 8000 in
theorem blk_far (v : V) (y : X) (w : World) (n1 : Nat) (hy : IsB w n1 v y) (hn : n1 ≤ w.heap.size) : Calls Try.prog 19 #[y.v] w fun e w' => ∃ z : X, e = .returned z.v ∧ Below w.heap.size w w' ∧
    ∀ W', Below n1 w W' → (∀ k, w.heap.size ≤ k → k < w'.heap.size → W'.heap[k]? = w'.heap[k]?) → Is W' (blk v) z := by
  obtain ⟨i5, hi5, hz5, hs5, hb5⟩ := info_parts infoNd
  have HX := Lib.hid hy
  obtain ⟨xk, xnm, xn, xs, xka, xkn, xkc, xla, xln, xlc⟩ := y
  simp only [X.v]
  clear hy
  go_enter Try.func19, Try.ntmps19
  go_wp2_with fail
  have hz := hp_new (w := (w.alloc (.cells #[.int .i64 xk, .string xnm, .int .i64 xn, .string xs, .slice xka xkn xkc, .slice xla xln xlc] 25)).alloc (.cells #[.int .i64 25, .string ⟨#[]⟩, .int .i64 0, .string ⟨#[]⟩, .slice none 0 0, .slice (some ⟨w.heap.size + 1 + 1, 0, none⟩) 1 1] 25)) (o := .cells #[.int .i64 xk, .string xnm, .int .i64 xn, .string xs, .slice xka xkn xkc, .slice xla xln xlc] 25) (g := w.heap.size + 1 + 1) (by simp)
  refine bodyPost_ret (results_cell_row rfl _ _ (w.heap.size + 1) 25 _ (0, 0) _ rfl (hp_alloc (hp_new (by simp))) Try.underlying25 rfl (by rw [hi5]; simp [hs5])) rfl ⟨⟨25, n0, 0, n0, none, 0, 0, some ⟨w.heap.size + 1 + 1, 0, none⟩, 1, 1⟩, rfl, ?_, fun W' hW hk => ?_⟩
  · repeat' (first | exact Below.refl _ _ | refine Below.alloc ?_ (by simp <;> omega) _)
  · have hz2 := (hk (w.heap.size + 1 + 1) (by omega) (Array.getElem?_eq_some_iff.1 hz).1).trans hz
    exact row_is rfl (Nat.le_refl _) (.inr ⟨_, 0, rfl, (Array.getElem?_eq_some_iff.1 hz2).1, ⟨⟨xk, xnm, xn, xs, xka, xkn, xkc, xla, xln, xlc⟩, at_row hz2 rfl rfl rfl rfl rfl rfl, IsB.to hW (Nat.le_trans hn hW.size) _ _ HX.out⟩, trivial⟩)
theorem blk_any (v : V) (y : X) (w : World) (hy : Is w v y) : Calls Try.prog 19 #[y.v] w fun e w' => ∃ z : X, e = .returned z.v ∧ Is w' (blk v) z ∧ Below w.heap.size w w' :=
  (blk_far v y w w.heap.size hy (Nat.le_refl _)).mono fun _ w' ⟨z, h1, h2, h3⟩ => ⟨z, h1, h3 w' h2 fun _ _ _ => rfl, h2⟩
set_option maxRecDepth 8000 in
theorem fnc_any (v : V) (y : X) (w : World) (hy : Is w v y) : Calls Try.prog 21 #[y.v] w fun e w' => ∃ z : X, e = .returned z.v ∧ Is w' (fnc v) z ∧ Below w.heap.size w w' := by
  obtain ⟨i5, hi5, hz5, hs5, hb5⟩ := info_parts infoNd
  have HX := Lib.hid hy
  obtain ⟨xk, xnm, xn, xs, xka, xkn, xkc, xla, xln, xlc⟩ := y
  simp only [X.v]
  clear hy
  go_enter Try.func21, Try.ntmps21
  go_wp2_with fail
  have HE : Hid (∀ w5 : World, w5.heap[w.heap.size + 1 + 1]? = some (.cells #[.int .i64 xk, .string xnm, .int .i64 xn, .string xs, .slice xka xkn xkc, .slice xla xln xlc] 25) →
      w5.heap[w.heap.size + 1 + 1 + 1]? = some (.cells #[.int .i64 10, .string ⟨#[]⟩, .int .i64 0, .string ⟨#[]⟩, .slice none 0 0, .slice (some ⟨w.heap.size + 1 + 1, 0, none⟩) 1 1] 25) → Below w.heap.size w w5 →
      Is w5 (fnc v) ⟨24, ⟨#[]⟩, 0, ⟨#[]⟩, none, 0, 0, some ⟨w.heap.size + 1 + 1 + 1, 0, none⟩, 1, 1⟩) := fun w5 h2 h3 hb => by
    refine row_is rfl (Nat.le_refl _) (.inr ⟨_, 0, rfl, (Array.getElem?_eq_some_iff.1 h3).1, ⟨_, at_row h3 (y := ⟨10, ⟨#[]⟩, 0, ⟨#[]⟩, none, 0, 0, some ⟨w.heap.size + 1 + 1, 0, none⟩, 1, 1⟩) rfl rfl rfl rfl rfl rfl, ?_⟩, trivial⟩)
    exact row_is rfl (Nat.le_refl _) (.inr ⟨_, 0, rfl, (Array.getElem?_eq_some_iff.1 h2).1, ⟨⟨xk, xnm, xn, xs, xka, xkn, xkc, xla, xln, xlc⟩, at_row h2 rfl rfl rfl rfl rfl rfl, IsB.to hb hb.size _ _ HX.out⟩, trivial⟩)
  refine bodyPost_ret (results_cell_row rfl _ _ (w.heap.size + 1) 25 _ (0, 0) _ rfl (hp_alloc (hp_alloc (hp_new (by simp)))) Try.underlying25 rfl (by rw [hi5]; simp [hs5])) rfl ⟨⟨24, ⟨#[]⟩, 0, ⟨#[]⟩, none, 0, 0, some ⟨w.heap.size + 1 + 1 + 1, 0, none⟩, 1, 1⟩, rfl, HE.out _ (hp_alloc (hp_new (by simp))) (hp_new (by simp)) ?_, ?_⟩
  all_goals repeat' (first | exact Below.refl _ _ | refine Below.alloc ?_ (by simp <;> omega) _)
set_option maxRecDepth 8000 in
theorem lab_any (s : ByteArray) (p : Nat) (v : V) (y : X) (w : World) (hy : Is w v y) (hp : p < w.heap.size) (hc : w.cell? ⟨p, 0, none⟩ = some (.string s)) :
    Calls Try.prog 23 #[y.v, .pointer (some ⟨p, 0, none⟩)] w fun e w' => ∃ z : X, e = .returned z.v ∧ Is w' (lab s v) z ∧ Below w.heap.size w w' := by
  obtain ⟨i5, hi5, hz5, hs5, hb5⟩ := info_parts infoNd
  have HX := Lib.hid hy
  obtain ⟨xk, xnm, xn, xs, xka, xkn, xkc, xla, xln, xlc⟩ := y
  simp only [X.v]
  have hbA := below_alloc w (.cells #[.int .i64 xk, .string xnm, .int .i64 xn, .string xs, .slice xka xkn xkc, .slice xla xln xlc] 25)
  have hbB := hbA.alloc (Nat.le_of_lt (show w.heap.size < (w.alloc (.cells #[.int .i64 xk, .string xnm, .int .i64 xn, .string xs, .slice xka xkn xkc, .slice xla xln xlc] 25)).heap.size by simp)) (.cells #[.int .i64 0, .string ⟨#[]⟩, .int .i64 0, .string ⟨#[]⟩, .slice none 0 0, .slice none 0 0] 25)
  have hc2 := (hbB.cell (p := ⟨p, 0, none⟩) hp).trans hc
  clear hy hbA hbB
  go_enter Try.func23, Try.ntmps23
  go_wp2_with fail
  have HE : Hid (∀ w5 : World, w5.heap[w.heap.size + 1 + 1]? = some (.cells #[.int .i64 xk, .string xnm, .int .i64 xn, .string xs, .slice xka xkn xkc, .slice xla xln xlc] 25) → Below w.heap.size w w5 →
      Is w5 (lab s v) ⟨38, s, 0, n0, none, 0, 0, some ⟨w.heap.size + 1 + 1, 0, none⟩, 1, 1⟩) := fun w5 h2 hb => by
    exact row_is rfl (Nat.le_refl _) (.inr ⟨_, 0, rfl, (Array.getElem?_eq_some_iff.1 h2).1, ⟨⟨xk, xnm, xn, xs, xka, xkn, xkc, xla, xln, xlc⟩, at_row h2 rfl rfl rfl rfl rfl rfl, IsB.to hb hb.size _ _ HX.out⟩, trivial⟩)
  refine bodyPost_ret (results_cell_row rfl _ _ (w.heap.size + 1) 25 _ (0, 0) _ rfl (hp_alloc (hp_new (by simp))) Try.underlying25 rfl (by rw [hi5]; simp [hs5])) rfl ⟨⟨38, s, 0, n0, none, 0, 0, some ⟨w.heap.size + 1 + 1, 0, none⟩, 1, 1⟩, rfl, HE.out _ (hp_new (by simp)) ?_, ?_⟩
  all_goals repeat' (first | exact Below.refl _ _ | refine Below.alloc ?_ (by simp <;> omega) _)
set_option maxRecDepth 8000 in
set_option maxHeartbeats 1000000 in
theorem lop_any (p : Nat) (v : V) (y : X) (w : World) (hy : Is w v y) (hp : p < w.heap.size) (hc : w.cell? ⟨p, 0, none⟩ = some (.func (.func 19) #[] #[])) :
    Calls Try.prog 20 #[y.v, .pointer (some ⟨p, 0, none⟩)] w fun e w' => ∃ z : X, e = .returned z.v ∧ Is w' (lop v) z ∧ Below w.heap.size w w' := by
  obtain ⟨i5, hi5, hz5, hs5, hb5⟩ := info_parts infoNd
  have HX := Lib.hid hy
  have hbA := below_alloc w (.cells y.cells 25)
  have hbB := hbA.alloc (Nat.le_of_lt (show w.heap.size < (w.alloc (.cells y.cells 25)).heap.size by simp)) (.cells #[.int .i64 0, .string ⟨#[]⟩, .int .i64 0, .string ⟨#[]⟩, .slice none 0 0, .slice none 0 0] 25)
  have hc2 := (hbB.cell (p := ⟨p, 0, none⟩) hp).trans hc
  have HC := Lib.hid (blk_far v y _ w.heap.size (IsB.to hbB (Nat.le_refl _) _ _ hy) hbB.size)
  have HB := Lib.hid hbB
  obtain ⟨xk, xnm, xn, xs, xka, xkn, xkc, xla, xln, xlc⟩ := y
  simp only [X.v, X.cells] at HC HB hc2 ⊢
  clear hy hbA hbB
  have HENT := enters_of Try.func19 (by kernel_rfl) rfl
  go_enter Try.func20, Try.ntmps20
  go_wp2_with fail
  refine HC.out.mono ?_
  rintro e w1 ⟨⟨zk, znm, zn, zs, zka, zkn, zkc, zla, zln, zlc⟩, rfl, hb1, hz⟩
  dsimp only [X.v]
  have h1 : w1.heap[w.heap.size + 1]? = some (.cells #[.int .i64 0, .string ⟨#[]⟩, .int .i64 0, .string ⟨#[]⟩, .slice none 0 0, .slice none 0 0] 25) := (hb1.block _ (by simp)).trans (hp_new (by simp))
  have hwr : Below w.heap.size w w1 := HB.out.trans (hb1.mono (by simp; omega))
  have HZ := Lib.hid hz
  have hw15 := (Array.getElem?_eq_some_iff.1 h1).1
  obtain ⟨w2, hw2⟩ : ∃ w2, w1.alloc (.cells #[.int .i64 5, .string ⟨#[]⟩, .int .i64 0, .string ⟨#[]⟩, .slice none 0 0, .slice none 0 0, .int .i64 zk, .string znm, .int .i64 zn, .string zs, .slice zka zkn zkc, .slice zla zln zlc] 25) = w2 := ⟨_, rfl⟩
  have k1 : w2.heap[w.heap.size + 1]? = some (.cells #[.int .i64 0, .string ⟨#[]⟩, .int .i64 0, .string ⟨#[]⟩, .slice none 0 0, .slice none 0 0] 25) := by rw [← hw2]; exact hp_alloc h1
  have k2 : w2.heap[w1.heap.size]? = some (.cells #[.int .i64 5, .string ⟨#[]⟩, .int .i64 0, .string ⟨#[]⟩, .slice none 0 0, .slice none 0 0, .int .i64 zk, .string znm, .int .i64 zn, .string zs, .slice zka zkn zkc, .slice zla zln zlc] 25) := by rw [← hw2]; exact hp_new rfl
  have k3 : Below w1.heap.size w1 w2 := by rw [← hw2]; exact below_alloc _ _
  have HK1 := Lib.hid k1
  have HK2 := Lib.hid k2
  have HK3 := Lib.hid k3
  have HK5 := Lib.hid hw15
  have HWR := Lib.hid hwr
  have q0 : w2.cell? ⟨w.heap.size + 1, 0, none⟩ = some (.int .i64 0) := (cell_of_row w2 _ 0 _ _ _ k1).trans rfl
  have q1 : w2.cell? ⟨w.heap.size + 1, 1, none⟩ = some (.string ⟨#[]⟩) := (cell_of_row w2 _ 1 _ _ _ k1).trans rfl
  have q2 : w2.cell? ⟨w.heap.size + 1, 2, none⟩ = some (.int .i64 0) := (cell_of_row w2 _ 2 _ _ _ k1).trans rfl
  have q3 : w2.cell? ⟨w.heap.size + 1, 3, none⟩ = some (.string ⟨#[]⟩) := (cell_of_row w2 _ 3 _ _ _ k1).trans rfl
  have q4 : w2.cell? ⟨w.heap.size + 1, 4, none⟩ = some (.slice none 0 0) := (cell_of_row w2 _ 4 _ _ _ k1).trans rfl
  have q5 : w2.cell? ⟨w.heap.size + 1, 5, none⟩ = some (.slice none 0 0) := (cell_of_row w2 _ 5 _ _ _ k1).trans rfl
  have qf : ∀ j, w2.frozen? ⟨w.heap.size + 1, j, none⟩ = false := fun j => by simp [World.frozen?, k1]
  clear h1 hz hb1 hwr hw15 k1 k2 k3
  go_wp2_with (first | (rw [hw2]; fail) | fail)
  have HY : Hid (∀ y, Below w.heap.size w (putAt w2 (w.heap.size + 1) 0 y)) := fun y => below_putAt (HWR.out.trans (HK3.out.mono HWR.out.size)) (Nat.le_succ _) y
  refine bodyPost_ret (results_cell_row rfl _ _ (w.heap.size + 1) 25 _ (0, 0) _ rfl (putAt_row HK1.out ⟨27, n0, 0, n0, none, 0, 0, some ⟨w1.heap.size, 0, none⟩, 2, 2⟩) Try.underlying25 rfl (by rw [hi5]; simp [hs5, X.cells])) rfl ⟨⟨27, n0, 0, n0, none, 0, 0, some ⟨w1.heap.size, 0, none⟩, 2, 2⟩, rfl, ?_, HY.out ⟨27, n0, 0, n0, none, 0, 0, some ⟨w1.heap.size, 0, none⟩, 2, 2⟩⟩
  show Is (putAt w2 (w.heap.size + 1) 0 ⟨27, n0, 0, n0, none, 0, 0, some ⟨w1.heap.size, 0, none⟩, 2, 2⟩) (lop v) _
  have hoth : ∀ k, k ≠ w.heap.size + 1 → (putAt w2 (w.heap.size + 1) 0 ⟨27, n0, 0, n0, none, 0, 0, some ⟨w1.heap.size, 0, none⟩, 2, 2⟩).heap[k]? = w2.heap[k]? := fun k hk => putAt_heap _ _ _ _ _ hk
  have hk5 := HK5.out
  have hrow := (hoth w1.heap.size (by omega)).trans HK2.out
  have hb2 := HY.out ⟨27, n0, 0, n0, none, 0, 0, some ⟨w1.heap.size, 0, none⟩, 2, 2⟩
  have his := HZ.out (putAt w2 (w.heap.size + 1) 0 ⟨27, n0, 0, n0, none, 0, 0, some ⟨w1.heap.size, 0, none⟩, 2, 2⟩) ?_ fun k h1 h2 => (hoth k (by simp at h1; omega)).trans (HK3.out.block k h2)
  · exact row_is rfl (Nat.le_refl _) (.inr ⟨_, 0, rfl, (Array.getElem?_eq_some_iff.1 hrow).1, ⟨⟨5, n0, 0, n0, none, 0, 0, none, 0, 0⟩, at_row hrow rfl rfl rfl rfl rfl rfl, leaf_is _ _ _ _ _⟩, ⟨⟨zk, znm, zn, zs, zka, zkn, zkc, zla, zln, zlc⟩, at_row hrow rfl rfl rfl rfl rfl rfl, his⟩, trivial⟩)
  · refine ⟨hb2.os.trans HB.out.os.symm, hb2.tape.trans HB.out.tape.symm, hb2.output.trans HB.out.output.symm, ?_, fun k hk => (hb2.block k hk).trans (HB.out.block k hk).symm⟩
    have h1 := (Array.getElem?_eq_some_iff.1 hrow).1
    simp only [World.alloc, Array.size_push]
    omega
set_option maxRecDepth 8000 in
theorem chk_any (v : V) (y : X) (w : World) (hy : Is w v y) (hb : v.bulk ≤ 4194000) : Calls Try.prog 22 #[y.v] w fun e w' => e = .returned (.int .i64 (chs (prg v))) ∧ Below w.heap.size w w' := by
  have hbA := below_alloc w (.cells y.cells 25)
  have hzA : (w.alloc (.cells y.cells 25)).heap.size = w.heap.size + 1 := by simp
  have hr := row_one (w.alloc (.cells y.cells 25)) _ (Is.below hbA _ _ hy) (Nat.le_refl _)
  rw [hzA] at hr
  have hbB := hbA.trans ((below_alloc (w.alloc (.cells y.cells 25)) (.cells y.cells 25)).mono hbA.size)
  have hzB : ((w.alloc (.cells y.cells 25)).alloc (.cells y.cells 25)).heap.size = w.heap.size + 1 + 1 := by simp
  have HC := Lib.hid (scheck_any (prg v) ⟨41, n0, 0, n0, none, 0, 0, some ⟨w.heap.size + 1, 0, none⟩, 1, 1⟩ ((w.alloc (.cells y.cells 25)).alloc (.cells y.cells 25)) (row_is rfl (Nat.le_refl _) (by rw [hzB]; exact hr)) (by simp only [V.bulk, V.bulks, keysBulk]; show 1 + 0 + 0 + 0 + (v.bulk + 0) ≤ 4194304; omega))
  have HB := Lib.hid hbB
  obtain ⟨xk, xnm, xn, xs, xka, xkn, xkc, xla, xln, xlc⟩ := y
  simp only [X.v, X.cells] at HC HB ⊢
  clear hy hb hbA hzA hr hbB hzB
  go_enter Try.func22, Try.ntmps22
  go_wp2_with fail
  refine HC.out.mono ?_
  rintro e w1 ⟨rfl, hb1⟩
  have HB1 := Lib.hid (HB.out.trans (hb1.mono HB.out.size))
  clear hb1
  go_wp2_with fail
  go_ret
  exact ⟨rfl, HB1.out⟩
end Go.Proofs.Ytgehgccgologpaa.Z
