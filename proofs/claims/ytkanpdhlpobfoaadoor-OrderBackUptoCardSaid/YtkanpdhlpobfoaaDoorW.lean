/-
  live, by contract.
-/
import Derived.Test.YtkanpdhlpobfoaaDoorV
import Derived.Test.YtkanpdhlpobfoaaDoorN
namespace Go.Proofs.YtkanpdhlpobfoaaDoor
open Go.RowKit
open K (Pt)

theorem row_at {w : World} {g : Nat} (p : Pt) (h : w.heap[g]? = some (.cells #[.bool p.t, .int .i64 p.n, .string p.s] 39 (0, 0))) : Row w (some ⟨g, 0, none⟩) [p] := by
  refine .inr ⟨g, 0, rfl, (Array.getElem?_eq_some_iff.1 h).1, fun j hj => ?_⟩
  obtain rfl : j = 0 := by simpa using hj
  exact ⟨by rw [cell_of_row _ _ _ _ _ _ h]; rfl, by rw [cell_of_row _ _ _ _ _ _ h]; rfl, by rw [cell_of_row _ _ _ _ _ _ h]; rfl⟩
def pa : Pt := ⟨true, 0, ⟨#[0, 97]⟩⟩
def sa : ByteArray := ⟨#[32, 0, 255, 97, 0, 1]⟩
theorem enc_pa : K.encs [pa] = sa.data.toList := by decide +kernel
theorem may_pa : ∀ p ∈ [pa], p.may = true := by decide +kernel
theorem chk_pa : K.chk [pa] = 0 := K.chk_of may_pa (by rw [enc_pa]; decide)
theorem encV_pa : encV [pa] = .tuple #[.string sa, .int .i64 0] := by rw [encV_good chk_pa, enc_pa]
theorem decO_pa : decO sa = some [pa] := by
  unfold decO
  rw [if_pos (by decide)]
  exact (K.dec_iff _ _).2 ⟨enc_pa, may_pa⟩
theorem cmp_1 : K.cmpK [⟨false, 2, ⟨#[]⟩⟩] [⟨false, 10, ⟨#[]⟩⟩] = -1 := by decide +kernel
theorem cmp_2 : K.cmpK [⟨false, 10, ⟨#[]⟩⟩] [⟨true, 0, ⟨#[]⟩⟩] = -1 := by decide +kernel
theorem two_rows (w : World) (a b : Obj) : ((w.alloc a).alloc b).heap[w.heap.size]? = some a ∧ ((w.alloc a).alloc b).heap[w.heap.size + 1]? = some b := by
  constructor
  · show ((w.heap.push a).push b)[w.heap.size]? = some a
    rw [Array.getElem?_push, if_neg (by simp), Array.getElem?_push, if_pos rfl]
  · show ((w.heap.push a).push b)[w.heap.size + 1]? = some b
    rw [Array.getElem?_push, if_pos (by simp)]
theorem cmp_lits (p q : Pt) (w : World) : Calls Tryd.prog 20 #[.slice (some ⟨w.heap.size, 0, none⟩) 1 1, .slice (some ⟨w.heap.size + 1, 0, none⟩) 1 1] ((w.alloc (cellsP p)).alloc (cellsP q)) fun e w' => e = .returned (.int .i64 (K.cmpK [p] [q])) ∧ Below w.heap.size w w' :=
  (compare_any _ _ [p] [q] 1 1 _ (row_at p (two_rows w _ _).1) (row_at q (two_rows w _ _).2) (by show (1 : Nat) ≤ _; decide)).mono fun _ _ h => ⟨h.1, (below_two w _ _).trans (h.2.mono (by simp; omega))⟩
set_option maxRecDepth 8000 in
set_option maxHeartbeats 2000000 in
theorem live_any (w : World) (hM : Ml w) : Calls Tryd.prog 14 #[] w fun e w' => e = .returned (.bool true) ∧ Below w.heap.size w w' := by
  have hb0 := below_alloc w (cellsP pa)
  have hR0 := row_at (w := w.alloc (cellsP pa)) pa (hp_new rfl)
  have hE := encode_any _ [pa] 1 _ hR0 (by decide) (hM.below hb0)
  rw [encV_pa] at hE
  have HE : Hid (Calls Tryd.prog 10 #[.slice (some ⟨w.heap.size, 0, none⟩) 1 1] (w.alloc (.cells #[.bool true, .int .i64 0, .string ⟨#[0, 97]⟩] 39)) fun e w' => e = .returned (.tuple #[.string ⟨#[32, 0, 255, 97, 0, 1]⟩, .int .i64 0]) ∧ Below (w.heap.size + 1) (w.alloc (cellsP pa)) w') :=
    Lib.hid (hE.mono fun _ _ h => ⟨h.1, by have := h.2; simpa using this⟩)
  have HR0 : Hid (∀ w', Below (w.heap.size + 1) (w.alloc (cellsP pa)) w' → Row w' (some ⟨w.heap.size, 0, none⟩) [pa]) := Lib.hid fun w' h => hR0.below (by simpa using h)
  have HM : Hid (∀ w', Below w.heap.size w w' → Ml w') := Lib.hid fun w' h => hM.below h
  have HB : Hid (∀ w', Below (w.heap.size + 1) (w.alloc (cellsP pa)) w' → Below w.heap.size w w') := Lib.hid fun w' h => hb0.trans (h.mono (by omega))
  have HD : Hid (∀ w', Ml w' → Calls Tryd.prog 18 #[.string ⟨#[32, 0, 255, 97, 0, 1]⟩] w' fun e w'' => Below w'.heap.size w' w'' ∧ ∃ A c, e = .returned (.tuple #[.slice A 1 c, .int .i64 0]) ∧ Row w'' A [pa]) := Lib.hid fun w' h =>
    (decode_any sa w' h).mono fun e w'' ⟨hb, hc⟩ => by
      refine ⟨hb, ?_⟩
      rcases hc with ⟨k, A, c, h1, h2, _, h3⟩ | ⟨h1, _⟩
      · rw [decO_pa] at h1
        injection h1 with h1
        subst h1
        exact ⟨A, c, h2, h3⟩
      · rw [decO_pa] at h1; cases h1
  have HC1 := Lib.hid fun w => cmp_lits ⟨false, 2, ⟨#[]⟩⟩ ⟨false, 10, ⟨#[]⟩⟩ w
  have HC2 := Lib.hid fun w => cmp_lits ⟨false, 10, ⟨#[]⟩⟩ ⟨true, 0, ⟨#[]⟩⟩ w
  rw [cmp_1] at HC1
  rw [cmp_2] at HC2
  unfold cellsP at HC1 HC2
  clear hE hR0 hb0 hM
  go_enter Tryd.func14, Tryd.ntmps14
  go_wp2_with fail
  refine HE.out.mono ?_
  rintro e w1 ⟨rfl, hb1⟩
  have HB1 := Lib.hid (HB.out _ hb1)
  have HR1 := Lib.hid (HR0.out _ hb1)
  clear hb1
  go_wp2_with fail
  refine (HD.out _ (HM.out _ HB1.out)).mono ?_
  rintro e w2 ⟨hb2, A, c, rfl, hR2⟩
  have HS : Hid (Calls Tryd.prog 17 #[.slice A 1 c, .slice (some ⟨w.heap.size, 0, none⟩) 1 1] w2 fun e w' => e = .returned (.bool true) ∧ Below w2.heap.size w2 w') := Lib.hid (by
    have := same_any A (some ⟨w.heap.size, 0, none⟩) [pa] [pa] c 1 w2 hR2 (HR1.out.below hb2) (by decide)
    rw [same_yes rfl] at this
    exact this)
  have HB2 := Lib.hid (HB1.out.trans (hb2.mono HB1.out.size))
  clear hb2 hR2
  go_wp2_with fail
  refine HS.out.mono ?_
  rintro e w3 ⟨rfl, hb3⟩
  have HB3 := Lib.hid (HB2.out.trans (hb3.mono HB2.out.size))
  clear hb3
  go_wp2_with fail
  refine (HC1.out _).mono ?_
  rintro e w4 ⟨rfl, hb4⟩
  have HB4 := Lib.hid (HB3.out.trans (hb4.mono HB3.out.size))
  clear hb4
  go_wp2_with fail
  refine (HC2.out _).mono ?_
  rintro e w5 ⟨rfl, hb5⟩
  have HB5 := Lib.hid (HB4.out.trans (hb5.mono HB4.out.size))
  clear hb5
  go_wp2_with fail
  go_ret
  exact ⟨rfl, HB5.out⟩
end Go.Proofs.YtkanpdhlpobfoaaDoor
