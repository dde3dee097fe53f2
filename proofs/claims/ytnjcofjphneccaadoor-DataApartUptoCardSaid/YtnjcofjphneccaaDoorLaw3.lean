/-
  THE LAW DataApart.
-/
import Derived.Test.YtnjcofjphneccaaDoorLive
import Derived.Test.YtnjcofjphneccaaDoorInj
import Derived.Test.YtnjcofjphneccaaDoorRSm
namespace Go.Proofs.YtnjcofjphneccaaDoor
open Go.RowKit

theorem out_same {a b : V} (ha : a.chk = 0) (hb : b.chk = 0) : (a.out == b.out) = same a b := by
  by_cases h : a = b
  · rw [same_yes h, h]
    simp
  · rw [same_no h, beq_eq_false_iff_ne]
    exact fun e => h ((out_iff ha hb).1 e)

set_option maxRecDepth 8000 in
set_option maxHeartbeats 1000000 in
theorem apart_law (a b : V) (x y : X) (w : World) (h : Is w a x) (h' : Is w b y) (hbk : a.bulk ≤ 4194304) (hbk' : b.bulk ≤ 4194304) (hT : Tab w) :
    Calls Tryd.prog 7 #[x.v, y.v] w fun e w' => e = .returned (.bool true) ∧ Below w.heap.size w w' := by
  have HL := Lib.hid live_any
  have HT := Lib.hid hT
  have HTa := Lib.hid fun w' (hb : Below w.heap.size w w') => text_any a x w' (Is.below hb _ _ h) hbk (HT.out.below hb)
  have HTb := Lib.hid fun w' (hb : Below w.heap.size w w') => text_any b y w' (Is.below hb _ _ h') hbk' (HT.out.below hb)
  have HR := Lib.hid fun w' (hb : Below w.heap.size w w') => refSame_any a b x y w' (Is.below hb _ _ h) (Is.below hb _ _ h') hbk
  obtain ⟨W0, hW0⟩ : ∃ W0, W0 = (w.alloc (.cells x.cells 25)).alloc (.cells y.cells 25) := ⟨_, rfl⟩
  obtain ⟨β, hβ⟩ : ∃ β, β = w.heap.size := ⟨_, rfl⟩
  obtain ⟨γ, hγ⟩ : ∃ γ, γ = w.heap.size + 1 := ⟨_, rfl⟩
  have HB0 : Hid (Below w.heap.size w W0) := by
    subst hW0
    exact (below_alloc w _).trans ((below_alloc _ _).mono (by simp))
  have HX0 : Hid (At W0 β 0 x) := by
    subst hW0 hβ
    exact ⟨by simp [X.cells], by simp [X.cells], by simp [X.cells], by simp [X.cells], by simp [X.cells]⟩
  have HY0 : Hid (At W0 γ 0 y) := by
    subst hW0 hγ
    exact ⟨by simp [X.cells], by simp [X.cells], by simp [X.cells], by simp [X.cells], by simp [X.cells]⟩
  have hβ1 : β < W0.heap.size := by subst hW0; simp; omega
  have hγ1 : γ < W0.heap.size := by subst hW0; simp; omega
  have HS0 : Hid (∀ w', Below W0.heap.size W0 w' → At w' β 0 x ∧ At w' γ 0 y) := fun w' hb => ⟨HX0.out.below hβ1 hb, HY0.out.below hγ1 hb⟩
  have HO := Lib.hid (out_same (a := a) (b := b))
  obtain ⟨k, n, s, ka, kn, kc, la, ln, lc⟩ := x
  obtain ⟨k', n', s', ka', kn', kc', la', ln', lc'⟩ := y
  simp only [X.v, X.cells] at *
  generalize same a b = B at *
  generalize a.out = ta at *
  generalize b.out = tb at *
  generalize a.chk = ca at *
  generalize b.chk = cb at *
  clear h h' hT hbk hbk' hβ1 hγ1 HX0 HY0
  go_enter Tryd.func7, Tryd.ntmps7
  go_upto_region 1 with (fail)
  rw [← hγ, ← hβ, ← hW0]
  clear hW0 hβ hγ
  go_wp2_with fail
  refine (HL.out _ (HT.out.below HB0.out)).mono ?_
  rintro e w1 ⟨rfl, hb1⟩
  obtain ⟨⟨c0, c1, c2, c3, c4⟩, ⟨d0, d1, d2, d3, d4⟩⟩ := HS0.out _ hb1
  have hB1 := Lib.hid hb1
  clear hb1
  go_wp2_with fail
  refine (HTa.out _ (HB0.out.trans (hB1.out.mono HB0.out.size))).mono ?_
  rintro e w2 ⟨rfl, hb2⟩
  have hB2 := Lib.hid (hB1.out.trans (hb2.mono hB1.out.size))
  clear c0 c1 c2 c3 c4 d0 d1 d2 d3 d4 hb2
  obtain ⟨⟨c0, c1, c2, c3, c4⟩, ⟨d0, d1, d2, d3, d4⟩⟩ := HS0.out _ hB2.out
  go_wp2_with fail
  refine (HTb.out _ (HB0.out.trans (hB2.out.mono HB0.out.size))).mono ?_
  rintro e w3 ⟨rfl, hb3⟩
  have hB3 := Lib.hid (hB2.out.trans (hb3.mono hB2.out.size))
  clear c0 c1 c2 c3 c4 d0 d1 d2 d3 d4 hb3
  obtain ⟨⟨c0, c1, c2, c3, c4⟩, ⟨d0, d1, d2, d3, d4⟩⟩ := HS0.out _ hB3.out
  have HF := Lib.hid (HB0.out.trans (hB3.out.mono HB0.out.size))
  by_cases ha : ca = 0
  · subst ha
    by_cases hb : cb = 0
    · subst hb
      have hq := HO.out rfl rfl
      clear HO
      go_wp2_with fail
      refine (HR.out _ HF.out).mono ?_
      rintro e w4 ⟨rfl, hb4⟩
      go_wp2_with fail
      go_ret
      exact ⟨by simp, HF.out.trans (hb4.mono HF.out.size)⟩
    · have h1 : (cb == 0) = false := by rw [beq_eq_false_iff_ne]; exact hb
      have h2 : (cb != 0) = true := by rw [bne_iff_ne]; exact hb
      clear hb HO
      go_wp2_with fail
      go_ret
      exact ⟨rfl, HF.out⟩
  · have h1 : (ca == 0) = false := by rw [beq_eq_false_iff_ne]; exact ha
    have h2 : (ca != 0) = true := by rw [bne_iff_ne]; exact ha
    clear ha HO
    go_wp2_with fail
    go_ret
    exact ⟨rfl, HF.out⟩
end Go.Proofs.YtnjcofjphneccaaDoor
