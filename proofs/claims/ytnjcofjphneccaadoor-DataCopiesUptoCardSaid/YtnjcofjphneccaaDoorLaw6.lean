/-
  THE LAW DataCopies.
-/
import Derived.Test.YtnjcofjphneccaaDoorLive
import Derived.Test.YtnjcofjphneccaaDoorRSm
import Derived.Test.YtnjcofjphneccaaDoorSpo
namespace Go.Proofs.YtnjcofjphneccaaDoor
open Go.RowKit

section
variable {w w' w'' : World} {v : V} {y : X} {T : Ty} {K : Ky}
theorem Copied.cov (h : Copied w w' v y T K) {k : Nat} (hk : Cov T K k) : w.heap.size ≤ k ∧ k < w'.heap.size := by
  refine ⟨h.hp0.high k (.inr hk), h.sp.lt k hk⟩
theorem Copied.none (h : Copied w w' v y T K) {k : Nat} (hk : k < w.heap.size ∨ w'.heap.size ≤ k) : T k = Option.none ∧ K k = Option.none :=
  ⟨Classical.byContradiction fun e => by have := h.cov (.inl e); omega, Classical.byContradiction fun e => by have := h.cov (.inr e); omega⟩
theorem Copied.is_cov (h : Copied w w' v y T K) (hfr : Fr (Cov T K) w' w'') : Is w'' v y :=
  (h.hp0.fr (hfr.mono fun k hk => hk.resolve_left (by omega))).read (Nat.zero_le _) _ _ (.inr h.own)
end

set_option maxRecDepth 20000 in
set_option maxHeartbeats 2000000 in
theorem copies_law (v : V) (x : X) (w : World) (h : Is w v x) (hbk : v.bulk ≤ 4194304) (hT : Tab w) :
    Calls Tryd.prog 6 #[x.v] w fun e w' => e = .returned (.bool true) ∧ Below w.heap.size w w' := by
  have HL := Lib.hid live_any
  have HT := Lib.hid hT
  have HI := Lib.hid fun w' (hb : Below w.heap.size w w') => Is.below hb _ _ h
  have HC := Lib.hid fun w' (hb : Below w.heap.size w w') => copy_any v x w' (Is.below hb _ _ h) hbk
  have HR := Lib.hid fun z w' (hb : Below w.heap.size w w') (hz : Is w' v z) => refSame_any v v z x w' hz (Is.below hb _ _ h) hbk
  have HM := Lib.hid fun z w' (hb : Below w.heap.size w w') (hz : Is w' v z) => same_any v v z x w' hz (Is.below hb _ _ h) hbk
  rw [same_yes rfl] at HR HM
  have HP := Lib.hid fun T K z w' (h1 : Sp w' T K) (h2 : Own1 T K v z) => spoil_any T K v z w' h1 h2 hbk
  obtain ⟨W0, hW0⟩ : ∃ W0, W0 = w.alloc (.cells x.cells 25) := ⟨_, rfl⟩
  obtain ⟨β, hβ⟩ : ∃ β, β = w.heap.size := ⟨_, rfl⟩
  have HB0 : Hid (Below w.heap.size w W0) := by subst hW0; exact below_alloc w _
  have hβ1 : β < W0.heap.size := by subst hW0 hβ; simp
  have HX0 : Hid (W0.heap[β]? = some (.cells x.cells 25 (0, 0))) := by subst hW0 hβ; exact hp_new rfl
  have hβw : w.heap.size ≤ β := by omega
  obtain ⟨k, n, s, ka, kn, kc, la, ln, lc⟩ := x
  simp only [X.v, X.cells] at *
  have HTR := Lib.hid fun w' (hb : Below W0.heap.size W0 w') => HB0.out.trans (hb.mono HB0.out.size)
  have HS0 : Hid (∀ w', Below W0.heap.size W0 w' → At w' β 0 ⟨k, n, s, ka, kn, kc, la, ln, lc⟩) := fun w' hb => at_of_block ((hb.block β hβ1).trans HX0.out)
  clear h hT hbk
  go_enter Tryd.func6, Tryd.ntmps6
  go_upto_region 1 with (fail)
  rw [← hβ, ← hW0]
  clear hW0 hβ
  go_wp2_with fail
  refine (HL.out _ (HT.out.below HB0.out)).mono ?_
  rintro e w1 ⟨rfl, hb1⟩
  have HB1 := Lib.hid hb1
  obtain ⟨c0, c1, c2, c3, c4⟩ := HS0.out _ hb1
  clear hb1
  go_wp2_with fail
  refine (HC.out _ (HTR.out _ HB1.out)).mono ?_
  rintro e w2 ⟨ya, Ta, Ka, rfl, hca⟩
  have HCA := Lib.hid hca
  obtain ⟨W2, hW2⟩ : ∃ W2, W2 = w2.alloc (.cells ya.cells 25) := ⟨_, rfl⟩
  obtain ⟨α, hα⟩ : ∃ α, α = w2.heap.size := ⟨_, rfl⟩
  have HA2 : Hid (W2.heap[α]? = some (.cells ya.cells 25 (0, 0))) := by subst hW2 hα; exact hp_new rfl
  have HB22 : Hid (Below w2.heap.size w2 W2) := by subst hW2; exact below_alloc w2 _
  have HB2 : Hid (Below W0.heap.size W0 W2) := HB1.out.trans ((hca.bel.trans (HB22.out.mono hca.bel.size)).mono HB1.out.size)
  have hαl : α < W2.heap.size := (Array.getElem?_eq_some_iff.1 HA2.out).1
  have HIA := Lib.hid fun w' (hb : Below W2.heap.size W2 w') => Is.below (HB22.out.trans (hb.mono HB22.out.size)) _ _ hca.is
  have hαe := Lib.hid hα
  clear c0 c1 c2 c3 c4 hca
  obtain ⟨ya0, hya⟩ : ∃ ya0, ya0 = ya := ⟨_, rfl⟩
  rw [← hya] at HIA HCA
  have HYA := Lib.hid hya
  clear hya
  obtain ⟨ak, an, as0, aka, akn, akc, ala, aln, alc⟩ := ya
  simp only [X.cells] at *
  go_upto_region 3 with (fail)
  rw [← hW2, ← hα]
  clear hW2 hα
  obtain ⟨c0, c1, c2, c3, c4⟩ := HS0.out _ HB2.out
  go_wp2_with fail
  refine (HC.out _ (HTR.out _ HB2.out)).mono ?_
  rintro e w3 ⟨yb, Tb, Kb, rfl, hcb⟩
  have HCB := Lib.hid hcb
  obtain ⟨W3, hW3⟩ : ∃ W3, W3 = w3.alloc (.cells yb.cells 25) := ⟨_, rfl⟩
  obtain ⟨κ, hκ⟩ : ∃ κ, κ = w3.heap.size := ⟨_, rfl⟩
  have HA3 : Hid (W3.heap[κ]? = some (.cells yb.cells 25 (0, 0))) := by subst hW3 hκ; exact hp_new rfl
  have HB33 : Hid (Below w3.heap.size w3 W3) := by subst hW3; exact below_alloc w3 _
  have hB23 : Hid (Below W2.heap.size W2 W3) := hcb.bel.trans (HB33.out.mono hcb.bel.size)
  have HB3 : Hid (Below W0.heap.size W0 W3) := HB2.out.trans (hB23.out.mono HB2.out.size)
  have hκl : κ < W3.heap.size := (Array.getElem?_eq_some_iff.1 HA3.out).1
  have hκe := Lib.hid hκ
  clear c0 c1 c2 c3 c4 hcb
  obtain ⟨yb0, hyb⟩ : ∃ yb0, yb0 = yb := ⟨_, rfl⟩
  rw [← hyb] at HCB
  have HYB := Lib.hid hyb
  clear hyb
  obtain ⟨bk, bn, bs0, bka, bkn, bkc, bla, bln, blc⟩ := yb
  simp only [X.cells] at *
  have HS3 : Hid (∀ w', Below W3.heap.size W3 w' → At w' β 0 ⟨k, n, s, ka, kn, kc, la, ln, lc⟩ ∧ At w' α 0 ⟨ak, an, as0, aka, akn, akc, ala, aln, alc⟩) := fun w' hb =>
    ⟨HS0.out w' (HB3.out.trans (hb.mono HB3.out.size)), at_of_block ((hb.block α (by have := hB23.out.size; omega)).trans ((hB23.out.block α hαl).trans HA2.out))⟩
  go_upto_region 4 with (fail)
  rw [← hW3, ← hκ]
  clear hW3 hκ
  obtain ⟨⟨c0, c1, c2, c3, c4⟩, ⟨d0, d1, d2, d3, d4⟩⟩ := HS3.out _ (Below.refl _ _)
  have HR1 := Lib.hid (HR.out ya0 W3 (HTR.out _ HB3.out) (HIA.out _ hB23.out))
  rw [HYA.out] at HR1
  simp only at HR1
  go_wp2_with fail
  refine HR1.out.mono ?_
  rintro e w4 ⟨rfl, hb4⟩
  have HB4 := Lib.hid hb4
  clear c0 c1 c2 c3 c4 d0 d1 d2 d3 d4 hb4
  obtain ⟨⟨c0, c1, c2, c3, c4⟩, ⟨d0, d1, d2, d3, d4⟩⟩ := HS3.out _ HB4.out
  have HSP4 : Hid (Sp w4 Ta Ka) := HCA.out.sp.below (HB22.out.trans ((hB23.out.trans (HB4.out.mono hB23.out.size)).mono HB22.out.size))
  have HP1 := Lib.hid (HP.out Ta Ka ya0 w4 HSP4.out HCA.out.own)
  rw [HYA.out] at HP1
  simp only at HP1
  go_wp2_with fail
  refine HP1.out.mono ?_
  rintro e w5 ⟨rfl, _, hf5⟩
  clear c0 c1 c2 c3 c4 d0 d1 d2 d3 d4
  have hz1 := HB0.out.size
  have hz2 := HB1.out.size
  have hz3 := HCA.out.bel.size
  have hz4 := HB22.out.size
  have hz5 := HCB.out.bel.size
  have hz6 := HB33.out.size
  have hz7 := HB4.out.size
  -- what is no block of the first copy's is as it was
  have hoff : ∀ q, q < w4.heap.size → (q < w1.heap.size ∨ w2.heap.size ≤ q) → w5.heap[q]? = w4.heap[q]? := fun q hq h => hf5.block q ⟨hq, HCA.out.none h⟩
  have HB5 : Hid (Below w.heap.size w w5) := by
    have h4 := (HTR.out _ HB3.out).trans (HB4.out.mono (HTR.out _ HB3.out).size)
    exact h4.trans ⟨hf5.os, hf5.tape, hf5.output, hf5.size, fun q hq => hoff q (by omega) (.inl (by omega))⟩
  have hI5 : Is w5 v yb0 := by
    refine HCB.out.is_cov ?_
    have h1 : Below w3.heap.size w3 w4 := HB33.out.trans (HB4.out.mono HB33.out.size)
    refine (Fr.of h1 fun q hq => (HCB.out.cov hq).2).trans ⟨hf5.os, hf5.tape, hf5.output, hf5.size, fun q hq => ?_⟩
    have := HCB.out.cov hq
    have := hαe.out
    exact hoff q (by omega) (.inr (by omega))
  have e1 : w5.heap[β]? = some (.cells #[.int .i64 k, .int .i64 n, .string s, .slice ka kn kc, .slice la ln lc] 25 (0, 0)) := by
    rw [hoff β (by omega) (.inl (by omega)), HB4.out.block β (by omega), HB3.out.block β hβ1]
    exact HX0.out
  have e2 : w5.heap[κ]? = some (.cells #[.int .i64 bk, .int .i64 bn, .string bs0, .slice bka bkn bkc, .slice bla bln blc] 25 (0, 0)) := by
    have := hκe.out
    rw [hoff κ (by omega) (.inr (by omega)), HB4.out.block κ hκl]
    exact HA3.out
  have HE1 := Lib.hid e1
  have HE2 := Lib.hid e2
  have HI5 := Lib.hid hI5
  have HZ5 := hf5.size
  have hβ5 : β < w5.heap.size := (Array.getElem?_eq_some_iff.1 e1).1
  have hκ5 : κ < w5.heap.size := (Array.getElem?_eq_some_iff.1 e2).1
  have HS5 : Hid (∀ w', Below w5.heap.size w5 w' → At w' β 0 ⟨k, n, s, ka, kn, kc, la, ln, lc⟩ ∧ At w' κ 0 ⟨bk, bn, bs0, bka, bkn, bkc, bla, bln, blc⟩) := fun w' hb =>
    ⟨at_of_block ((hb.block β hβ5).trans HE1.out), at_of_block ((hb.block κ hκ5).trans HE2.out)⟩
  clear hoff hf5 hI5 e1 e2 hz1 hz2 hz3 hz4 hz5 hz6 hz7 HZ5
  obtain ⟨⟨c0, c1, c2, c3, c4⟩, ⟨d0, d1, d2, d3, d4⟩⟩ := HS5.out _ (Below.refl _ _)
  have HR5 := Lib.hid (HR.out yb0 w5 HB5.out HI5.out)
  rw [HYB.out] at HR5
  simp only at HR5
  go_wp2_with fail
  refine HR5.out.mono ?_
  rintro e w6 ⟨rfl, hb6⟩
  have HB6 := Lib.hid hb6
  clear c0 c1 c2 c3 c4 d0 d1 d2 d3 d4 hb6
  obtain ⟨⟨c0, c1, c2, c3, c4⟩, ⟨d0, d1, d2, d3, d4⟩⟩ := HS5.out _ HB6.out
  have HB56 := Lib.hid (HB5.out.trans (HB6.out.mono HB5.out.size))
  have HM6 := Lib.hid (HM.out yb0 w6 HB56.out (Is.below HB6.out _ _ HI5.out))
  rw [HYB.out] at HM6
  simp only at HM6
  go_wp2_with fail
  refine HM6.out.mono ?_
  rintro e w7 ⟨rfl, hb7⟩
  go_wp2_with fail
  go_ret
  exact ⟨rfl, HB56.out.trans (hb7.mono HB56.out.size)⟩
end Go.Proofs.YtnjcofjphneccaaDoor
