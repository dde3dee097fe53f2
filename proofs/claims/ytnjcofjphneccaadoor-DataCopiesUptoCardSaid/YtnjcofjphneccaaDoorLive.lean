/-
  The example; live.
-/
import Derived.Test.YtnjcofjphneccaaDoorGet
import Derived.Test.YtnjcofjphneccaaDoorSm
import Derived.Test.YtnjcofjphneccaaDoorChk
import Derived.Test.YtnjcofjphneccaaDoorText
namespace Go.Proofs.YtnjcofjphneccaaDoor
open Go.RowKit

def abV : V := .mk 6 0 ⟨#[]⟩ [⟨#[0, 97]⟩, ⟨#[0, 98]⟩] [.mk 3 1 ⟨#[]⟩ [] [], .mk 5 0 ⟨#[]⟩ [] [.mk 1 0 ⟨#[]⟩ [] [], .mk 4 0 ⟨#[0, 120]⟩ [] []]]
theorem ab_chk : abV.chk = 0 := by decide
theorem ab_size : abV.size = 5 := by decide
theorem ab_out : abV.out.toArray = #[123, 34, 97, 34, 58, 49, 44, 34, 98, 34, 58, 91, 110, 117, 108, 108, 44, 34, 120, 34, 93, 125] := by kernel_rfl
theorem ab_got : got abV ⟨#[0, 97]⟩ = some (.mk 3 1 ⟨#[]⟩ [] []) := by kernel_rfl
theorem ab_bulk : abV.bulk ≤ 4194304 := by decide

theorem at_row {w : World} {g o : Nat} {cs : Array Value} {t : TypeId} {fr : Nat × Nat} {y : X} (h : w.heap[g]? = some (.cells cs t fr)) (h0 : cs[o]? = some (.int .i64 y.k)) (h1 : cs[o + 1]? = some (.int .i64 y.n)) (h2 : cs[o + 2]? = some (.string y.s))
    (h3 : cs[o + 3]? = some (.slice y.ka y.kn y.kc)) (h4 : cs[o + 4]? = some (.slice y.la y.ln y.lc)) : At w g o y :=
  ⟨(cell_of_row w g o _ _ _ h).trans h0, (cell_of_row w g (o + 1) _ _ _ h).trans h1, (cell_of_row w g (o + 2) _ _ _ h).trans h2, (cell_of_row w g (o + 3) _ _ _ h).trans h3, (cell_of_row w g (o + 4) _ _ _ h).trans h4⟩
theorem leaf_is (w : World) (B : Nat) (k n : Int) (s : ByteArray) : IsB w B (.mk k n s [] []) ⟨k, n, s, none, 0, 0, none, 0, 0⟩ := by
  rw [isB_iff]
  exact ⟨⟨rfl, rfl, rfl⟩, ⟨rfl, Nat.le_refl _, .inl rfl⟩, rfl, Nat.le_refl _, .inl rfl⟩
theorem ab_is {w : World} {s : Nat} (h1 : w.heap[s + 1]? = some (.cells #[.string ⟨#[0, 97]⟩, .string ⟨#[0, 98]⟩] 9 (0, 0)))
    (h2 : w.heap[s + 1 + 1]? = some (.cells #[.int .i64 1, .int .i64 0, .string ⟨#[]⟩, .slice none 0 0, .slice none 0 0, .int .i64 4, .int .i64 0, .string ⟨#[0, 120]⟩, .slice none 0 0, .slice none 0 0] 25 (0, 0)))
    (h3 : w.heap[s + 1 + 1 + 1]? = some (.cells #[.int .i64 3, .int .i64 1, .string ⟨#[]⟩, .slice none 0 0, .slice none 0 0, .int .i64 5, .int .i64 0, .string ⟨#[]⟩, .slice none 0 0, .slice (some ⟨s + 1 + 1, 0, none⟩) 2 2] 25 (0, 0))) :
    Is w abV ⟨6, 0, ⟨#[]⟩, some ⟨s + 1, 0, none⟩, 2, 2, some ⟨s + 1 + 1 + 1, 0, none⟩, 2, 2⟩ := by
  have l1 := (Array.getElem?_eq_some_iff.1 h1).1
  have l2 := (Array.getElem?_eq_some_iff.1 h2).1
  have l3 := (Array.getElem?_eq_some_iff.1 h3).1
  rw [is_iff]
  refine ⟨⟨rfl, rfl, rfl⟩, ⟨rfl, Nat.le_refl _, .inr ⟨s + 1, 0, rfl, l1, fun j hj => ?_⟩⟩, rfl, Nat.le_refl _, .inr ⟨_, 0, rfl, l3, ?_⟩⟩
  · rcases j with _ | _ | j
    · rw [cell_of_row w _ _ _ _ _ h1]
      rfl
    · rw [cell_of_row w _ _ _ _ _ h1]
      rfl
    · simp [abV, V.ks] at hj
      omega
  · show IsAllB w _ _ _ [_, _]
    rw [IsAllB, IsAllB, IsAllB]
    refine ⟨⟨⟨3, 1, ⟨#[]⟩, none, 0, 0, none, 0, 0⟩, at_row h3 rfl rfl rfl rfl rfl, leaf_is _ _ _ _ _⟩, ⟨⟨5, 0, ⟨#[]⟩, none, 0, 0, some ⟨s + 1 + 1, 0, none⟩, 2, 2⟩, at_row h3 rfl rfl rfl rfl rfl, ?_⟩, trivial⟩
    rw [isB_iff]
    refine ⟨⟨rfl, rfl, rfl⟩, ⟨rfl, Nat.le_refl _, .inl rfl⟩, rfl, Nat.le_refl _, .inr ⟨_, 0, rfl, l2, ?_⟩⟩
    show IsAllB w _ _ _ [_, _]
    rw [IsAllB, IsAllB, IsAllB]
    exact ⟨⟨⟨1, 0, ⟨#[]⟩, none, 0, 0, none, 0, 0⟩, at_row h2 rfl rfl rfl rfl rfl, leaf_is _ _ _ _ _⟩, ⟨⟨4, 0, ⟨#[0, 120]⟩, none, 0, 0, none, 0, 0⟩, at_row h2 rfl rfl rfl rfl rfl, leaf_is _ _ _ _ _⟩, trivial⟩

set_option maxRecDepth 8000 in
set_option maxHeartbeats 1000000 in
theorem ab_any (w : World) : Calls Tryd.prog 23 #[] w fun e w' => ∃ y, e = .returned y.v ∧ Is w' abV y ∧ Below w.heap.size w w' := by
  obtain ⟨i5, hi5, hz5, hs5, hb5⟩ := info_parts infoData
  go_enter Tryd.func23, Tryd.ntmps23
  go_wp2_with fail
  refine bodyPost_ret (results_cell_row rfl _ _ w.heap.size 25 _ (0, 0) _ rfl (hp_alloc (hp_alloc (hp_alloc (hp_new rfl)))) Tryd.underlying25 rfl (by rw [hi5]; simp [hs5])) rfl ⟨⟨6, 0, ⟨#[]⟩, some ⟨w.heap.size + 1, 0, none⟩, 2, 2, some ⟨w.heap.size + 1 + 1 + 1, 0, none⟩, 2, 2⟩, rfl, ab_is (hp_alloc (hp_alloc (hp_new (by simp)))) (hp_alloc (hp_new (by simp))) (hp_new (by simp)), ?_⟩
  repeat' (first | exact Below.refl _ _ | refine Below.alloc ?_ (by simp <;> omega) _)

theorem bad_is (w : World) : Is w (.mk 9 0 ⟨#[]⟩ [] []) ⟨9, 0, ⟨#[]⟩, none, 0, 0, none, 0, 0⟩ := leaf_is _ _ _ _ _
theorem bad_chk : V.chk (.mk 9 0 ⟨#[]⟩ [] []) = 30 := by decide
set_option maxRecDepth 8000 in
set_option maxHeartbeats 1000000 in
theorem live_any (w : World) (hT : Tab w) : Calls Tryd.prog 10 #[] w fun e w' => e = .returned (.bool true) ∧ Below w.heap.size w w' := by
  have HA := Lib.hid ab_any
  have HT := Lib.hid hT
  have HTx := Lib.hid fun y w' (h : Is w' abV y) (hb : Below w.heap.size w w') => text_any abV y w' h ab_bulk (HT.out.below hb)
  have HG := Lib.hid fun y w' (h : Is w' abV y) => get_any abV y ⟨#[0, 97]⟩ w' h ab_bulk
  have HS := Lib.hid fun y w' (h : Is w' abV y) => size_any abV y w' h ab_bulk
  have HM := Lib.hid fun y z w' (h : Is w' abV y) (h' : Is w' abV z) => same_any abV abV y z w' h h' ab_bulk
  have HC := Lib.hid fun w' => chk_any _ _ w' (bad_is w') (by decide)
  rw [ab_out, ab_chk] at HTx
  rw [ab_got] at HG
  rw [ab_size] at HS
  rw [bad_chk] at HC
  rw [same_yes rfl] at HM
  clear hT
  go_enter Tryd.func10, Tryd.ntmps10
  go_wp2_with fail
  refine (HA.out _).mono ?_
  rintro e w1 ⟨y1, rfl, hi1, hb1⟩
  go_wp2_with fail
  refine (HTx.out _ _ hi1 hb1).mono ?_
  rintro e w2 ⟨rfl, hb2⟩
  have HB2 := Lib.hid (hb1.trans (hb2.mono hb1.size))
  clear hb1 hb2 hi1
  go_wp2_with fail
  refine (HA.out _).mono ?_
  rintro e w3 ⟨y3, rfl, hi3, hb3⟩
  go_wp2_with fail
  refine (HG.out _ _ hi3).mono ?_
  rintro e w4 ⟨y4, rfl, hi4, hb4⟩
  have HB4 := Lib.hid (HB2.out.trans ((hb3.trans (hb4.mono hb3.size)).mono HB2.out.size))
  clear hb3 hb4 hi3 HB2
  have hn : y4.n = 1 := ((is_iff _ _ _).1 hi4).1.2.1
  obtain ⟨k4, n4, s4, ka4, kn4, kc4, la4, ln4, lc4⟩ := y4
  simp only at hn
  subst hn
  clear hi4
  unfold X.v
  go_wp2_with fail
  have hc : (w4.alloc (.cells #[.int .i64 k4, .int .i64 1, .string s4, .slice ka4 kn4 kc4, .slice la4 ln4 lc4] 25)).cell? ⟨w4.heap.size, 1, none⟩ = some (.int .i64 1) := by simp
  have hlt : w4.heap.size < (w4.alloc (.cells #[.int .i64 k4, .int .i64 1, .string s4, .slice ka4 kn4 kc4, .slice la4 ln4 lc4] 25)).heap.size := by simp
  have HB5 := Lib.hid (HB4.out.trans ((below_alloc w4 (.cells #[.int .i64 k4, .int .i64 1, .string s4, .slice ka4 kn4 kc4, .slice la4 ln4 lc4] 25)).mono HB4.out.size))
  generalize w4.alloc (.cells #[.int .i64 k4, .int .i64 1, .string s4, .slice ka4 kn4 kc4, .slice la4 ln4 lc4] 25) = w5 at *
  generalize w4.heap.size = b4 at *
  clear HB4
  refine (HA.out _).mono ?_
  rintro e w6 ⟨y6, rfl, hi6, hb6⟩
  go_wp2_with fail
  refine (HS.out _ _ hi6).mono ?_
  rintro e w7 ⟨rfl, hb7⟩
  have hb75 := hb6.trans (hb7.mono hb6.size)
  have hc7 : w7.cell? ⟨b4, 1, none⟩ = some (.int .i64 1) := (hb75.cell (p := ⟨b4, 1, none⟩) hlt).trans hc
  have HB7 := Lib.hid (HB5.out.trans (hb75.mono HB5.out.size))
  clear hb6 hb7 hi6 HB5 hb75 hc hlt
  go_wp2_with fail
  refine (HC.out _).mono ?_
  rintro e w8 ⟨rfl, hb8⟩
  have HB8 := Lib.hid (HB7.out.trans (hb8.mono HB7.out.size))
  clear hb8 HB7 hc7
  go_wp2_with fail
  refine (HA.out _).mono ?_
  rintro e w9 ⟨y9, rfl, hi9, hb9⟩
  go_wp2_with fail
  refine (HA.out _).mono ?_
  rintro e w10 ⟨y10, rfl, hi10, hb10⟩
  have HI9 := Lib.hid (Is.below hb10 _ _ hi9)
  have HI10 := Lib.hid hi10
  have HB10 := Lib.hid (HB8.out.trans ((hb9.trans (hb10.mono hb9.size)).mono HB8.out.size))
  clear hb9 hb10 hi9 hi10 HB8
  go_wp2_with fail
  refine (HM.out _ _ _ HI9.out HI10.out).mono ?_
  rintro e w11 ⟨rfl, hb11⟩
  have HB11 := Lib.hid (HB10.out.trans (hb11.mono HB10.out.size))
  clear hb11
  go_wp2_with fail
  go_ret
  exact ⟨rfl, HB11.out⟩
end Go.Proofs.YtnjcofjphneccaaDoor
