/-
  NumberBack: the walk.
-/
import Derived.Test.YtjgafhodogbemaaDoorI
import Derived.Test.YtjgafhodogbemaaDoorM
import Derived.Deep.RegionHeld3
namespace Go.Proofs.YtjgafhodogbemaaDoor.N
open Go.RowKit Go.Proofs.YtjgafhodogbemaaDoor

theorem idx5 (x : Int) : ∃ i : Nat, i < 5 ∧ IntKind.i64.wrap (x.tmod 5 + 5) = x.tmod 5 + 5 ∧ (x.tmod 5 + 5).tmod 5 = (i : Int) := by
  have h1 : -5 < x.tmod 5 := Int.lt_tmod_of_pos x (by omega)
  have h2 : x.tmod 5 < 5 := Int.tmod_lt_of_pos x (by omega)
  have h3 := Int.tmod_nonneg (a := x.tmod 5 + 5) 5 (by omega)
  have h4 := Int.tmod_lt_of_pos (x.tmod 5 + 5) (b := 5) (by omega)
  exact ⟨((x.tmod 5 + 5).tmod 5).toNat, by omega, IntWalk.i64_in _ (by omega), by omega⟩
theorem cell_bl (w : World) (i : Nat) (hi : i < 5) : (w.alloc (.cells #[.string ⟨#[]⟩, .string ⟨#[0, 32]⟩, .string ⟨#[0, 9]⟩, .string ⟨#[0, 160]⟩, .string ⟨#[254, 255, 0, 10]⟩] 32)).cell? ⟨w.heap.size, i, none⟩ = some (.string (bz (bl i))) := by
  refine new_cells w _ _ i _ ?_
  obtain rfl | rfl | rfl | rfl | rfl : i = 0 ∨ i = 1 ∨ i = 2 ∨ i = 3 ∨ i = 4 := by omega
  all_goals rfl
theorem undrew' {B : Nat} {w w' : World} (h : Below B w.drew w') : Below B w w' := (Below.refl _ _).drew.trans h
/-- what Read answers of a text with blanks around it -/
theorem read_around (n : Int) (hn : -9223372036854775808 ≤ n ∧ n ≤ 9223372036854775807) (i k : Nat) (w : World) :
    Calls Tryd.prog 22 #[.string (bz (bl i) ++ tx n ++ bz (bl k))] w fun e w' => e = .returned (.tuple #[.int .i64 (nv (inr n)), .int .i64 (er (inr n))]) ∧ Below w.heap.size w w' := by
  have hl := Lib.itoa_length_le n hn.1 hn.2
  have h1 := bl_len i
  have h2 := bl_len k
  have hu : (un (Lib.itoa n)).length = (Lib.itoa n).length := by unfold un; rw [List.length_map]
  unfold tx
  rw [bz_app, bz_app]
  have := read_any (bz (bl i ++ un (Lib.itoa n) ++ bl k)) w (by rw [bz_size, List.length_append, List.length_append]; omega)
  rw [rd_around _ _ n (bl_un i) (bl_un k) (bl_sp i) (bl_sp k)] at this
  exact this
theorem tx_size (n : Int) (hn : -9223372036854775808 ≤ n ∧ n ≤ 9223372036854775807) : (tx n).size ≤ 42 := by
  have hl := Lib.itoa_length_le n hn.1 hn.2
  unfold tx
  rw [bz_size]
  unfold un
  rw [List.length_map]
  omega
theorem bl_size (i : Nat) : (bz (bl i)).size ≤ 4 := by
  have := bl_len i
  rw [bz_size]
  omega
set_option maxRecDepth 8000 in
set_option maxHeartbeats 1000000 in
theorem back_law (n x y : Int) (w : World) (hn : -9223372036854775808 ≤ n ∧ n ≤ 9223372036854775807) (hT : Tab w) :
    Calls Tryd.prog 5 #[.int .i64 n, .int .i64 x, .int .i64 y] w fun e w' => e = .returned (.bool true) ∧ Below w.heap.size w w' := by
  obtain ⟨i, hi, ex1, ex2⟩ := idx5 x
  obtain ⟨k, hk, ey1, ey2⟩ := idx5 y
  have hi2 : (i : Int) < 5 := by omega
  have hk2 : (k : Int) < 5 := by omega
  have HR := Lib.hid fun w => read_around n hn i k w
  have HC := Lib.hid fun w => check_n n w
  have hse := Lib.hid (er_inr n)
  have hsn : Hid (sf n = true → nv (inr n) = n) := Lib.hid fun h => by rw [inr_some h]; rfl
  have hz1 := bl_size i
  have hz2 := bl_size k
  have hz3 := tx_size n hn
  have HTx := Lib.hid fun w (h : Tab w) => text_any n hn.1 hn.2 w h
  go_enter Tryd.func5, Tryd.ntmps5
  go_wp2_with fail
  refine (live_any _ hT).mono ?_
  rintro e w1 ⟨rfl, hb1⟩
  go_wp2_with fail
  have HI := cell_bl w1 i hi
  have HK := cell_bl w1 k hk
  have HB : Below w.heap.size w (w1.alloc (.cells #[.string ⟨#[]⟩, .string ⟨#[0, 32]⟩, .string ⟨#[0, 9]⟩, .string ⟨#[0, 160]⟩, .string ⟨#[254, 255, 0, 10]⟩] 32)) := hb1.alloc hb1.size _
  have hg := World.block_lt_of_cell? _ _ HI
  have HTA := Lib.hid (hT.below HB)
  clear hb1
  generalize bz (bl i) = bi at *
  generalize bz (bl k) = bk at *
  generalize tx n = t at *
  generalize w1.alloc (.cells #[.string ⟨#[]⟩, .string ⟨#[0, 32]⟩, .string ⟨#[0, 9]⟩, .string ⟨#[0, 160]⟩, .string ⟨#[254, 255, 0, 10]⟩] 32) = wA at *
  generalize w1.heap.size = g at *
  have HI2 : Hid (∀ w', Below wA.heap.size wA w' → w'.cell? ⟨g, i, none⟩ = some (.string bi)) := Lib.hid fun w' h => (h.cell (p := ⟨g, i, none⟩) hg).trans HI
  have HK2 : Hid (∀ w', Below wA.heap.size wA w' → w'.cell? ⟨g, k, none⟩ = some (.string bk)) := Lib.hid fun w' h => (h.cell (p := ⟨g, k, none⟩) hg).trans HK
  have HT2 : Hid (∀ w', Below wA.heap.size wA w' → Calls Tryd.prog 24 #[.int .i64 n] w' fun e w'' => e = .returned (.string t) ∧ Below w'.heap.size w' w'') := Lib.hid fun w' h => HTx.out w' (HTA.out.below h)
  have HB := Lib.hid HB
  have hq1 : ∀ w' : World, (Op.stringOp .add bi t).run Tryd.prog w' = .ok (.string (bi ++ t)) w' := fun w' => run_string_add_sum w' _ _ (by omega)
  have hq2 : ∀ w' : World, (Op.stringOp .add (bi ++ t) bk).run Tryd.prog w' = .ok (.string (bi ++ t ++ bk)) w' := fun w' => run_string_add_sum w' _ _ (by rw [ByteArray.size_append]; omega)
  clear hn hT HTx HTA hz1 hz2 hz3 hi hk ex1 ex2 ey1 ey2
  go_region_held3 (fun w' => w'.cell? ⟨g, i, none⟩ = some (.string bi) ∧ w'.cell? ⟨g, k, none⟩ = some (.string bk)) (first | go_keep) ((first
    | (go_at_call 24; refine (HT2.out _ ?b).mono ?_; (case b => exact (Below.refl _ _).drew); rintro e w2 ⟨rfl, hb2⟩; have hb3 := undrew' hb2; have e1 := HI2.out _ hb3; have e2 := HK2.out _ hb3)
    | (go_at_call 22; refine (HR.out _).mono ?_; rintro e w3 ⟨rfl, hb4⟩; have hb5 := hb3.trans (hb4.mono hb3.size); have e3 := HI2.out _ hb5; have e4 := HK2.out _ hb5)))
  have HB7 := Lib.hid (HB.out.trans (hb5.mono HB.out.size))
  clear hb2 hb3 hb4 hb5 e1 e2 e3 e4 hq1 hq2
  go_wp2_with fail
  refine (HC.out _).mono ?_
  rintro e w8 ⟨rfl, rfl⟩
  cases hs : sf n
  · have h1 := hse.out
    rw [hs, if_neg Bool.false_ne_true] at h1
    go_wp2_with fail
    go_ret
    exact ⟨rfl, HB7.out⟩
  · have h1 := hse.out
    rw [hs, if_pos rfl] at h1
    have h2 := hsn.out hs
    go_wp2_with fail
    go_ret
    exact ⟨rfl, HB7.out⟩
end Go.Proofs.YtjgafhodogbemaaDoor.N
