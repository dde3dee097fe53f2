/-
  live, by contract.
-/
import Derived.Test.YtkaamaopjcaalaaDoorS
namespace Go.Proofs.YtkaamaopjcaalaaDoor.T
open Go.RowKit Go.Proofs.YtkaamaopjcaalaaDoor

theorem row_lit (w : World) (ts : List Tk) (arr : Array Value) (h : arr = (flat ts).toArray) : Row (w.alloc (.cells arr 30)) (some ⟨w.heap.size, 0, none⟩) ts := by
  subst h
  have hc : ∀ i u, (flat ts)[i]? = some u → (w.alloc (.cells (flat ts).toArray 30)).cell? ⟨w.heap.size, i, none⟩ = some u := fun i u hu => by
    rw [cell_of_row _ _ _ _ _ _ (hp_new rfl)]
    simpa using hu
  refine .inr ⟨w.heap.size, 0, rfl, by simp, fun j hj => ?_⟩
  obtain ⟨h0, h1, h2, h3, h4⟩ := flat_at ts j hj
  rw [Nat.zero_add]
  exact ⟨hc _ _ h0, hc _ _ h1, hc _ _ h2, hc _ _ h3, hc _ _ h4⟩
def src1 : ByteArray := ⟨#[97, 32, 47, 47, 32, 120, 10, 43, 61, 32, 48, 120, 49, 70]⟩
def src2 : ByteArray := ⟨#[97, 32, 38, 32, 98]⟩
def toks1 : List Tk := [⟨1, [97], 0, 0, false⟩, ⟨5, [43, 61], 0, 7, true⟩, ⟨3, [], 31, 10, false⟩, ⟨0, [], 0, 14, false⟩]
theorem cut1 : cutl src1.data.toList 0 = .inr toks1 := by decide +kernel
theorem cut2 : cutl src2.data.toList 0 = .inl 2 := by decide +kernel
theorem wh_w : isW (⟨#[119, 104, 105, 108, 101]⟩ : ByteArray).data.toList = true := by decide +kernel
theorem wh_i : isI (⟨#[119, 104, 105, 108, 101]⟩ : ByteArray).data.toList = true := by decide +kernel
theorem a_w : isW (⟨#[97]⟩ : ByteArray).data.toList = false := by decide +kernel
set_option maxRecDepth 8000 in
set_option maxHeartbeats 2000000 in
theorem live_any (w : World) (hV : Vars w) : Calls Tryd.prog 9 #[] w fun e w' => e = .returned (.bool true) ∧ Below w.heap.size w w' := by
  have H1 : Hid (Calls Tryd.prog 14 #[.string ⟨#[97, 32, 47, 47, 32, 120, 10, 43, 61, 32, 48, 120, 49, 70]⟩] w fun e w' => Below w.heap.size w w' ∧ ∃ A c, e = .returned (.tuple #[.slice A 4 c, .int .i64 0, .int .i64 0]) ∧ Row w' A toks1) := Lib.hid (by
    have := cut_any src1 w (by decide) hV
    rw [cut1] at this
    refine this.mono ?_
    rintro e w' ⟨hb, v, rfl, ho⟩
    obtain ⟨A, c, rfl, _, hr⟩ := ho.open
    exact ⟨hb, A, c, rfl, hr⟩)
  have H2 : Hid (∀ w', Below w.heap.size w w' → Calls Tryd.prog 14 #[.string ⟨#[97, 32, 38, 32, 98]⟩] w' fun e w'' => e = .returned (.tuple #[.slice none 0 0, .int .i64 2, .int .i64 60]) ∧ Below w'.heap.size w' w'') := Lib.hid fun w' hb => by
    have := cut_any src2 w' (by decide) (hV.below hb)
    rw [cut2] at this
    exact this.mono fun e w'' ⟨h1, h2⟩ => ⟨h2, h1⟩
  have H3 := Lib.hid fun w => isWord_any ⟨#[119, 104, 105, 108, 101]⟩ w
  have H4 := Lib.hid fun w => isWord_any ⟨#[97]⟩ w
  have H5 := Lib.hid fun w => isIdent_any ⟨#[119, 104, 105, 108, 101]⟩ w (by decide)
  rw [wh_w] at H3
  rw [a_w] at H4
  rw [wh_i] at H5
  clear hV
  go_enter Tryd.func9, Tryd.ntmps9
  go_wp2_with fail
  refine H1.out.mono ?_
  rintro e w1 ⟨hb1, A, c, rfl, hr1⟩
  have HB1 := Lib.hid hb1
  have HR1 := Lib.hid hr1
  clear hb1 hr1
  go_wp2_with fail
  refine (H2.out _ HB1.out).mono ?_
  rintro e w2 ⟨rfl, hb2⟩
  have HB2 := Lib.hid (HB1.out.trans (hb2.mono HB1.out.size))
  have HR2 := Lib.hid (HR1.out.below hb2)
  clear hb2
  have HS := Lib.hid fun arr (h : arr = (flat toks1).toArray) => same_any A (some ⟨w2.heap.size, 0, none⟩) toks1 toks1 c 4 (w2.alloc (.cells arr 30)) (HR2.out.below (below_alloc _ _)) (row_lit w2 toks1 arr h) (by decide)
  rw [same_yes rfl] at HS
  go_wp2_with fail
  refine (HS.out _ rfl).mono ?_
  rintro e w3 ⟨rfl, hb3⟩
  have HB3 := Lib.hid (HB2.out.trans (((below_alloc w2 _).trans (hb3.mono (by simp))).mono HB2.out.size))
  clear hb3 HS
  go_wp2_with fail
  refine (H3.out _).mono ?_
  rintro e w' ⟨rfl, rfl⟩
  go_wp2_with fail
  refine (H4.out _).mono ?_
  rintro e w' ⟨rfl, rfl⟩
  go_wp2_with fail
  refine (H5.out _).mono ?_
  rintro e w' ⟨rfl, rfl⟩
  go_wp2_with fail
  go_ret
  exact ⟨rfl, HB3.out⟩
/-- a law's answer -/
def Yes (w : World) (e : Ending) (w' : World) : Prop := e = .returned (.bool true) ∧ Below w.heap.size w w'
end Go.Proofs.YtkaamaopjcaalaaDoor.T
