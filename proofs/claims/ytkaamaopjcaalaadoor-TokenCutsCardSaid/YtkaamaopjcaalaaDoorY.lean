/-
  The law Cuts.
-/
import Derived.Test.YtkaamaopjcaalaaDoorR
import Derived.Test.YtkaamaopjcaalaaDoorV
namespace Go.Proofs.YtkaamaopjcaalaaDoor.T
open Go.RowKit Go.Proofs.YtkaamaopjcaalaaDoor

/-- the reference's Cut, its ways -/
theorem rcut_inl (s : ByteArray) (hs : s.size ≤ 4096) {p : Nat} (hc : cutl s.data.toList 0 = .inl p) : Hid (∀ w', Calls Tryd.prog 15 #[.string s] w' fun e w'' => e = .returned (.tuple #[.slice none 0 0, .int .i64 (p : Nat), .int .i64 60]) ∧ Below w'.heap.size w' w'') := Lib.hid fun w' => by
  have := refCut_any s w' hs
  rw [hc] at this
  exact this.mono fun _ _ h => ⟨h.2, h.1⟩
theorem rcut_inr (s : ByteArray) (hs : s.size ≤ 4096) {ts : List Tk} (hc : cutl s.data.toList 0 = .inr ts) : Hid (∀ w', Calls Tryd.prog 15 #[.string s] w' fun e w'' => Below w'.heap.size w' w'' ∧ ∃ A c, e = .returned (.tuple #[.slice A ts.length c, .int .i64 0, .int .i64 0]) ∧ Row w'' A ts) := Lib.hid fun w' => by
  have := refCut_any s w' hs
  rw [hc] at this
  refine this.mono ?_
  rintro e w'' ⟨hb, v, rfl, ho⟩
  obtain ⟨A, c, rfl, hlc, hr⟩ := ho.open
  exact ⟨hb, A, c, rfl, hr⟩
set_option maxRecDepth 8000 in
set_option maxHeartbeats 2000000 in
theorem cuts_law (s : ByteArray) (w : World) (hV : Vars w) :
    Calls Tryd.prog 4 #[.string s] w (Yes w) := by
  have HL := Lib.hid fun w' (hb : Below w.heap.size w w') => live_any w' (hV.below hb)
  have HV0 := Lib.hid hV
  have HS0 := Lib.hid fun w => same_any none none [] [] 0 0 w (.inl rfl) (.inl rfl) (by decide)
  rw [same_yes rfl] at HS0
  clear hV
  by_cases hs : s.size ≤ 4096
  · cases hc : cutl s.data.toList 0 with
    | inl p =>
      have HC := cut_inl s hs hc
      have HD := rcut_inl s hs hc
      have hpp : ((p : Int) == (p : Int)) = true := by simp
      clear hc
      go_enter Tryd.func4, Tryd.ntmps4
      go_wp2_with fail
      refine (HC.out _ HV0.out).mono ?_
      rintro e w1 ⟨rfl, hb1⟩
      have HB1 := Lib.hid hb1
      clear hb1
      go_wp2_with fail
      refine (HD.out _).mono ?_
      rintro e w2 ⟨rfl, hb2⟩
      have HB2 := Lib.hid (HB1.out.trans (hb2.mono HB1.out.size))
      clear hb2
      go_wp2_with fail
      refine (HL.out _ HB2.out).mono ?_
      rintro e w3 ⟨rfl, hb3⟩
      have HB3 := Lib.hid (HB2.out.trans (hb3.mono HB2.out.size))
      clear hb3
      go_wp2_with fail
      refine (HS0.out _).mono ?_
      rintro e w4 ⟨rfl, hb4⟩
      have HB4 := Lib.hid (HB3.out.trans (hb4.mono HB3.out.size))
      clear hb4
      go_wp2_with fail
      go_ret
      exact ⟨rfl, HB4.out⟩
    | inr ts =>
      have HC := cut_inr s hs hc
      have HD := rcut_inr s hs hc
      have hl := cutl_len s.data.toList.length s.data.toList 0 ts (Nat.le_refl _) hc
      rw [size_list] at hl
      clear hc
      go_enter Tryd.func4, Tryd.ntmps4
      go_wp2_with fail
      refine (HC.out _ HV0.out).mono ?_
      rintro e w1 ⟨hb1, A, c, rfl, hlc, hR, -⟩
      have HB1 := Lib.hid hb1
      have HR1 := Lib.hid hR
      clear hb1 hR
      go_wp2_with fail
      refine (HD.out _).mono ?_
      rintro e w2 ⟨hb2, A2, c2, rfl, hR2⟩
      have HB2 := Lib.hid (HB1.out.trans (hb2.mono HB1.out.size))
      have HR1' := Lib.hid (HR1.out.below hb2)
      have HR2 := Lib.hid hR2
      clear hb2 hR2 HR1
      go_wp2_with fail
      refine (HL.out _ HB2.out).mono ?_
      rintro e w3 ⟨rfl, hb3⟩
      have HB3 := Lib.hid (HB2.out.trans (hb3.mono HB2.out.size))
      have HS := Lib.hid (same_any A A2 ts ts c c2 w3 (HR1'.out.below hb3) (HR2.out.below hb3) (by omega))
      rw [same_yes rfl] at HS
      clear hb3
      go_wp2_with fail
      refine HS.out.mono ?_
      rintro e w4 ⟨rfl, hb4⟩
      have HB4 := Lib.hid (HB3.out.trans (hb4.mono HB3.out.size))
      clear hb4
      go_wp2_with fail
      go_ret
      exact ⟨rfl, HB4.out⟩
  · have HC := Lib.hid fun w => cut_long s w (by omega)
    have HD := Lib.hid fun w => refCut_long s w (by omega)
    clear hs
    go_enter Tryd.func4, Tryd.ntmps4
    go_wp2_with fail
    refine (HC.out _).mono ?_
    rintro e w' ⟨rfl, rfl⟩
    go_wp2_with fail
    refine (HD.out _).mono ?_
    rintro e w' ⟨rfl, rfl⟩
    go_wp2_with fail
    refine (HL.out _ (Below.refl _ _)).mono ?_
    rintro e w3 ⟨rfl, hb3⟩
    have HB3 := Lib.hid hb3
    clear hb3
    go_wp2_with fail
    refine (HS0.out _).mono ?_
    rintro e w4 ⟨rfl, hb4⟩
    have HB4 := Lib.hid (HB3.out.trans (hb4.mono HB3.out.size))
    clear hb4
    go_wp2_with fail
    go_ret
    exact ⟨rfl, HB4.out⟩
end Go.Proofs.YtkaamaopjcaalaaDoor.T
