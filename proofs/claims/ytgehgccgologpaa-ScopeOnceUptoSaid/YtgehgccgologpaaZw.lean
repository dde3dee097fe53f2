/-
  ScopeOnce.
-/
import Derived.Test.YtgehgccgologpaaZv
namespace Go.Proofs.Ytgehgccgologpaa.Z
open Go.RowKit Go.Shelf Go.Maps Go.Proofs.Ytgehgccgologpaa Go.Proofs.Ytgehgccgologpaa.R Go.Proofs.Ytgehgccgologpaa.T

theorem vars_call (l : List V) (A : Option Addr) (n c : Nat) (w : World) (hrow : Row w A l) (hn : n = l.length) (hlc : n ≤ c) (hb : V.bulks l ≤ 4194304) :
    Calls Try.prog 16 #[.slice A n c] w fun e w2 => ∃ A2 c2, e = .returned (.slice A2 (vars l).length c2) ∧ Strs w2 A2 (vars l) ∧ Below w.heap.size w w2 := by
  subst hn
  refine (vars_any l A c w hrow hlc hb).mono fun e w2 ⟨nv, h1, h2, h3⟩ => ?_
  obtain ⟨A2, c2, rfl, -, h4⟩ := h2.form
  exact ⟨A2, c2, h1, h4, h3⟩
set_option maxRecDepth 40000 in
set_option maxHeartbeats 4000000 in
theorem once_any (l : List V) (A : Option Addr) (c : Nat) (at' : Int) (w : World) (hrow : Row w A l) (hlc : l.length ≤ c) (hb : V.bulks l ≤ 4194304) (hat : -9223372036854775808 ≤ at' ∧ at' ≤ 9223372036854775807) :
    Calls Try.prog 8 #[.slice A l.length c, .int .i64 at'] w (AnsB w true) := by
  have hll : l.length ≤ 4194304 := by
    have h1 := sizes_le_bulks l
    have h2 : ∀ l : List V, l.length ≤ V.sizes l := fun l => by
      induction l with
      | nil => exact Nat.zero_le _
      | cons v r ih => rw [V.sizes, R.size_eq, List.length_cons]; omega
    have h3 := h2 l
    omega
  have hmm := @run_makeMap Try.prog
  have HND : Hid ((vars l).Nodup) := nodup_unq (decl l)
  have HSZ : Hid (∀ s ∈ vars l, s.size ≤ 4194304) := fun s hs => Nat.le_trans (vars_size hs) hb
  have hvl : (vars l).length ≤ 4194304 := Nat.le_trans (vars_len l) hb
  have hvi : ((vars l).length : Int) ≤ 4194304 := by omega
  have hz0 : ∀ w : World, (zeroValue 3).run Try.prog w = .ok (.int .i64 0) w := fun w => by kernel_rfl
  have HR := Lib.hid hrow
  have HLC := Lib.hid hlc
  have HBK := Lib.hid hb
  obtain ⟨hat1, hat2⟩ := hat
  clear hrow hlc hb
  go_enter Try.func8, Try.ntmps8
  go_wp2_with fail
  refine (live_any _).mono ?_
  rintro e w1 ⟨rfl, hb1⟩
  go_wp2_with fail
  refine (vars_call l A _ c _ (RowB.below HR.out hb1) rfl HLC.out HBK.out).mono ?_
  rintro e w2 ⟨A2, c2, rfl, hst, hb2⟩
  have HB2 := Lib.hid (hb1.trans (hb2.mono hb1.size))
  have HST := Lib.hid hst
  have HM0 := Lib.hid (World.ownsMap_made (H := Unit) w2 Try.prog 9 (plainElem Try.prog 3))
  clear hb1 hb2 hst
  go_wp2_with fail
  go_loopw [21] (fun i wr => ∃ k : Nat, k ≤ (vars l).length ∧ i = .int .i64 k ∧ ∃ D : DataW Unit, Hid (Plc D ((vars l).take k)) ∧ Hid (wr.ownsMap Try.prog 9 (plainElem Try.prog 3) w2.heap.size k D) ∧ Hid (Below w2.heap.size w2 wr)) (fun i _ => (vars l).length - (intOf i).toNat)
  case atStart => exact ⟨0, Nat.zero_le _, rfl, .map [], Lib.hid (by rw [List.take_zero]; exact plc_nil), HM0, Lib.hid (below_alloc _ _)⟩
  case round =>
    obtain ⟨k, hk, rfl, D, hpl, hom, hbw⟩ := hrel
    by_cases hlt : k < (vars l).length
    · obtain ⟨g, o, rfl, hg, d1⟩ := (HST.out.below hbw.out).at_ hlt
      have hkey := key_of (vars l)[k] (HSZ.out _ (List.getElem_mem hlt))
      have hno := hpl.out.no _ (notin_take HND.out hlt)
      have HNX := Lib.hid (Plc.next HND.out hlt hpl.out)
      have hwf : (Lit.int .i64 ((k : Int) + 1)).wf = true := wf_small (by omega)
      have hval : plainElem (H := Unit) Try.prog 3 (.int .i64 ((k : Int) + 1)) = some (.lit (.int .i64 ((k : Int) + 1)), []) := plainElem_int Try.underlying3 hwf
      generalize (vars l)[k] = s at *
      go_wp2_with (first
        | (at_lookup; refine look_int _ rfl _ _ 38 rfl 9 3 .i64 lawS Try.underlying38 Try.underlying3 (hz0 _) w2.heap.size k D rfl hom.out _ _ rfl hkey 0 hno ?_)
        | (at_mapUpdate; refine wpList_mapUpdate_own _ rfl _ _ _ 38 rfl 9 3 lawS Try.underlying38 (plainElem Try.prog 3) w2.heap.size k D rfl hom.out (by unfold maxLen; omega) _ _ _ rfl rfl hkey (.lit (.int .i64 ((k : Int) + 1))) [] hval ?_; intro wm hom2 hgm)
        | fail)
      have HBW := Lib.hid (hbw.out.grown hgm hbw.out.size fun j hj => by cases hj; exact Nat.le_refl _)
      go_roundw
      case rel => exact ⟨k + 1, hlt, by go_num, _, HNX, Lib.hid hom2, HBW⟩
      case measure => simp [intOf]; omega
    · obtain rfl : k = (vars l).length := by omega
      rw [List.take_length] at hpl
      have HB3 := Lib.hid (HB2.out.trans (hbw.out.mono HB2.out.size))
      have HPL := Lib.hid hpl.out
      have HOM := Lib.hid hom.out
      have HBW := Lib.hid hbw.out
      clear hpl hom hbw hk hlt HM0
      by_cases h0 : l.length = 0
      · have hl0 : l = [] := List.length_eq_zero_iff.1 h0
        subst hl0
        have hv0 : (vars []).length = 0 := rfl
        clear h0
        go_wp2_with fail
        go_ret
        exact ⟨rfl, HB3.out⟩
      · obtain ⟨g, o, rfl⟩ : ∃ g o, A = some ⟨g, o, none⟩ := by
          rcases HR.out with e | ⟨g, o, e, -⟩
          · rw [e] at h0
            exact absurd rfl h0
          · exact ⟨g, o, e⟩
        obtain ⟨a1, ha1⟩ : ∃ a1, Int.tmod at' (l.length : Int) = a1 := ⟨_, rfl⟩
        have hab := tmod_lt (a := at') (show 0 < (l.length : Int) by omega)
        rw [ha1] at hab
        obtain ⟨k, hk⟩ : ∃ k : Nat, (a1 + (l.length : Int)) % (l.length : Int) = (k : Int) := ⟨_, (Int.toNat_of_nonneg (Int.emod_nonneg _ (by omega))).symm⟩
        have hkM : k < l.length := by
          have := Int.emod_lt_of_pos (a1 + (l.length : Int)) (show 0 < (l.length : Int) by omega)
          omega
        obtain ⟨hab1, hab2⟩ := hab
        have HKM := Lib.hid hkM
        have HLC2 : (l.length : Int) ≤ c := by have := HLC.out; omega
        have hcut := bulks_cut l k
        have hbk := HBK.out
        have HCA := Lib.hid fun w' (h : Below w.heap.size w w') => vars_call (l.take k) (some ⟨g, o, none⟩) k c w' (row_take (RowB.below HR.out h) k) (by rw [List.length_take]; omega) (by omega) (by omega)
        have HCB := Lib.hid fun w' (h : Below w.heap.size w w') => vars_call (l.drop k) (some ⟨g, o + k * 6, none⟩) (l.length - k) (c - k) w' (row_drop (RowB.below HR.out h) k) (by rw [List.length_drop]) (by omega) (by omega)
        have hvt : (vars (l.take k)).length ≤ 4194304 := Nat.le_trans (vars_len _) (by omega)
        have hvd : (vars (l.drop k)).length ≤ 4194304 := Nat.le_trans (vars_len _) (by omega)
        have hvti : ((vars (l.take k)).length : Int) ≤ 4194304 := by omega
        have hvdi : ((vars (l.drop k)).length : Int) ≤ 4194304 := by omega
        have HAT := Lib.hid fun j (h : j < (vars (l.take k)).length) => vars_at h
        have HDR := Lib.hid fun s (h : s ∈ vars (l.drop k)) => vars_drop h
        clear hcut hbk
        go_wp2_with fail
        rw [hk]
        refine (HCA.out _ HB3.out).mono ?_
        rintro e w3 ⟨A3, c3, rfl, hst3, hb3⟩
        have HB4 := Lib.hid (HB3.out.trans (hb3.mono HB3.out.size))
        have HOM3 := Lib.hid (ownsMap_low HOM.out hb3)
        have HST3 := Lib.hid hst3
        clear hst3 hb3 hk ha1 hab1 hab2 hat1 hat2 HOM HB3 HCA
        go_wp2_with fail
        go_loopw [10, 59] (fun la i wr => ∃ j : Nat, j ≤ (vars (l.take k)).length ∧ i = .int .i64 j ∧ la = .int .i64 j ∧ Hid (wr = w3)) (fun _ i _ => (vars (l.take k)).length - (intOf i).toNat)
        case atStart => exact ⟨0, Nat.zero_le _, rfl, rfl, Lib.hid rfl⟩
        case round =>
          obtain ⟨j, hj, rfl, rfl, hw⟩ := hrel
          have hw := hw.out
          subst hw
          by_cases hlt : j < (vars (l.take k)).length
          · obtain ⟨g3, o3, rfl, hg3, d3⟩ := HST3.out.at_ hlt
            obtain ⟨hj2, hje⟩ := HAT.out j hlt
            have hkey := key_of (vars l)[j] (HSZ.out _ (List.getElem_mem hj2))
            have hat := HPL.out.at' j hj2
            rw [hje] at d3
            generalize (vars l)[j] = s at *
            clear hje
            go_wp2_with (first
              | (at_lookup; refine look_int _ rfl _ _ 38 rfl 9 3 .i64 lawS Try.underlying38 Try.underlying3 (hz0 _) w2.heap.size _ D rfl HOM3.out _ _ rfl hkey ((j : Int) + 1) hat ?_)
              | fail)
            go_roundw
            case rel => exact ⟨j + 1, hlt, by go_num, by go_num, trivial⟩
            case measure => simp [intOf]; omega
          · obtain rfl : j = (vars (l.take k)).length := by omega
            have HKM := Lib.hid HKM.out
            have hkl : k < l.length := HKM.out
            go_wp2_with fail
            refine (HCB.out _ HB4.out).mono ?_
            rintro e w5 ⟨A5, c5, rfl, hst5, hb5⟩
            have HB5 := Lib.hid (HB4.out.trans (hb5.mono HB4.out.size))
            have HOM5 := Lib.hid (ownsMap_low HOM3.out hb5)
            have HST5 := Lib.hid hst5
            clear hst5 hb5 HOM3 HCB
            go_wp2_with fail
            go_loopw [77] (fun i wr => ∃ j : Nat, j ≤ (vars (l.drop k)).length ∧ i = .int .i64 j ∧ Hid (wr = w5)) (fun i _ => (vars (l.drop k)).length - (intOf i).toNat)
            case atStart => exact ⟨0, Nat.zero_le _, rfl, Lib.hid rfl⟩
            case round =>
              obtain ⟨j, hj, rfl, hw⟩ := hrel
              have hw := hw.out
              subst hw
              by_cases hlt : j < (vars (l.drop k)).length
              · obtain ⟨g5, o5, rfl, hg5, d5⟩ := HST5.out.at_ hlt
                have hmem := HDR.out _ (List.getElem_mem hlt)
                have hkey := key_of (vars (l.drop k))[j] (HSZ.out _ hmem)
                obtain ⟨p, hp, hpe⟩ := List.getElem_of_mem hmem
                have hat := HPL.out.at' p hp
                rw [hpe] at hat
                have hne : ((p : Int) + 1 == 0) = false := by rw [beq_eq_false_iff_ne]; omega
                generalize (vars (l.drop k))[j] = s at *
                clear hpe hmem hp
                go_wp2_with (first
                  | (at_lookup; refine look_int _ rfl _ _ 38 rfl 9 3 .i64 lawS Try.underlying38 Try.underlying3 (hz0 _) w2.heap.size _ D rfl HOM5.out _ _ rfl hkey ((p : Int) + 1) hat ?_)
                  | fail)
                go_roundw
                case rel => exact ⟨j + 1, hlt, by go_num, trivial⟩
                case measure => simp [intOf]; omega
              · obtain rfl : j = (vars (l.drop k)).length := by omega
                go_wp2_with fail
                go_ret
                exact ⟨rfl, HB5.out⟩
end Go.Proofs.Ytgehgccgologpaa.Z
