/-
  spaceSize, by contract.
-/
import Derived.Test.YtkaamaopjcaalaaDoorB
import Derived.Test.YtkaamaopjcaalaaDoorD
import Derived.Test.YtkaamaopjcaalaaDoorE
import Derived.Deep.CutBlock
import Derived.Deep.DeepCutAuto
namespace Go.Proofs.YtkaamaopjcaalaaDoor.T
open Go.RowKit Go.Proofs.YtkaamaopjcaalaaDoor

/-- the library's variable MaxLen can be read -/
def Ml (w : World) : Prop := ∃ m, w.cell? ⟨0, 0, none⟩ = some (.int .i64 m)
theorem Ml.below {w w' : World} (h : Ml w) (hb : Below w.heap.size w w') : Ml w' := by
  obtain ⟨m, h⟩ := h
  exact ⟨m, (hb.cell (World.block_lt_of_cell? w _ h)).trans h⟩
theorem prefix_two (c a b : UInt8) (r : Bs) : Lib.hasPrefix (c :: r) [a, b] = decide (c = a ∧ r.head? = some b) := by
  unfold Lib.hasPrefix
  rw [Bool.eq_iff_iff, List.isPrefixOf_iff_prefix, decide_eq_true_iff]
  constructor
  · rintro ⟨t, ht⟩
    injection ht with h1 h2
    exact ⟨h1.symm, by rw [← h2]; rfl⟩
  · rintro ⟨rfl, h2⟩
    cases r with
    | nil => cases h2
    | cons d t => injection h2 with h2; subst h2; exact ⟨t, rfl⟩
theorem cut_found {x : Bs} {j : Nat} (h : fin x = some j) : (Lib.cut x [42, 47]).1.length = j ∧ (Lib.cut x [42, 47]).2.2 = true := by
  have e := cut_fin x
  rw [h] at e
  have := fin_lt h
  unfold Lib.cut
  rw [e, if_pos (by simp)]
  refine ⟨?_, rfl⟩
  simp
  omega
theorem cut_not {x : Bs} (h : fin x = none) : (Lib.cut x [42, 47]).2.2 = false := by
  have e := cut_fin x
  rw [h] at e
  unfold Lib.cut
  rw [e, if_neg (by simp)]
/-- what is left of white space behind k bytes -/
def At (l : Bs) (k : Nat) : Prop := spc l = (k + (spc (l.drop k)).1, (spc (l.drop k)).2)
theorem At.zero (l : Bs) : At l 0 := by unfold At; simp
theorem At.step {l : Bs} {k n : Nat} (h : At l k) (hw : ws1 (l.drop k) = some (some n)) : At l (k + n) := by
  unfold At at *
  rw [h, spc_some hw, List.drop_drop]
  simp only [Nat.add_assoc]
theorem At.off {l : Bs} {k : Nat} (h : At l k) (hw : ws1 (l.drop k) = some none) : spc l = (k, true) := by
  unfold At at h
  rw [h, spc_none hw]
  rfl
theorem At.opened {l : Bs} {k : Nat} (h : At l k) (hw : ws1 (l.drop k) = none) : spc l = (k, false) := by
  unfold At at h
  rw [h, spc_open hw]
  rfl
theorem ws1_cons (c : UInt8) (r : Bs) : ws1 (c :: r) = if ws c then some (some 1)
    else if c = 47 ∧ r.head? = some 47 then some (some (run nel (c :: r)))
    else if c = 47 ∧ r.head? = some 42 then (match fin (r.drop 1) with
      | some j => some (some (j + 4))
      | none => none)
    else some none := rfl
/-- what spaceSize answers -/
def spV (x : Nat × Bool) : Value := .tuple #[.int .i64 (x.1 : Nat), .bool x.2]
theorem pre_any (s p : ByteArray) (w : World) : Calls Tryd.prog 32 #[.string s, .string p] w fun e w' => e = .returned (.bool (Lib.hasPrefix s.data.toList p.data.toList)) ∧ w = w' :=
  (Tryd.strings_HasPrefix s p w).mono fun _ _ h => ⟨h.1, h.2.symm⟩
theorem spV_eq (n : Nat) (c : Bool) : spV (n, c) = .tuple #[.int .i64 (n : Nat), .bool c] := rfl
theorem ext_size (t : ByteArray) (i j : Nat) (h : j ≤ t.size) : (t.extract i j).size = j - i := by
  rw [ByteArray.size_extract]
  omega
theorem drop_cons {l : Bs} {k : Nat} (h : k < l.length) : ∃ c r, l.drop k = c :: r := ⟨_, _, List.drop_eq_getElem_cons h⟩
set_option maxRecDepth 8000 in
set_option maxHeartbeats 2000000 in
theorem spaceSize_any (s : ByteArray) (w : World) (hs : s.size ≤ 1000000) (hM : Ml w) :
    Calls Tryd.prog 24 #[.string s] w fun e w' => e = .returned (spV (spc s.data.toList)) ∧ Below w.heap.size w w' := by
  have H0 := Lib.hid (At.zero s.data.toList)
  have HX := Lib.hid (ext_end s)
  have HEm := Lib.hid (size_list s)
  have HBl : Hid (Asks 31 ws) := Lib.hid isBlank_any
  have HMl := Lib.hid fun (w' : World) (hb : Below w.heap.size w w') => hM.below hb
  clear hM
  generalize s.data.toList = l at *
  go_enter Tryd.func24, Tryd.ntmps24
  go_wp2_with fail
  go_step3
  go_wp2_with fail
  go_step3
  go_upto_block 0 with (fail)
  go_cut [2] (fun v wx => ∃ n : Nat, v = .int .i64 n ∧ Hid (spc l = (n, true)) ∧ Below w.heap.size w wx)
  case first =>
    go_wp2_with fail
    go_loopw [2] (fun v wr => ∃ j : Nat, j ≤ s.size ∧ v = .int .i64 j ∧ Hid (At l j) ∧ Below w.heap.size w wr)
      (fun v _ => s.size - (intOf v).toNat)
    case atStart => exact ⟨0, Nat.zero_le _, rfl, H0, Below.refl _ _⟩
    case round =>
      obtain ⟨j, hj, rfl, hA, hbw⟩ := hrel
      by_cases hlt : j < s.size
      · obtain ⟨c, r, hcr⟩ := drop_cons (l := l) (k := j) (by rw [HEm.out]; exact hlt)
        have hle : (s.extract j s.size).data.toList = c :: r := by rw [HX.out, hcr]
        have hz := ext_size s j s.size (Nat.le_refl _)
        have i0 : ∀ w, (Instr.index 9 (.string (s.extract j s.size)) (.int .i64 0)).run Tryd.prog w = .ok (.int .u8 (c.toNat : Nat)) w := fun w => index_run _ 0 c w (by rw [hle]; rfl)
        have HLn : Hid (r.length + 1 = s.size - j) := Lib.hid (by rw [← hz, ← size_list, hle]; rfl)
        have HB := Lib.hid (HBl.out c)
        have HW := Lib.hid ((congrArg ws1 hcr).trans (ws1_cons c r))
        have HA := Lib.hid hA.out
        cases hw : ws c with
        | true =>
          rw [hw] at HB
          have HV := Lib.hid (hA.out.step (n := 1) (by rw [HW.out, hw]; rfl))
          clear hle hz hcr HW hw HA hA HX
          go_wp2_with (go_at_call 31; refine (HB.out _).mono ?_; rintro e w' ⟨rfl, rfl⟩)
          go_roundw
          case rel => exact ⟨j + 1, by omega, by go_num, HV, hbw⟩
          case measure => simp [intOf]; omega
        | false =>
          rw [hw] at HB
          have HP1 := Lib.hid fun w => pre_any (s.extract j s.size) ⟨#[47, 47]⟩ w
          have HP2 := Lib.hid fun w => pre_any (s.extract j s.size) ⟨#[47, 42]⟩ w
          have e1 : (ByteArray.mk #[47, 47]).data.toList = [47, 47] := rfl
          have e2 : (ByteArray.mk #[47, 42]).data.toList = [47, 42] := rfl
          rw [e1, hle, prefix_two] at HP1
          rw [e2, hle, prefix_two] at HP2
          by_cases h1 : c = 47 ∧ r.head? = some 47
          · rw [decide_eq_true h1] at HP1
            have HV := Lib.hid (hA.out.step (n := run nel (c :: r)) (by rw [HW.out, if_neg (by rw [hw]; decide), if_pos h1]))
            have hrun := run_le nel (c :: r)
            have hr1 : 0 < run nel (c :: r) := by rw [run_go (by rw [h1.1]; rfl)]; omega
            have HS := Lib.hid fun w => sizeOf_nel (s.extract j s.size) w (by rw [hz]; omega)
            rw [hle] at HS
            have HR : Hid (run nel (c :: r) + j ≤ s.size ∧ 0 < run nel (c :: r)) := Lib.hid ⟨by have := HLn.out; simp only [List.length_cons] at hrun; omega, hr1⟩
            generalize run nel (c :: r) = k at *
            clear hle hz hcr HW hw HA hA HX h1 hrun hr1 e1 e2 HP2
            obtain ⟨hr1, hr2⟩ := HR.out
            go_wp2_with (first
              | (go_at_call 31; refine (HB.out _).mono ?_; rintro e w' ⟨rfl, rfl⟩)
              | (go_at_call 32; refine (HP1.out _).mono ?_; rintro e w' ⟨rfl, rfl⟩)
              | (go_at_call 20; refine (HS.out _).mono ?_; rintro e w' ⟨rfl, rfl⟩))
            go_roundw
            case rel => exact ⟨j + k, by omega, by go_num, HV, hbw⟩
            case measure => simp [intOf]; omega
          · rw [decide_eq_false h1] at HP1
            by_cases h2 : c = 47 ∧ r.head? = some 42
            · rw [decide_eq_true h2] at HP2
              have hr0 : r ≠ [] := by intro e; rw [e] at h2; simp at h2
              obtain ⟨d, q, rfl⟩ := List.exists_cons_of_ne_nil hr0
              have hz2 := ext_size (s.extract j s.size) 2 (s.extract j s.size).size (Nat.le_refl _)
              have hl2 : ((s.extract j s.size).extract 2 (s.extract j s.size).size).data.toList = q := by rw [ext_end, hle]; rfl
              have hW2 : ws1 (l.drop j) = match fin q with
                | some j => some (some (j + 4))
                | none => none := by rw [HW.out, if_neg (by rw [hw]; decide), if_neg h1, if_pos h2]; rfl
              obtain ⟨m, hm⟩ := HMl.out _ hbw
              have hts : 2 ≤ (s.extract j s.size).size := by rw [← size_list, hle]; simp
              have HC := Lib.hid (Tryd.strings_Cut ((s.extract j s.size).extract 2 (s.extract j s.size).size) ⟨#[42, 47]⟩ m wr (by rw [hz2, hz]; omega) hm)
              have e3 : (ByteArray.mk #[42, 47]).data.toList = [42, 47] := rfl
              rw [hl2, e3, hz] at HC
              cases hf : fin q with
              | none =>
                rw [hf] at hW2
                have hno := cut_not hf
                have HV := Lib.hid (hA.out.opened hW2)
                generalize (Lib.cut q [42, 47]).1 = x1 at *
                generalize (Lib.cut q [42, 47]).2.1 = x2 at *
                generalize (Lib.cut q [42, 47]).2.2 = x3 at *
                subst hno
                clear hle hcr HW hw HA hA HX h1 h2 e1 e2 e3 hW2 hl2 hm hf hr0
                have hts2 : 2 ≤ ((s.extract j s.size).size : Int) := by omega
                clear hz hz2
                go_wp2_with (go_at_call 31; refine (HB.out _).mono ?_; rintro e w' ⟨rfl, rfl⟩)
                refine (HP1.out _).mono ?_
                rintro e w' ⟨rfl, rfl⟩
                go_wp2_with fail
                refine (HP2.out _).mono ?_
                rintro e w' ⟨rfl, rfl⟩
                go_wp2_with fail
                refine HC.out.mono ?_
                rintro e w1 ⟨rfl, n, rfl⟩
                go_wp2_with fail

                try rw [Exit.noGoto_ret]
                go_ret2
                exact ⟨by rw [HV.out]; rfl, hbw.trans (below_drewN _ _ _)⟩
              | some i =>
                rw [hf] at hW2
                obtain ⟨hyes, hyes2⟩ := cut_found hf
                have hfl := fin_lt hf
                have HV := Lib.hid (hA.out.step hW2)
                generalize hx1 : (Lib.cut q [42, 47]).1 = x1 at *
                generalize (Lib.cut q [42, 47]).2.1 = x2 at *
                generalize (Lib.cut q [42, 47]).2.2 = x3 at *
                subst hyes2
                have hx1z : (ByteArray.mk x1.toArray).size = i := by show x1.toArray.size = i; simp [hyes]
                have HR : Hid (i + 4 + j ≤ s.size) := Lib.hid (by have := HLn.out; simp only [List.length_cons] at this; omega)
                clear hle hcr HW hw HA hA HX h1 h2 e1 e2 e3 hW2 hl2 hm hf hr0 hx1 hyes hfl
                have hts2 : 2 ≤ ((s.extract j s.size).size : Int) := by omega
                clear hz hz2
                generalize (ByteArray.mk x1.toArray) = y1 at *
                have hR := HR.out
                go_wp2_with (go_at_call 31; refine (HB.out _).mono ?_; rintro e w' ⟨rfl, rfl⟩)
                refine (HP1.out _).mono ?_
                rintro e w' ⟨rfl, rfl⟩
                go_wp2_with fail
                refine (HP2.out _).mono ?_
                rintro e w' ⟨rfl, rfl⟩
                go_wp2_with fail
                refine HC.out.mono ?_
                rintro e w1 ⟨rfl, n, rfl⟩
                have hb2 := hbw.trans (below_drewN w.heap.size wr n)
                generalize wr.drewN n = w2 at *
                go_wp2_with fail
                go_roundw
                case rel => exact ⟨j + (i + 4), by omega, by go_num, HV, hb2⟩
                case measure => simp [intOf]; omega
            · rw [decide_eq_false h2] at HP2
              have HV := Lib.hid (hA.out.off (by rw [HW.out, if_neg (by rw [hw]; decide), if_neg h1, if_neg h2]))
              clear hle hz hcr HW hw HA hA HX h1 h2 e1 e2
              go_wp2_with (go_at_call 31; refine (HB.out _).mono ?_; rintro e w' ⟨rfl, rfl⟩)
              refine (HP1.out _).mono ?_
              rintro e w' ⟨rfl, rfl⟩
              go_wp2_with fail
              refine (HP2.out _).mono ?_
              rintro e w' ⟨rfl, rfl⟩
              go_wp2_with fail
              go_meet
              exact ⟨j, rfl, HV, hbw⟩
      · obtain rfl : j = s.size := by omega
        have HV := Lib.hid (hA.out.off (by rw [List.drop_of_length_le (by rw [HEm.out]; exact Nat.le_refl _)]; rfl))
        go_wp2_with fail
        go_meet
        exact ⟨s.size, rfl, HV, hbw⟩
  case rest =>
    obtain ⟨n, rfl, hV, hbw⟩ := hcut
    have HV2 : Hid (spV (spc l) = .tuple #[.int .i64 (n : Nat), .bool true]) := Lib.hid (by rw [hV.out]; rfl)
    go_wp2_with fail
    try rw [Exit.noGoto_ret]
    go_ret2
    exact ⟨by rw [HV2.out]; rfl, hbw⟩
end Go.Proofs.YtkaamaopjcaalaaDoor.T
