/-
  trim, by contract.
-/
import Derived.Test.YtjgafhodogbemaaDoorD
namespace Go.Proofs.YtjgafhodogbemaaDoor.N
open Go.RowKit Go.Proofs.YtjgafhodogbemaaDoor

theorem fro_step {u : List Nat} {k : Nat} (h : k < u.length) : fro (u.drop k) = if sp u[k] then fro (u.drop (k + 1)) else u.drop k := by
  rw [List.drop_eq_getElem_cons h, fro_cons]
theorem fro_end {u : List Nat} {k : Nat} (h : u.length ≤ k) : fro (u.drop k) = u.drop k := by
  rw [List.drop_eq_nil_of_le h, fro_nil]
theorem rea_step {u : List Nat} {k j : Nat} (hk : k ≤ j) (h : j < u.length) : rea ((u.take (j + 1)).drop k) = if sp u[j] then rea ((u.take j).drop k) else (u.take (j + 1)).drop k := by
  have e : (u.take (j + 1)).drop k = (u.take j).drop k ++ [u[j]] := by
    rw [List.take_succ_eq_append_getElem h, List.drop_append_of_le_length (by simp; omega)]
  rw [e, rea_snoc]
/-- what trim answers -/
def tr (s : ByteArray) : ByteArray := ⟨(bs (rea (fro (us s.data.toList)))).toArray⟩
theorem cut_tr (s : ByteArray) (k j : Nat) (h : rea (fro (us s.data.toList)) = ((us s.data.toList).take j).drop k) : cutOf s k j = tr s := by
  unfold cutOf cutU tr
  rw [h]
  simp
set_option maxRecDepth 8000 in
theorem trim_any (s : ByteArray) (w : World) (hm : s.size ≤ 140737488355328) :
    Calls Tryd.prog 34 #[.string s] w fun e w' => e = .returned (.string (tr s)) ∧ Below w.heap.size w w' := by
  have hs : s.size ≤ maxLen := by unfold maxLen; omega
  have hl : (us s.data.toList).length = s.size / 2 := by rw [us_length, size_list]
  have hC := Lib.hid (cut_tr s)
  have hA := Lib.hid fun (k : Nat) (x : Int) (hx : x = (k : Int)) (w : World) (h : k < (us s.data.toList).length) => at_nat s k x hx w hs h
  generalize us s.data.toList = u at hl hC hA
  have hL : u.length ≤ 140737488355328 := by omega
  have hN : Hid (∀ w, Calls Tryd.prog 47 #[.string s] w fun e w' => e = .returned (.int .i64 (u.length : Int)) ∧ w = w') := Lib.hid fun w => hl ▸ len_any s w hs
  clear hl
  go_enter Tryd.func34, Tryd.ntmps34
  go_wp2_with fail
  refine (hN.out _).mono ?_
  rintro e w' ⟨rfl, rfl⟩
  clear hN
  go_wp2_with fail
  go_loopw [3] (fun i wr => ∃ k : Nat, k ≤ u.length ∧ i = .int .i64 k ∧ Hid (fro u = fro (u.drop k)) ∧ Below w.heap.size w wr)
    (fun i _ => u.length - (intOf i).toNat)
  case atStart => exact ⟨0, by omega, rfl, rfl, Below.refl _ _⟩
  case round =>
    obtain ⟨k, hk, rfl, hf, hb⟩ := hrel
    by_cases hgo : ∃ h : k < u.length, sp u[k] = true
    · obtain ⟨hlt, hsp⟩ := hgo
      have hF : Hid (fro u = fro (u.drop (k + 1))) := Lib.hid (by rw [hf.out, fro_step hlt, if_pos hsp])
      have hS := Lib.hid fun w => hsp ▸ isSpace_any (u[k] : Nat) u[k] rfl w
      clear hf hsp
      go_wp2_with fail
      refine (hA.out k _ rfl _ hlt).mono ?_
      rintro e w1 ⟨rfl, hb1⟩
      have HB := Lib.hid (hb.trans (hb1.mono hb.size))
      clear hb hb1
      go_wp2_with fail
      refine (hS.out _).mono ?_
      rintro e w2 ⟨rfl, rfl⟩
      go_wp2_with fail
      go_roundw
      case rel => exact ⟨k + 1, by omega, by go_num, hF, HB.out⟩
      case measure => simp [intOf]; omega
    · have hF : Hid (fro u = u.drop k) := Lib.hid (by
        rw [hf.out]
        by_cases hlt : k < u.length
        · rw [fro_step hlt, if_neg (fun h => hgo ⟨hlt, h⟩)]
        · exact fro_end (by omega))
      clear hf
      by_cases hlt : k < u.length
      · have hspn : sp u[k] = false := by
          cases h : sp u[k]
          · rfl
          · exact absurd ⟨hlt, h⟩ hgo
        have hS := Lib.hid fun w => hspn ▸ isSpace_any (u[k] : Nat) u[k] rfl w
        clear hspn
        go_wp2_with fail
        refine (hA.out k _ rfl _ hlt).mono ?_
        rintro e w1 ⟨rfl, hb1⟩
        have HB := Lib.hid (hb.trans (hb1.mono hb.size))
        clear hb hb1
        go_wp2_with fail
        refine (hS.out _).mono ?_
        rintro e w2 ⟨rfl, rfl⟩
        clear hS
        go_wp2_with fail
        go_loopw [4] (fun i wr => ∃ j : Nat, k ≤ j ∧ j ≤ u.length ∧ i = .int .i64 j ∧ Hid (rea (u.drop k) = rea ((u.take j).drop k)) ∧ Below w.heap.size w wr)
          (fun i _ => (intOf i).toNat)
        case atStart => exact ⟨u.length, hk, Nat.le_refl _, rfl, Lib.hid (by rw [List.take_length]), HB.out⟩
        case round =>
          obtain ⟨j, hkj, hj, rfl, hr, hb⟩ := hrel
          by_cases hgo : ∃ i, ∃ h : i < u.length, j = i + 1 ∧ k ≤ i ∧ sp u[i] = true
          · obtain ⟨i, hi, hij, hki, hsp⟩ := hgo
            have hF : Hid (rea (u.drop k) = rea ((u.take i).drop k)) := Lib.hid (by rw [hr.out, hij, rea_step hki hi, if_pos hsp])
            have hS := Lib.hid fun w => hsp ▸ isSpace_any (u[i] : Nat) u[i] rfl w
            have e1 : IntKind.i64.wrap ((j : Int) - 1) = (j : Int) - 1 := IntWalk.i64_in _ (by omega)
            have hx : Hid ((j : Int) - 1 = (i : Int)) := Lib.hid (by omega)
            have hlt2 : (k : Int) < (j : Int) := by omega
            clear hr hsp hij
            go_wp2_with fail
            refine (hA.out i _ hx.out _ hi).mono ?_
            rintro e w3 ⟨rfl, hb1⟩
            have HB2 := Lib.hid (hb.trans (hb1.mono hb.size))
            clear hb hb1
            go_wp2_with fail
            refine (hS.out _).mono ?_
            rintro e w4 ⟨rfl, rfl⟩
            go_wp2_with fail
            go_roundw
            case rel => exact ⟨i, hki, by omega, by first | rw [hx.out] | rw [e1, hx.out], hF, HB2.out⟩
            case measure => have := hx.out; simp [intOf]; omega
          · by_cases hkj2 : k < j
            · obtain ⟨i, hij⟩ : ∃ i, j = i + 1 := ⟨j - 1, by omega⟩
              have hi : i < u.length := by omega
              have hspn : sp u[i] = false := by
                cases h : sp u[i]
                · rfl
                · exact absurd ⟨i, hi, hij, by omega, h⟩ hgo
              have hE : Hid (rea (fro u) = (u.take j).drop k) := Lib.hid (by rw [hF.out, hr.out, hij, rea_step (by omega) hi, hspn, if_neg Bool.false_ne_true])
              have hX := Lib.hid (hC.out k j hE.out)
              have hS := Lib.hid fun w => hspn ▸ isSpace_any (u[i] : Nat) u[i] rfl w
              have e1 : IntKind.i64.wrap ((j : Int) - 1) = (j : Int) - 1 := IntWalk.i64_in _ (by omega)
              have hx : Hid ((j : Int) - 1 = (i : Int)) := Lib.hid (by omega)
              have hlt2 : (k : Int) < (j : Int) := by omega
              clear hr hspn hgo hij
              go_wp2_with fail
              refine (hA.out i _ hx.out _ hi).mono ?_
              rintro e w3 ⟨rfl, hb1⟩
              have HB2 := Lib.hid (hb.trans (hb1.mono hb.size))
              clear hb hb1
              go_wp2_with fail
              refine (hS.out _).mono ?_
              rintro e w4 ⟨rfl, rfl⟩
              go_wp2_with fail
              refine (cut_any s _ _ _ hm).mono ?_
              rintro e w5 ⟨rfl, hb5⟩
              go_wp2_with fail
              go_ret
              exact ⟨by rw [hX.out]; rfl, HB2.out.trans (hb5.mono HB2.out.size)⟩
            · obtain rfl : j = k := by omega
              have hE : Hid (rea (fro u) = (u.take j).drop j) := Lib.hid (by rw [hF.out, hr.out, List.drop_eq_nil_of_le (by rw [List.length_take]; omega), rea_nil])
              have hX := Lib.hid (hC.out j j hE.out)
              clear hr hgo
              go_wp2_with fail
              refine (cut_any s _ _ _ hm).mono ?_
              rintro e w5 ⟨rfl, hb5⟩
              go_wp2_with fail
              go_ret
              exact ⟨by rw [hX.out]; rfl, hb.trans (hb5.mono hb.size)⟩
      · have HB := Lib.hid hb
        clear hb
        go_wp2_with fail
        go_loopw [4] (fun i wr => ∃ j : Nat, k ≤ j ∧ j ≤ u.length ∧ i = .int .i64 j ∧ Hid (rea (u.drop k) = rea ((u.take j).drop k)) ∧ Below w.heap.size w wr)
          (fun i _ => (intOf i).toNat)
        case atStart => exact ⟨u.length, hk, Nat.le_refl _, rfl, Lib.hid (by rw [List.take_length]), HB.out⟩
        case round =>
          obtain ⟨j, hkj, hj, rfl, hr, hb⟩ := hrel
          by_cases hgo : ∃ i, ∃ h : i < u.length, j = i + 1 ∧ k ≤ i ∧ sp u[i] = true
          · obtain ⟨i, hi, hij, hki, hsp⟩ := hgo
            have hF : Hid (rea (u.drop k) = rea ((u.take i).drop k)) := Lib.hid (by rw [hr.out, hij, rea_step hki hi, if_pos hsp])
            have hS := Lib.hid fun w => hsp ▸ isSpace_any (u[i] : Nat) u[i] rfl w
            have e1 : IntKind.i64.wrap ((j : Int) - 1) = (j : Int) - 1 := IntWalk.i64_in _ (by omega)
            have hx : Hid ((j : Int) - 1 = (i : Int)) := Lib.hid (by omega)
            have hlt2 : (k : Int) < (j : Int) := by omega
            clear hr hsp hij
            go_wp2_with fail
            refine (hA.out i _ hx.out _ hi).mono ?_
            rintro e w3 ⟨rfl, hb1⟩
            have HB2 := Lib.hid (hb.trans (hb1.mono hb.size))
            clear hb hb1
            go_wp2_with fail
            refine (hS.out _).mono ?_
            rintro e w4 ⟨rfl, rfl⟩
            go_wp2_with fail
            go_roundw
            case rel => exact ⟨i, hki, by omega, by first | rw [hx.out] | rw [e1, hx.out], hF, HB2.out⟩
            case measure => have := hx.out; simp [intOf]; omega
          · by_cases hkj2 : k < j
            · obtain ⟨i, hij⟩ : ∃ i, j = i + 1 := ⟨j - 1, by omega⟩
              have hi : i < u.length := by omega
              have hspn : sp u[i] = false := by
                cases h : sp u[i]
                · rfl
                · exact absurd ⟨i, hi, hij, by omega, h⟩ hgo
              have hE : Hid (rea (fro u) = (u.take j).drop k) := Lib.hid (by rw [hF.out, hr.out, hij, rea_step (by omega) hi, hspn, if_neg Bool.false_ne_true])
              have hX := Lib.hid (hC.out k j hE.out)
              have hS := Lib.hid fun w => hspn ▸ isSpace_any (u[i] : Nat) u[i] rfl w
              have e1 : IntKind.i64.wrap ((j : Int) - 1) = (j : Int) - 1 := IntWalk.i64_in _ (by omega)
              have hx : Hid ((j : Int) - 1 = (i : Int)) := Lib.hid (by omega)
              have hlt2 : (k : Int) < (j : Int) := by omega
              clear hr hspn hgo hij
              go_wp2_with fail
              refine (hA.out i _ hx.out _ hi).mono ?_
              rintro e w3 ⟨rfl, hb1⟩
              have HB2 := Lib.hid (hb.trans (hb1.mono hb.size))
              clear hb hb1
              go_wp2_with fail
              refine (hS.out _).mono ?_
              rintro e w4 ⟨rfl, rfl⟩
              go_wp2_with fail
              refine (cut_any s _ _ _ hm).mono ?_
              rintro e w5 ⟨rfl, hb5⟩
              go_wp2_with fail
              go_ret
              exact ⟨by rw [hX.out]; rfl, HB2.out.trans (hb5.mono HB2.out.size)⟩
            · obtain rfl : j = k := by omega
              have hE : Hid (rea (fro u) = (u.take j).drop j) := Lib.hid (by rw [hF.out, hr.out, List.drop_eq_nil_of_le (by rw [List.length_take]; omega), rea_nil])
              have hX := Lib.hid (hC.out j j hE.out)
              clear hr hgo
              go_wp2_with fail
              refine (cut_any s _ _ _ hm).mono ?_
              rintro e w5 ⟨rfl, hb5⟩
              go_wp2_with fail
              go_ret
              exact ⟨by rw [hX.out]; rfl, hb.trans (hb5.mono hb.size)⟩
end Go.Proofs.YtjgafhodogbemaaDoor.N
