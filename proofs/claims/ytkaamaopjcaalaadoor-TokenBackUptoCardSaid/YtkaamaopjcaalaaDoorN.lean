/-
  The reference's one, by contract.
-/
import Derived.Test.YtkaamaopjcaalaaDoorJ
import Derived.Test.YtkaamaopjcaalaaDoorK
import Derived.Test.YtkaamaopjcaalaaDoorD
import Derived.Test.YtkaamaopjcaalaaDoorH
namespace Go.Proofs.YtkaamaopjcaalaaDoor.T
open Go.RowKit Go.Proofs.YtkaamaopjcaalaaDoor

/-- what one answers -/
def OneR (o : Option (Tok × Nat)) (w : World) (e : Ending) (w' : World) : Prop := Below w.heap.size w w' ∧ ∃ (t : Tok) (k : Nat), e = .returned (.tuple #[tV t, .int .i64 (k : Nat)]) ∧ ((o = none ∧ k = 0) ∨ o = some (t, k))
theorem lt_ndg {c : UInt8} (h : lt c = true) : dg c = false := by
  unfold lt at h
  have h := of_decide_eq_true h
  unfold dg
  exact decide_eq_false (by omega)
theorem one_lt {c : UInt8} {r : Bs} (h : lt c = true) : one (c :: r) = word (c :: r) := by
  unfold one
  simp only
  rw [if_neg (by rw [lt_ndg h]; decide), if_pos (by unfold ib; rw [h]; rfl)]
  rfl
theorem one_dg {c : UInt8} {r : Bs} (h : dg c = true) : one (c :: r) = (num (c :: r)).map fun x => (⟨3, [], x.1⟩, x.2) := by
  unfold one
  simp only
  rw [if_pos h]
theorem one_q {c : UInt8} {r : Bs} (h : lt c = false) (h2 : dg c = false) (h3 : c = 39 ∨ c = 34) : one (c :: r) = (read (c :: r)).map fun x => (⟨4, bs x.1, 0⟩, x.2) := by
  unfold one
  simp only
  rw [if_neg (by rw [h2]; decide), if_neg (by unfold ib; rw [h, h2]; decide), if_pos h3]
theorem one_s {c : UInt8} {r : Bs} (h : lt c = false) (h2 : dg c = false) (h3 : ¬ (c = 39 ∨ c = 34)) : one (c :: r) = (sg (c :: r)).map fun g => (⟨5, g, 0⟩, g.length) := by
  unfold one
  simp only
  rw [if_neg (by rw [h2]; decide), if_neg (by unfold ib; rw [h, h2]; decide), if_neg h3]
theorem oneR_none {o : Option (Tok × Nat)} {w w' : World} {e : Ending} (t : Tok) (h : o = none) (hb : Below w.heap.size w w') (he : e = .returned (.tuple #[tV t, .int .i64 0])) : OneR o w e w' :=
  ⟨hb, t, 0, he, .inl ⟨h, rfl⟩⟩
theorem oneR_some {o : Option (Tok × Nat)} {w w' : World} {e : Ending} {t : Tok} {k : Nat} (h : o = some (t, k)) (hb : Below w.heap.size w w') (he : e = .returned (.tuple #[tV t, .int .i64 (k : Nat)])) : OneR o w e w' :=
  ⟨hb, t, k, he, .inr h⟩
set_option maxRecDepth 8000 in
set_option maxHeartbeats 2000000 in
theorem refOne_num (s : ByteArray) (a : Nat) (w : World) (hs : s.size ≤ 1000000) (l : Bs) (c : UInt8) (r : Bs) (hl : s.data.toList.drop a = l) (hcr : l = c :: r) (h1 : lt c = false) (h2 : dg c = true) :
    Calls Tryd.prog 28 #[.string s, .int .i64 (a : Nat)] w (OneR (one l) w) := by
  obtain ⟨i5, hi5, hz5, hs5, hb5⟩ := info_parts infoT
  have hlen : r.length + 1 = s.size - a := by rw [← size_list, ← List.length_drop, hl, hcr]; rfl
  have hai : (a : Int) < (s.size : Int) := by omega
  have i0 : ∀ w, (Instr.index 9 (.string s) (.int .i64 (a : Nat))).run Tryd.prog w = .ok (.int .u8 (c.toNat : Nat)) w := fun w => index_run s a c w (by
    have : (s.data.toList.drop a)[0]? = some c := by rw [hl, hcr]; rfl
    rw [List.getElem?_drop] at this
    exact this)
  have HLt := Lib.hid (refLetter_any c)
  have HDg := Lib.hid (refDigit_any c)
  rw [h1] at HLt
  rw [h2] at HDg
  have HN := Lib.hid fun w => refNumber_any s a w hs l c r hl hcr h2
  have hone := one_dg (r := r) h2
  rw [← hcr] at hone
  have HZ := Lib.hid (fun w' (h : Below (w.alloc (row5 0 ⟨#[]⟩ 0 0 false)).heap.size (w.alloc (row5 0 ⟨#[]⟩ 0 0 false)) w') => row_kept h)
  have HZ0 := Lib.hid (HZ.out _ (Below.refl _ _))
  obtain ⟨c0, c1, c2, c3, c4, cf⟩ := row5_cells HZ0.out.1
  have f0 := cf 0
  have f1 := cf 1
  have f2 := cf 2
  have f3 := cf 3
  have f4 := cf 4
  clear cf hlen hl hcr h1 h2
  cases hnum : num l with
  | none =>
    rw [hnum] at HN hone
    have HO := Lib.hid hone
    unfold nuV at HN
    clear hnum hone
    unfold row5 at *
    go_enter Tryd.func28, Tryd.ntmps28
    go_wp2_with fail
    refine (HLt.out _).mono ?_
    rintro e w' ⟨rfl, rfl⟩
    go_wp2_with fail
    refine (HDg.out _).mono ?_
    rintro e w' ⟨rfl, rfl⟩
    go_wp2_with fail
    refine (HN.out _).mono ?_
    rintro e w' ⟨rfl, rfl⟩
    go_wp2_with fail
    refine bodyPost_ret (res_ct rfl _ _ w.heap.size 30 _ (0, 0) _ rfl (hp_new rfl) Tryd.underlying30 rfl (by rw [hi5]; simp [hs5])) rfl ?_
    exact oneR_none ⟨3, [], 0⟩ HO.out (below_alloc _ _) rfl
  | some x =>
    obtain ⟨n, k⟩ := x
    rw [hnum] at HN hone
    have HO := Lib.hid hone
    unfold nuV at HN
    clear hnum hone
    unfold row5 at *
    go_enter Tryd.func28, Tryd.ntmps28
    go_wp2_with fail
    refine (HLt.out _).mono ?_
    rintro e w' ⟨rfl, rfl⟩
    go_wp2_with fail
    refine (HDg.out _).mono ?_
    rintro e w' ⟨rfl, rfl⟩
    go_wp2_with fail
    refine (HN.out _).mono ?_
    rintro e w' ⟨rfl, rfl⟩
    go_wp2_with fail
    refine bodyPost_ret (res_ct rfl _ _ w.heap.size 30 _ (0, 0) _ rfl (hp_new rfl) Tryd.underlying30 rfl (by rw [hi5]; simp [hs5])) rfl ?_
    exact oneR_some (t := ⟨3, [], n⟩) HO.out (below_alloc _ _) rfl
set_option maxRecDepth 8000 in
set_option maxHeartbeats 2000000 in
theorem refOne_q (s : ByteArray) (a : Nat) (w : World) (hs : s.size ≤ 1000000) (l : Bs) (c : UInt8) (r : Bs) (hl : s.data.toList.drop a = l) (hcr : l = c :: r) (h1 : lt c = false) (h2 : dg c = false) (h3 : c = 39 ∨ c = 34) :
    Calls Tryd.prog 28 #[.string s, .int .i64 (a : Nat)] w (OneR (one l) w) := by
  obtain ⟨i5, hi5, hz5, hs5, hb5⟩ := info_parts infoT
  have hlen : r.length + 1 = s.size - a := by rw [← size_list, ← List.length_drop, hl, hcr]; rfl
  have hai : (a : Int) < (s.size : Int) := by omega
  have hail : (a : Int) ≤ (s.size : Int) := by omega
  have i0 : ∀ w, (Instr.index 9 (.string s) (.int .i64 (a : Nat))).run Tryd.prog w = .ok (.int .u8 (c.toNat : Nat)) w := fun w => index_run s a c w (by
    have : (s.data.toList.drop a)[0]? = some c := by rw [hl, hcr]; rfl
    rw [List.getElem?_drop] at this
    exact this)
  have HLt := Lib.hid (refLetter_any c)
  have HDg := Lib.hid (refDigit_any c)
  rw [h1] at HLt
  rw [h2] at HDg
  have HN := Lib.hid fun w => refRead_any (s.extract a s.size) w (by rw [ext_size _ _ _ (Nat.le_refl _)]; omega)
  have hdr : (s.extract a s.size).data.toList = l := by rw [ext_end, hl]
  rw [hdr] at HN
  have hone := one_q (r := r) h1 h2 h3
  rw [← hcr] at hone
  have HZ := Lib.hid (fun w' (h : Below (w.alloc (row5 0 ⟨#[]⟩ 0 0 false)).heap.size (w.alloc (row5 0 ⟨#[]⟩ 0 0 false)) w') => row_kept h)
  have hn : c.toNat = 39 ∨ c.toNat = 34 := by
    rcases h3 with rfl | rfl
    · exact .inl rfl
    · exact .inr rfl
  generalize c.toNat = n at *
  clear hlen hl hcr h1 h2 h3 hdr
  cases hrd : read l with
  | none =>
    rw [hrd] at HN hone
    have HO := Lib.hid hone
    unfold readRes at HN
    clear hrd hone
    unfold row5 at *
    rcases hn with rfl | rfl
    all_goals
      go_enter Tryd.func28, Tryd.ntmps28
      go_wp2_with fail
      refine (HLt.out _).mono ?_
      rintro e w' ⟨rfl, rfl⟩
      go_wp2_with fail
      refine (HDg.out _).mono ?_
      rintro e w' ⟨rfl, rfl⟩
      go_wp2_with fail
      refine (HN.out _).mono ?_
      rintro e w1 ⟨rfl, hb1⟩
      obtain ⟨hz1, hz2⟩ := HZ.out _ hb1
      obtain ⟨c0, c1, c2, c3, c4, cf⟩ := row5_cells hz1
      have f0 := cf 0
      have f1 := cf 1
      have f2 := cf 2
      have f3 := cf 3
      have f4 := cf 4
      have HR := Lib.hid hz1
      have HB := Lib.hid hz2
      clear hz1 hz2 cf hb1
      go_wp2_with fail
      rw [put5_eq]
      refine bodyPost_ret (res_ct rfl _ _ w.heap.size 30 _ (0, 0) _ rfl (put5_row HR.out _ _ _ _ _) Tryd.underlying30 rfl (by rw [hi5]; simp [hs5])) rfl ?_
      exact oneR_none ⟨4, [], 0⟩ HO.out (put5_below HB.out (Nat.le_refl _) _ _ _ _ _) rfl
  | some x =>
    obtain ⟨u, k⟩ := x
    rw [hrd] at HN hone
    have HO := Lib.hid hone
    unfold readRes at HN
    clear hrd hone
    unfold row5 at *
    rcases hn with rfl | rfl
    all_goals
      go_enter Tryd.func28, Tryd.ntmps28
      go_wp2_with fail
      refine (HLt.out _).mono ?_
      rintro e w' ⟨rfl, rfl⟩
      go_wp2_with fail
      refine (HDg.out _).mono ?_
      rintro e w' ⟨rfl, rfl⟩
      go_wp2_with fail
      refine (HN.out _).mono ?_
      rintro e w1 ⟨rfl, hb1⟩
      obtain ⟨hz1, hz2⟩ := HZ.out _ hb1
      obtain ⟨c0, c1, c2, c3, c4, cf⟩ := row5_cells hz1
      have f0 := cf 0
      have f1 := cf 1
      have f2 := cf 2
      have f3 := cf 3
      have f4 := cf 4
      have HR := Lib.hid hz1
      have HB := Lib.hid hz2
      clear hz1 hz2 cf hb1
      go_wp2_with fail
      rw [put5_eq]
      refine bodyPost_ret (res_ct rfl _ _ w.heap.size 30 _ (0, 0) _ rfl (put5_row HR.out _ _ _ _ _) Tryd.underlying30 rfl (by rw [hi5]; simp [hs5])) rfl ?_
      exact oneR_some (t := ⟨4, bs u, 0⟩) HO.out (put5_below HB.out (Nat.le_refl _) _ _ _ _ _) rfl
set_option maxRecDepth 8000 in
set_option maxHeartbeats 2000000 in
theorem refOne_s (s : ByteArray) (a : Nat) (w : World) (hs : s.size ≤ 1000000) (l : Bs) (c : UInt8) (r : Bs) (hl : s.data.toList.drop a = l) (hcr : l = c :: r) (h1 : lt c = false) (h2 : dg c = false) (h3 : ¬ (c = 39 ∨ c = 34)) :
    Calls Tryd.prog 28 #[.string s, .int .i64 (a : Nat)] w (OneR (one l) w) := by
  obtain ⟨i5, hi5, hz5, hs5, hb5⟩ := info_parts infoT
  have hlen : r.length + 1 = s.size - a := by rw [← size_list, ← List.length_drop, hl, hcr]; rfl
  have hai : (a : Int) < (s.size : Int) := by omega
  have i0 : ∀ w, (Instr.index 9 (.string s) (.int .i64 (a : Nat))).run Tryd.prog w = .ok (.int .u8 (c.toNat : Nat)) w := fun w => index_run s a c w (by
    have : (s.data.toList.drop a)[0]? = some c := by rw [hl, hcr]; rfl
    rw [List.getElem?_drop] at this
    exact this)
  have HLt := Lib.hid (refLetter_any c)
  have HDg := Lib.hid (refDigit_any c)
  rw [h1] at HLt
  rw [h2] at HDg
  have hone := one_s (r := r) h1 h2 h3
  rw [← hcr] at hone
  have b1 : ((c.toNat : Int) == 39) = false := ne_i (fun h => h3 (.inl (UInt8.toNat_inj.1 (by have : (39 : UInt8).toNat = 39 := rfl; omega))))
  have b2 : ((c.toNat : Int) == 34) = false := ne_i (fun h => h3 (.inr (UInt8.toNat_inj.1 (by have : (34 : UInt8).toNat = 34 := rfl; omega))))
  have HZ := Lib.hid (fun w' (h : Below (w.alloc (row5 0 ⟨#[]⟩ 0 0 false)).heap.size (w.alloc (row5 0 ⟨#[]⟩ 0 0 false)) w') => row_kept h)
  have HW := Lib.hid signs_any
  have HC := Lib.hid (strs_at (w.alloc (row5 0 ⟨#[]⟩ 0 0 false)) signs)
  have HBs := Lib.hid (HZ.out _ (below_alloc (w.alloc (row5 0 ⟨#[]⟩ 0 0 false)) (strsO signs)))
  have HLn := Lib.hid signs_len
  have HSm : Hid (∀ g ∈ signs, g.length ≤ 16) := Lib.hid (by decide +kernel)
  have HBe := Lib.hid fun (g : ByteArray) (hg : g.size ≤ 16) w => begins_any s a g w (by omega) (by omega) hg
  rw [hl] at HBe
  have HN : Hid ((∀ i (h : i < signs.length), signs[i].isPrefixOf l = false) → one l = none) := Lib.hid fun h => by
    rw [hone]
    have : sg l = none := by
      unfold sg
      rw [List.find?_eq_none]
      intro x hx
      obtain ⟨i, hi, rfl⟩ := List.getElem_of_mem hx
      rw [h i hi]
      decide
    rw [this]
    rfl
  have HY : Hid (∀ j (h : j < signs.length), (∀ i, i < j → (h : i < signs.length) → signs[i].isPrefixOf l = false) → signs[j].isPrefixOf l = true → one l = some (⟨5, signs[j], 0⟩, signs[j].length)) := Lib.hid fun j h h1 h2 => by
    rw [hone]
    have : sg l = some signs[j] := by
      unfold sg
      rw [List.find?_eq_some_iff_getElem]
      refine ⟨h2, j, h, rfl, fun i hi => ?_⟩
      rw [h1 i hi (by omega)]
      rfl
    rw [this]
    rfl
  clear hlen hl hcr h1 h2 h3 hone
  generalize signs = gs at *
  unfold row5 at *
  go_enter Tryd.func28, Tryd.ntmps28
  go_wp2_with fail
  refine (HLt.out _).mono ?_
  rintro e w' ⟨rfl, rfl⟩
  go_wp2_with fail
  refine (HDg.out _).mono ?_
  rintro e w' ⟨rfl, rfl⟩
  go_wp2_with fail
  refine (HW.out _).mono ?_
  rintro e w' ⟨rfl, rfl⟩
  generalize (w.alloc (.cells #[.int .i64 0, .string ⟨#[]⟩, .int .i64 0, .int .i64 0, .bool false] 30 (0, 0))).alloc (strsO gs) = w1 at *
  generalize (w.alloc (.cells #[.int .i64 0, .string ⟨#[]⟩, .int .i64 0, .int .i64 0, .bool false] 30 (0, 0))).heap.size = G at *
  go_wp2_with fail
  go_loopw [91] (fun v wr => ∃ j : Nat, j ≤ 35 ∧ v = .int .i64 j ∧ Hid (∀ i, i < j → (h : i < gs.length) → gs[i].isPrefixOf l = false) ∧ w1 = wr)
    (fun v _ => 35 - (intOf v).toNat)
  case atStart => exact ⟨0, Nat.zero_le _, rfl, Lib.hid fun i hi => by omega, rfl⟩
  case round =>
    obtain ⟨j, hj, rfl, hh, rfl⟩ := hrel
    obtain ⟨c0, c1, c2, c3, c4, cf⟩ := row5_cells HBs.out.1
    have f0 := cf 0
    have f1 := cf 1
    have f2 := cf 2
    have f3 := cf 3
    have f4 := cf 4
    clear cf
    by_cases hlt : j < 35
    · have hlt' : j < gs.length := by rw [HLn.out]; exact hlt
      have hc := HC.out j hlt'
      have hlti : (j : Int) < 35 := by omega
      obtain ⟨X, hX⟩ : ∃ X : ByteArray, X = ⟨gs[j].toArray⟩ := ⟨_, rfl⟩
      have hXl : X.data.toList = gs[j] := by rw [hX]
      have hXz : X.size = gs[j].length := by rw [← hXl, size_list]
      have HB1 := Lib.hid fun w => HBe.out X (by rw [hXz]; exact HSm.out _ (List.getElem_mem hlt')) w
      rw [hXl] at HB1
      rw [← hX] at hc
      cases hp : gs[j].isPrefixOf l with
      | true =>
        rw [hp] at HB1
        have HO := Lib.hid (HY.out j hlt' hh.out hp)
        rw [← hXz] at HO
        have HX := Lib.hid hX
        have HZf := Lib.hid HBs.out
        clear hX hXl hXz hp hh HY HN HC HSm HLn
        go_wp2_with fail
        refine (HB1.out _).mono ?_
        rintro e w' ⟨rfl, rfl⟩
        go_wp2_with fail
        rw [put5_eq]
        refine bodyPost_ret (res_ct rfl _ _ w.heap.size 30 _ (0, 0) _ rfl (put5_row HZf.out.1 _ _ _ _ _) Tryd.underlying30 rfl (by rw [hi5]; simp [hs5])) rfl ?_
        exact oneR_some HO.out (put5_below HZf.out.2 (Nat.le_refl _) _ _ _ _ _) (by unfold tV; rw [← HX.out]; rfl)
      | false =>
        rw [hp] at HB1
        have HS : Hid (∀ i, i < j + 1 → (h : i < gs.length) → gs[i].isPrefixOf l = false) := Lib.hid fun i hi h => by
          rcases Nat.lt_succ_iff_lt_or_eq.1 hi with hi | rfl
          · exact hh.out i hi h
          · exact hp
        clear hX hXl hXz hp hh c0 c1 c2 c3 c4 f0 f1 f2 f3 f4
        go_wp2_with fail
        refine (HB1.out _).mono ?_
        rintro e w' ⟨rfl, rfl⟩
        go_wp2_with fail
        go_roundw
        case rel => exact ⟨j + 1, by omega, by go_num, HS, by first | rfl | trivial⟩
        case measure => simp [intOf]; omega
    · obtain rfl : j = 35 := by omega
      have HO := Lib.hid (HN.out fun i h => hh.out i (by rw [HLn.out] at h; exact h) h)
      have HZf := Lib.hid HBs.out
      clear hh HY HN HC HSm HLn
      go_wp2_with fail
      rw [put5_eq]
      refine bodyPost_ret (res_ct rfl _ _ w.heap.size 30 _ (0, 0) _ rfl (put5_row HZf.out.1 _ _ _ _ _) Tryd.underlying30 rfl (by rw [hi5]; simp [hs5])) rfl ?_
      exact oneR_none t0 HO.out (put5_below HZf.out.2 (Nat.le_refl _) _ _ _ _ _) rfl
end Go.Proofs.YtkaamaopjcaalaaDoor.T
