/-
  The reference's one at a letter; one, by contract. (written by gen5.py)
-/
import Derived.Test.YtkaamaopjcaalaaDoorN
namespace Go.Proofs.YtkaamaopjcaalaaDoor.T
open Go.RowKit Go.Proofs.YtkaamaopjcaalaaDoor

theorem two_kept {w w3 : World} {o o2 : Obj} (h : Below ((w.alloc o).alloc o2).heap.size ((w.alloc o).alloc o2) w3) : w3.heap[w.heap.size]? = some o ∧ w3.heap[w.heap.size + 1]? = some o2 ∧ Below w.heap.size w w3 := by
  obtain ⟨h1, h2⟩ := row_kept h
  have e : (w.alloc o).heap.size = w.heap.size + 1 := by simp
  rw [e] at h1
  exact ⟨(h2.block _ (by simp)).trans (hp_new rfl), h1, (below_alloc w o).trans (h2.mono (by simp))⟩
theorem set_other {w : World} {g g2 : Nat} (h : g2 ≠ g) (i : Nat) (u : Value) : (w.setCell ⟨g, i, none⟩ u).heap[g2]? = w.heap[g2]? := Below.heap_setCell w ⟨g, i, none⟩ u g2 h
set_option maxRecDepth 8000 in
set_option maxHeartbeats 4000000 in
theorem refOne_lt (s : ByteArray) (a : Nat) (w : World) (hs : s.size ≤ 1000000) (l : Bs) (c : UInt8) (r : Bs) (hl : s.data.toList.drop a = l) (hcr : l = c :: r) (h1 : lt c = true) :
    Calls Tryd.prog 28 #[.string s, .int .i64 (a : Nat)] w (OneR (one l) w) := by
  obtain ⟨i5, hi5, hz5, hs5, hb5⟩ := info_parts infoT
  have hlen : l.length = s.size - a := by rw [← size_list, ← List.length_drop, hl]
  have hlp : 0 < l.length := by rw [hcr]; simp
  have ha : a < s.size := by omega
  have hai : (a : Int) < (s.size : Int) := by omega
  have HIX : Hid (∀ i x w, l[i]? = some x → (Instr.index 9 (.string s) (.int .i64 ((a + i : Nat) : Int))).run Tryd.prog w = .ok (.int .u8 ((x.toNat : Nat) : Int)) w) := Lib.hid fun i x w hx => index_run s (a + i) x w (by
    rw [← hl, List.getElem?_drop] at hx
    exact hx)
  have i0 : ∀ w, (Instr.index 9 (.string s) (.int .i64 (a : Nat))).run Tryd.prog w = .ok (.int .u8 (c.toNat : Nat)) w := fun w => HIX.out 0 c w (by rw [hcr]; rfl)
  have HLt := Lib.hid (refLetter_any c)
  rw [h1] at HLt
  have HAl : Hid (Asks 23 lt) := Lib.hid refLetter_any
  have HAd : Hid (Asks 22 dg) := Lib.hid refDigit_any
  have hone := one_lt (r := r) h1
  rw [← hcr] at hone
  have HO : Hid (∀ k, run ib l = k → one l = if 32 < k then none else some (⟨if isW (l.take k) then 2 else 1, l.take k, 0⟩, k)) := Lib.hid fun k hk => by
    rw [hone]
    unfold word
    rw [hk]
  have HEx : Hid (∀ k, (s.extract a (a + k)).data.toList = l.take k) := Lib.hid fun k => by rw [ext_list, hl, Nat.add_sub_cancel_left]
  have HLn := Lib.hid hlen
  have HZ := Lib.hid (fun w' (h : Below (w.alloc (row5 0 ⟨#[]⟩ 0 0 false)).heap.size (w.alloc (row5 0 ⟨#[]⟩ 0 0 false)) w') => row_kept h)
  have HZ0 := Lib.hid (HZ.out _ (Below.refl _ _))
  obtain ⟨d0, d1, d2, d3, d4, df⟩ := row5_cells HZ0.out.1
  have g0 := df 0
  have g1 := df 1
  have g2 := df 2
  have g3 := df 3
  have g4 := df 4
  have HK2 := Lib.hid fun T w3 (h : Below ((w.alloc (row5 0 ⟨#[]⟩ 0 0 false)).alloc (row5 1 T 0 0 false)).heap.size ((w.alloc (row5 0 ⟨#[]⟩ 0 0 false)).alloc (row5 1 T 0 0 false)) w3) => two_kept h
  have HWd := Lib.hid refIsWord_any
  clear hl hcr h1 hone hlen df
  unfold row5 at *
  go_enter Tryd.func28, Tryd.ntmps28
  go_wp2_with fail
  refine (HLt.out _).mono ?_
  rintro e w' ⟨rfl, rfl⟩
  go_wp2_with fail
  go_loopw [7] (fun v wr => ∃ (t i : Nat), t ≤ s.size ∧ v = .int .i64 t ∧ Hid (t = a + i ∧ ∀ b ∈ l.take i, ib b = true) ∧ w.alloc (.cells #[.int .i64 0, .string ⟨#[]⟩, .int .i64 0, .int .i64 0, .bool false] 30 (0, 0)) = wr)
    (fun v _ => s.size - (intOf v).toNat)
  case atStart => exact ⟨a, 0, by omega, rfl, Lib.hid ⟨rfl, by simp⟩, rfl⟩
  case round =>
    obtain ⟨t, i, ht, rfl, hI, rfl⟩ := hrel
    by_cases hlt : t < s.size
    · have hti := hI.out.1
      have hlt' : i < l.length := by have := HLn.out; omega
      have ix := fun w => HIX.out i _ w (List.getElem?_eq_getElem hlt')
      rw [← hti] at ix
      have HE : Hid (ib l[i] = false → t = a + i ∧ run ib l = i) := Lib.hid fun h => ⟨hti, run_eq hlt' hI.out.2 h⟩
      have HS : Hid (ib l[i] = true → t + 1 = a + (i + 1) ∧ ∀ b ∈ l.take (i + 1), ib b = true) := Lib.hid fun h => ⟨by omega, fun b hb => by
        rw [List.take_succ_eq_append_getElem hlt', List.mem_append, List.mem_singleton] at hb
        rcases hb with hb | rfl
        · exact hI.out.2 b hb
        · exact h⟩
      generalize l[i] = x at *
      have HC1 := Lib.hid (HAl.out x)
      have HC2 := Lib.hid (HAd.out x)
      have hxb : ib x = (lt x || dg x) := rfl
      clear hI hlt' hti
      cases hl1 : lt x with
      | true =>
        rw [hl1] at HC1
        have HV := Lib.hid (HS.out (by rw [hxb, hl1]; rfl))
        clear hl1 HE HS hxb
        go_wp2_with (first | (go_at_call 23; refine (HC1.out _).mono ?_; rintro e w' ⟨rfl, rfl⟩) | (go_at_call 22; refine (HC2.out _).mono ?_; rintro e w' ⟨rfl, rfl⟩))
        go_roundw
        case rel => exact ⟨t + 1, i + 1, by omega, by go_num, HV, by first | rfl | trivial⟩
        case measure => simp [intOf]; omega
      | false =>
        rw [hl1] at HC1
        cases hd1 : dg x with
        | true =>
          rw [hd1] at HC2
          have HV := Lib.hid (HS.out (by rw [hxb, hl1, hd1]; rfl))
          clear hl1 hd1 HE HS hxb
          go_wp2_with (first | (go_at_call 23; refine (HC1.out _).mono ?_; rintro e w' ⟨rfl, rfl⟩) | (go_at_call 22; refine (HC2.out _).mono ?_; rintro e w' ⟨rfl, rfl⟩))
          go_roundw
          case rel => exact ⟨t + 1, i + 1, by omega, by go_num, HV, by first | rfl | trivial⟩
          case measure => simp [intOf]; omega
        | false =>
          rw [hd1] at HC2
          have hk := HE.out (by rw [hxb, hl1, hd1]; rfl)
          clear hl1 hd1 HE HS hxb
          obtain ⟨hti, hk⟩ := hk
          have hto : (t : Int) - (a : Int) = (i : Int) := by omega
          have hat : (a : Int) ≤ (t : Int) := by omega
          have hts : (t : Int) ≤ (s.size : Int) := by omega
          by_cases h32 : 32 < i
          · have HV := Lib.hid (HO.out i hk)
            rw [if_pos h32] at HV
            have h32i : 32 < (t : Int) - (a : Int) := by omega
            clear hk hto h32 hti
            go_wp2_with (first | (go_at_call 23; refine (HC1.out _).mono ?_; rintro e w' ⟨rfl, rfl⟩) | (go_at_call 22; refine (HC2.out _).mono ?_; rintro e w' ⟨rfl, rfl⟩))
            refine bodyPost_ret (res_ct rfl _ _ w.heap.size 30 _ (0, 0) _ rfl (HZ0.out.1) Tryd.underlying30 rfl (by rw [hi5]; simp [hs5])) rfl ?_
            exact oneR_none t0 HV.out HZ0.out.2 rfl
          · have hV := HO.out i hk
            rw [if_neg h32, ← HEx.out i, ← hti] at hV
            have h32i : (t : Int) - (a : Int) ≤ 32 := by omega
            have HT := Lib.hid fun w => HWd.out (s.extract a t) w
            have HTo := Lib.hid hto
            clear hk hto h32 hti
            cases hiw : isW (s.extract a t).data.toList with
            | true =>
              rw [hiw, if_pos rfl] at hV
              rw [hiw] at HT
              have HV := Lib.hid hV
              clear hV hiw
              go_wp2_with (first | (go_at_call 23; refine (HC1.out _).mono ?_; rintro e w' ⟨rfl, rfl⟩) | (go_at_call 22; refine (HC2.out _).mono ?_; rintro e w' ⟨rfl, rfl⟩))
              refine (HT.out _).mono ?_
              rintro e w3 ⟨rfl, hb3⟩
              obtain ⟨k1, k2, k3⟩ := HK2.out _ _ hb3
              clear d0 d1 d2 d3 d4 g0 g1 g2 g3 g4
              obtain ⟨c0, c1, c2, c3, c4, cf⟩ := row5_cells k2
              have f0 := cf 0
              have f1 := cf 1
              have f2 := cf 2
              have f3 := cf 3
              have f4 := cf 4
              have hr1 : (w3.setCell ⟨w.heap.size + 1, 0, none⟩ (.int .i64 2)).heap[w.heap.size]? = some (row5 0 ⟨#[]⟩ 0 0 false) := (set_other (by omega) _ _).trans k1
              obtain ⟨d0, d1, d2, d3, d4, df⟩ := row5_cells hr1
              have g0 := df 0
              have g1 := df 1
              have g2 := df 2
              have g3 := df 3
              have g4 := df 4
              have HR1 := Lib.hid hr1
              have HB1 := Lib.hid (k3.setCell (p := ⟨w.heap.size + 1, 0, none⟩) (Nat.le_succ _) (.int .i64 2))
              clear k1 k2 k3 cf df hr1 hb3
              go_wp2_with fail
              rw [put5_eq]
              refine bodyPost_ret (res_ct rfl _ _ w.heap.size 30 _ (0, 0) _ rfl (put5_row HR1.out _ _ _ _ _) Tryd.underlying30 rfl (by rw [hi5]; simp [hs5])) rfl ?_
              exact oneR_some HV.out (put5_below HB1.out (Nat.le_refl _) _ _ _ _ _) (by unfold tV; rw [← HTo.out, mk_list]; rfl)
            | false =>
              rw [hiw, if_neg (by decide)] at hV
              rw [hiw] at HT
              have HV := Lib.hid hV
              clear hV hiw
              go_wp2_with (first | (go_at_call 23; refine (HC1.out _).mono ?_; rintro e w' ⟨rfl, rfl⟩) | (go_at_call 22; refine (HC2.out _).mono ?_; rintro e w' ⟨rfl, rfl⟩))
              refine (HT.out _).mono ?_
              rintro e w3 ⟨rfl, hb3⟩
              obtain ⟨k1, k2, k3⟩ := HK2.out _ _ hb3
              clear d0 d1 d2 d3 d4 g0 g1 g2 g3 g4
              obtain ⟨c0, c1, c2, c3, c4, cf⟩ := row5_cells k2
              have f0 := cf 0
              have f1 := cf 1
              have f2 := cf 2
              have f3 := cf 3
              have f4 := cf 4
              obtain ⟨d0, d1, d2, d3, d4, df⟩ := row5_cells k1
              have g0 := df 0
              have g1 := df 1
              have g2 := df 2
              have g3 := df 3
              have g4 := df 4
              have HR1 := Lib.hid k1
              have HB1 := Lib.hid k3
              clear k1 k2 k3 cf df hb3
              go_wp2_with fail
              rw [put5_eq]
              refine bodyPost_ret (res_ct rfl _ _ w.heap.size 30 _ (0, 0) _ rfl (put5_row HR1.out _ _ _ _ _) Tryd.underlying30 rfl (by rw [hi5]; simp [hs5])) rfl ?_
              exact oneR_some HV.out (put5_below HB1.out (Nat.le_refl _) _ _ _ _ _) (by unfold tV; rw [← HTo.out, mk_list]; rfl)
    · have hk : t = a + i ∧ run ib l = i := by
        have hti := hI.out.1
        refine ⟨hti, ?_⟩
        have hi : i = l.length := by have := HLn.out; omega
        rw [hi]
        exact run_full fun b hb => hI.out.2 b (by rw [hi, List.take_length]; exact hb)

      clear hI
      obtain ⟨hti, hk⟩ := hk
      have hto : (t : Int) - (a : Int) = (i : Int) := by omega
      have hat : (a : Int) ≤ (t : Int) := by omega
      have hts : (t : Int) ≤ (s.size : Int) := by omega
      by_cases h32 : 32 < i
      · have HV := Lib.hid (HO.out i hk)
        rw [if_pos h32] at HV
        have h32i : 32 < (t : Int) - (a : Int) := by omega
        clear hk hto h32 hti
        go_wp2_with fail
        refine bodyPost_ret (res_ct rfl _ _ w.heap.size 30 _ (0, 0) _ rfl (HZ0.out.1) Tryd.underlying30 rfl (by rw [hi5]; simp [hs5])) rfl ?_
        exact oneR_none t0 HV.out HZ0.out.2 rfl
      · have hV := HO.out i hk
        rw [if_neg h32, ← HEx.out i, ← hti] at hV
        have h32i : (t : Int) - (a : Int) ≤ 32 := by omega
        have HT := Lib.hid fun w => HWd.out (s.extract a t) w
        have HTo := Lib.hid hto
        clear hk hto h32 hti
        cases hiw : isW (s.extract a t).data.toList with
        | true =>
          rw [hiw, if_pos rfl] at hV
          rw [hiw] at HT
          have HV := Lib.hid hV
          clear hV hiw
          go_wp2_with fail
          refine (HT.out _).mono ?_
          rintro e w3 ⟨rfl, hb3⟩
          obtain ⟨k1, k2, k3⟩ := HK2.out _ _ hb3
          clear d0 d1 d2 d3 d4 g0 g1 g2 g3 g4
          obtain ⟨c0, c1, c2, c3, c4, cf⟩ := row5_cells k2
          have f0 := cf 0
          have f1 := cf 1
          have f2 := cf 2
          have f3 := cf 3
          have f4 := cf 4
          have hr1 : (w3.setCell ⟨w.heap.size + 1, 0, none⟩ (.int .i64 2)).heap[w.heap.size]? = some (row5 0 ⟨#[]⟩ 0 0 false) := (set_other (by omega) _ _).trans k1
          obtain ⟨d0, d1, d2, d3, d4, df⟩ := row5_cells hr1
          have g0 := df 0
          have g1 := df 1
          have g2 := df 2
          have g3 := df 3
          have g4 := df 4
          have HR1 := Lib.hid hr1
          have HB1 := Lib.hid (k3.setCell (p := ⟨w.heap.size + 1, 0, none⟩) (Nat.le_succ _) (.int .i64 2))
          clear k1 k2 k3 cf df hr1 hb3
          go_wp2_with fail
          rw [put5_eq]
          refine bodyPost_ret (res_ct rfl _ _ w.heap.size 30 _ (0, 0) _ rfl (put5_row HR1.out _ _ _ _ _) Tryd.underlying30 rfl (by rw [hi5]; simp [hs5])) rfl ?_
          exact oneR_some HV.out (put5_below HB1.out (Nat.le_refl _) _ _ _ _ _) (by unfold tV; rw [← HTo.out, mk_list]; rfl)
        | false =>
          rw [hiw, if_neg (by decide)] at hV
          rw [hiw] at HT
          have HV := Lib.hid hV
          clear hV hiw
          go_wp2_with fail
          refine (HT.out _).mono ?_
          rintro e w3 ⟨rfl, hb3⟩
          obtain ⟨k1, k2, k3⟩ := HK2.out _ _ hb3
          clear d0 d1 d2 d3 d4 g0 g1 g2 g3 g4
          obtain ⟨c0, c1, c2, c3, c4, cf⟩ := row5_cells k2
          have f0 := cf 0
          have f1 := cf 1
          have f2 := cf 2
          have f3 := cf 3
          have f4 := cf 4
          obtain ⟨d0, d1, d2, d3, d4, df⟩ := row5_cells k1
          have g0 := df 0
          have g1 := df 1
          have g2 := df 2
          have g3 := df 3
          have g4 := df 4
          have HR1 := Lib.hid k1
          have HB1 := Lib.hid k3
          clear k1 k2 k3 cf df hb3
          go_wp2_with fail
          rw [put5_eq]
          refine bodyPost_ret (res_ct rfl _ _ w.heap.size 30 _ (0, 0) _ rfl (put5_row HR1.out _ _ _ _ _) Tryd.underlying30 rfl (by rw [hi5]; simp [hs5])) rfl ?_
          exact oneR_some HV.out (put5_below HB1.out (Nat.le_refl _) _ _ _ _ _) (by unfold tV; rw [← HTo.out, mk_list]; rfl)
theorem refOne_any (s : ByteArray) (a : Nat) (w : World) (hs : s.size ≤ 1000000) (l : Bs) (c : UInt8) (r : Bs) (hl : s.data.toList.drop a = l) (hcr : l = c :: r) :
    Calls Tryd.prog 28 #[.string s, .int .i64 (a : Nat)] w (OneR (one l) w) := by
  cases h1 : lt c with
  | true => exact refOne_lt s a w hs l c r hl hcr h1
  | false =>
    cases h2 : dg c with
    | true => exact refOne_num s a w hs l c r hl hcr h1 h2
    | false =>
      by_cases h3 : c = 39 ∨ c = 34
      · exact refOne_q s a w hs l c r hl hcr h1 h2 h3
      · exact refOne_s s a w hs l c r hl hcr h1 h2 h3
end Go.Proofs.YtkaamaopjcaalaaDoor.T
