/-
  readNum, readToken, by contract. (written by gen3.py)
-/
import Derived.Test.YtkaamaopjcaalaaDoorK
namespace Go.Proofs.YtkaamaopjcaalaaDoor.T
open Go.RowKit Go.Proofs.YtkaamaopjcaalaaDoor

/-- what readNum answers -/
def nmT (l : Bs) : Option (Tok × Nat) := (num l).map fun x => (⟨3, [], x.1⟩, x.2)
theorem num_at {l D : Bs} {b k : Nat} (h : nparts l = (D, b, k)) : num l = if 9007199254740991 < val b 0 D then none else if free (l.drop k) then some (val b 0 D, k) else none := by
  unfold num
  rw [h]
theorem nmT_none {l : Bs} (h : num l = none) : tkV (nmT l) = .tuple #[.agg #[.int .i64 0, .string ⟨#[]⟩, .int .i64 0, .int .i64 0, .bool false], .int .i64 0] := by unfold nmT; rw [h]; rfl
theorem nmT_some {l : Bs} {v k : Nat} (h : num l = some (v, k)) : tkV (nmT l) = .tuple #[.agg #[.int .i64 3, .string ⟨#[]⟩, .int .i64 (v : Nat), .int .i64 0, .bool false], .int .i64 (k : Nat)] := by unfold nmT; rw [h]; rfl
theorem uint_okB (t : ByteArray) (b : Nat) (B : Int) (hB : B = (b : Nat)) (hd : digs b t.data.toList) (hne : 0 < t.size) (hmax : t.size ≤ 1000000) (hv : val b 0 t.data.toList < 18446744073709551616) (w : World) :
    Calls Tryd.prog 56 #[.string t, .int .i64 B, .int .i64 64] w fun e w' => e = .returned (.tuple #[.int .u64 (val b 0 t.data.toList : Nat), .nilIface]) ∧ Below w.heap.size w w' := by
  subst hB
  exact uint_ok t b hd hne hmax hv w
theorem uint_noB (t : ByteArray) (b : Nat) (B : Int) (hB : B = (b : Nat)) (hd : digs b t.data.toList) (hne : 0 < t.size) (hmax : t.size ≤ 1000000) (hv : ¬ val b 0 t.data.toList < 18446744073709551616) (w : World) (hE : RngAt w) :
    Calls Tryd.prog 56 #[.string t, .int .i64 B, .int .i64 64] w fun e w' => ∃ N, e = .returned (.tuple #[.int .u64 18446744073709551615, .iface 91 (.pointer (some ⟨N, 0, none⟩))]) ∧ Below w.heap.size w w' := by
  subst hB
  exact uint_no t b hd hne hmax hv w hE
theorem all_take {p : UInt8 → Bool} (l : Bs) : ∀ c ∈ l.take (run p l), p c = true := run_all l
set_option maxRecDepth 8000 in
set_option maxHeartbeats 2000000 in
theorem readNum_hex (s : ByteArray) (w : World) (hs : s.size ≤ 1000000) (hE : RngAt w) (c : UInt8) (r : Bs) (hl : s.data.toList = c :: r) (hH : isH (c :: r) = true) :
    Calls Tryd.prog 36 #[.string s] w fun e w' => e = .returned (tkV (nmT (c :: r))) ∧ Below w.heap.size w w' := by
  obtain ⟨i5, hi5, hz5, hs5, hb5⟩ := info_parts infoT
  have HH := Lib.hid fun w => isHex_any s w (by omega)
  rw [hl] at HH
  have HIX := Lib.hid (index_run s)
  rw [hl] at HIX
  have hsz : s.size = (c :: r).length := by rw [← hl, size_list]
  have hemp := notEmpty hl
  have i0 : ∀ w, (Instr.index 9 (.string s) (.int .i64 0)).run Tryd.prog w = .ok (.int .u8 (c.toNat : Nat)) w := fun w => HIX.out 0 c w rfl
  have HEx := Lib.hid fun a b => ext_list s a b
  rw [hl] at HEx
  have HEz := Lib.hid fun a b h => ext_size s a b h
  have HZ := Lib.hid (fun w' (h : Below (w.alloc (row5 0 ⟨#[]⟩ 0 0 false)).heap.size (w.alloc (row5 0 ⟨#[]⟩ 0 0 false)) w') => row_kept h)
  have HEr := Lib.hid (hE.below (below_alloc w (row5 0 ⟨#[]⟩ 0 0 false)))
  clear hE
  rw [hH] at HH
  have h3 := isH_long hH
  obtain ⟨k, hk0⟩ : ∃ k, k = run hx ((c :: r).drop 2) := ⟨_, rfl⟩
  have hnp : nparts (c :: r) = (((c :: r).drop 2).take k, 16, 2 + k) := by rw [hk0]; exact if_pos hH
  have hkl : k ≤ ((c :: r).drop 2).length := by rw [hk0]; exact run_le _ _
  rw [List.length_drop] at hkl
  have HS := Lib.hid fun w => sizeOf_hx (s.extract 2 s.size) w (by rw [HEz.out 2 s.size (Nat.le_refl _)]; omega)
  have hdr : (s.extract 2 s.size).data.toList = (c :: r).drop 2 := by rw [ext_end, hl]
  rw [hdr, ← hk0] at HS
  have hkpos : 0 < k := by
    match r, hH with
    | x :: d :: q, hH =>
      have : hx d = true := by
        unfold isH at hH
        simp only [Bool.and_eq_true] at hH
        exact hH.2.2
      rw [hk0]
      show 0 < run hx (d :: q)
      rw [run_go this]
      omega
  obtain ⟨D, hD⟩ : ∃ D, D = ((c :: r).drop 2).take k := ⟨_, rfl⟩
  rw [← hD] at hnp
  obtain ⟨T, hTe⟩ : ∃ T, T = s.extract 2 (2 + k) := ⟨_, rfl⟩
  have hT : T.data.toList = D := by rw [hTe, HEx.out, hD, show 2 + k - 2 = k by omega]
  have hd : digs 16 T.data.toList := .inr ⟨rfl, by rw [hT, hD, hk0]; exact all_take _⟩
  have hTs : T.size = k := by rw [hTe, HEz.out _ _ (by omega)]; omega
  have hne : 0 < T.size := by omega
  have hTz : T.size ≤ 1000000 := by omega
  have hks : 2 + k ≤ s.size := by omega
  have h2s : 2 ≤ (s.size : Int) := by omega
  have hki : 2 + (k : Int) ≤ (s.size : Int) := by omega
  have hkj : 2 ≤ 2 + (k : Int) := by omega
  clear hdr hkpos hkl hH h3 hk0 hD hTs
  subst hTe
  have hval := num_at hnp
  by_cases hv64 : val 16 0 (s.extract 2 (2 + k)).data.toList < 18446744073709551616
  · have HP := Lib.hid (uint_okB (s.extract 2 (2 + k)) 16 16 rfl hd hne hTz hv64)
    rw [hT] at HP hv64
    obtain ⟨V, hV⟩ : ∃ V, val 16 0 D = V := ⟨_, rfl⟩
    rw [hV] at HP hval hv64
    by_cases hM : 9007199254740991 < V
    · rw [if_pos hM] at hval
      have HV := Lib.hid (nmT_none hval)
      have hM' : 9007199254740991 < (V : Int) := by omega
      clear hval hnp hd hne hTz hT hV hv64 hl hM
      clear hsz
      unfold row5 at *
      go_enter Tryd.func36, Tryd.ntmps36
      go_wp2_with (go_at_call 54; refine (HH.out _).mono ?_; rintro e w' ⟨rfl, rfl⟩)
      refine (HS.out _).mono ?_
      rintro e w' ⟨rfl, rfl⟩
      go_wp2_with fail
      refine (HP.out _).mono ?_
      rintro e w1 ⟨rfl, hb1⟩
      obtain ⟨hz1, hz2⟩ := HZ.out _ hb1
      obtain ⟨c0, c1, c2, c3, c4, cf⟩ := row5_cells hz1
      have f0 := cf 0
      have f1 := cf 1
      have f2 := cf 2
      have f3 := cf 3
      have f4 := cf 4
      have HR := Lib.hid hz1
      have HB := Lib.hid hz2
      clear hz1 hz2 cf hb1
      go_wp2_with fail
      rw [put5_eq]
      refine bodyPost_ret (res_ct rfl _ _ w.heap.size 30 _ (0, 0) _ rfl (put5_row HR.out _ _ _ _ _) Tryd.underlying30 rfl (by rw [hi5]; simp [hs5])) rfl ?_
      exact ⟨by rw [HV.out]; rfl, put5_below HB.out (Nat.le_refl _) _ _ _ _ _⟩
    · rw [if_neg hM] at hval
      have hM' : (V : Int) ≤ 9007199254740991 := by omega
      clear hnp hd hne hTz hT hV hv64 hl hM
      by_cases hk : 2 + k < s.size
      · obtain ⟨x, rr, hxr⟩ := drop_cons (l := c :: r) (k := 2 + k) (by rw [← hsz]; exact hk)
        have hgx : (c :: r)[2 + k]? = some x := by
          have : ((c :: r).drop (2 + k))[0]? = some x := by rw [hxr]; rfl
          rw [List.getElem?_drop] at this
          exact this
        have ix : ∀ w, (Instr.index 9 (.string s) (.int .i64 (2 + (k : Int)))).run Tryd.prog w = .ok (.int .u8 (x.toNat : Nat)) w := fun w => HIX.out (2 + k) x w hgx
        have HI := Lib.hid (isIdentByte_any x)
        have hfr : free ((c :: r).drop (2 + k)) = !(ib x || decide (x = 46)) := by rw [hxr]; rfl
        rw [hfr] at hval
        clear hxr hgx hfr
        cases hib : ib x with
        | true =>
          rw [hib] at hval HI
          have HV := Lib.hid (nmT_none hval)
          clear hval hib
          clear hsz
          unfold row5 at *
          go_enter Tryd.func36, Tryd.ntmps36
          go_wp2_with (go_at_call 54; refine (HH.out _).mono ?_; rintro e w' ⟨rfl, rfl⟩)
          refine (HS.out _).mono ?_
          rintro e w' ⟨rfl, rfl⟩
          go_wp2_with fail
          refine (HP.out _).mono ?_
          rintro e w1 ⟨rfl, hb1⟩
          obtain ⟨hz1, hz2⟩ := HZ.out _ hb1
          obtain ⟨c0, c1, c2, c3, c4, cf⟩ := row5_cells hz1
          have f0 := cf 0
          have f1 := cf 1
          have f2 := cf 2
          have f3 := cf 3
          have f4 := cf 4
          have HR := Lib.hid hz1
          have HB := Lib.hid hz2
          clear hz1 hz2 cf hb1
          go_wp2_with (go_at_call 21; refine (HI.out _).mono ?_; rintro e w' ⟨rfl, rfl⟩)
          rw [put5_eq]
          refine bodyPost_ret (res_ct rfl _ _ w.heap.size 30 _ (0, 0) _ rfl (put5_row HR.out _ _ _ _ _) Tryd.underlying30 rfl (by rw [hi5]; simp [hs5])) rfl ?_
          exact ⟨by rw [HV.out]; rfl, put5_below HB.out (Nat.le_refl _) _ _ _ _ _⟩
        | false =>
          rw [hib] at hval HI
          by_cases h46 : x = 46
          · subst h46
            have HV := Lib.hid (nmT_none hval)
            have ix' : ∀ w, (Instr.index 9 (.string s) (.int .i64 (2 + (k : Int)))).run Tryd.prog w = .ok (.int .u8 46) w := ix
            have HI' : Hid (∀ w, Calls Tryd.prog 21 #[.int .u8 46] w fun e w' => e = .returned (.bool false) ∧ w = w') := Lib.hid HI.out
            clear hval hib ix HI
            clear hsz
            unfold row5 at *
            go_enter Tryd.func36, Tryd.ntmps36
            go_wp2_with (go_at_call 54; refine (HH.out _).mono ?_; rintro e w' ⟨rfl, rfl⟩)
            refine (HS.out _).mono ?_
            rintro e w' ⟨rfl, rfl⟩
            go_wp2_with fail
            refine (HP.out _).mono ?_
            rintro e w1 ⟨rfl, hb1⟩
            obtain ⟨hz1, hz2⟩ := HZ.out _ hb1
            obtain ⟨c0, c1, c2, c3, c4, cf⟩ := row5_cells hz1
            have f0 := cf 0
            have f1 := cf 1
            have f2 := cf 2
            have f3 := cf 3
            have f4 := cf 4
            have HR := Lib.hid hz1
            have HB := Lib.hid hz2
            clear hz1 hz2 cf hb1
            go_wp2_with (go_at_call 21; refine (HI'.out _).mono ?_; rintro e w' ⟨rfl, rfl⟩)
            rw [put5_eq]
            refine bodyPost_ret (res_ct rfl _ _ w.heap.size 30 _ (0, 0) _ rfl (put5_row HR.out _ _ _ _ _) Tryd.underlying30 rfl (by rw [hi5]; simp [hs5])) rfl ?_
            exact ⟨by rw [HV.out]; rfl, put5_below HB.out (Nat.le_refl _) _ _ _ _ _⟩
          · rw [decide_eq_false h46] at hval
            have HV := Lib.hid (nmT_some hval)
            have b46 : ((x.toNat : Int) == 46) = false := ne_i (fun h => h46 (UInt8.toNat_inj.1 (by have : (46 : UInt8).toNat = 46 := rfl; omega)))
            clear hval hib h46
            clear hsz
            unfold row5 at *
            go_enter Tryd.func36, Tryd.ntmps36
            go_wp2_with (go_at_call 54; refine (HH.out _).mono ?_; rintro e w' ⟨rfl, rfl⟩)
            refine (HS.out _).mono ?_
            rintro e w' ⟨rfl, rfl⟩
            go_wp2_with fail
            refine (HP.out _).mono ?_
            rintro e w1 ⟨rfl, hb1⟩
            obtain ⟨hz1, hz2⟩ := HZ.out _ hb1
            obtain ⟨c0, c1, c2, c3, c4, cf⟩ := row5_cells hz1
            have f0 := cf 0
            have f1 := cf 1
            have f2 := cf 2
            have f3 := cf 3
            have f4 := cf 4
            have HR := Lib.hid hz1
            have HB := Lib.hid hz2
            clear hz1 hz2 cf hb1
            go_wp2_with (go_at_call 21; refine (HI.out _).mono ?_; rintro e w' ⟨rfl, rfl⟩)
            rw [put5_eq]
            refine bodyPost_ret (res_ct rfl _ _ w.heap.size 30 _ (0, 0) _ rfl (put5_row HR.out _ _ _ _ _) Tryd.underlying30 rfl (by rw [hi5]; simp [hs5])) rfl ?_
            exact ⟨by rw [HV.out]; rfl, put5_below HB.out (Nat.le_refl _) _ _ _ _ _⟩
      · have hfr : free ((c :: r).drop (2 + k)) = true := by rw [List.drop_of_length_le (by rw [← hsz]; omega)]; rfl
        rw [hfr] at hval
        have HV := Lib.hid (nmT_some hval)
        clear hval hfr
        clear hsz
        unfold row5 at *
        go_enter Tryd.func36, Tryd.ntmps36
        go_wp2_with (go_at_call 54; refine (HH.out _).mono ?_; rintro e w' ⟨rfl, rfl⟩)
        refine (HS.out _).mono ?_
        rintro e w' ⟨rfl, rfl⟩
        go_wp2_with fail
        refine (HP.out _).mono ?_
        rintro e w1 ⟨rfl, hb1⟩
        obtain ⟨hz1, hz2⟩ := HZ.out _ hb1
        obtain ⟨c0, c1, c2, c3, c4, cf⟩ := row5_cells hz1
        have f0 := cf 0
        have f1 := cf 1
        have f2 := cf 2
        have f3 := cf 3
        have f4 := cf 4
        have HR := Lib.hid hz1
        have HB := Lib.hid hz2
        clear hz1 hz2 cf hb1
        go_wp2_with fail
        rw [put5_eq]
        refine bodyPost_ret (res_ct rfl _ _ w.heap.size 30 _ (0, 0) _ rfl (put5_row HR.out _ _ _ _ _) Tryd.underlying30 rfl (by rw [hi5]; simp [hs5])) rfl ?_
        exact ⟨by rw [HV.out]; rfl, put5_below HB.out (Nat.le_refl _) _ _ _ _ _⟩
  · have HP := Lib.hid (uint_noB (s.extract 2 (2 + k)) 16 16 rfl hd hne hTz hv64 _ HEr.out)
    rw [hT] at hv64
    rw [if_pos (by omega)] at hval
    have HV := Lib.hid (nmT_none hval)
    clear hval hnp hd hne hTz hT hv64 hl
    clear hsz
    unfold row5 at *
    go_enter Tryd.func36, Tryd.ntmps36
    go_wp2_with (go_at_call 54; refine (HH.out _).mono ?_; rintro e w' ⟨rfl, rfl⟩)
    refine (HS.out _).mono ?_
    rintro e w' ⟨rfl, rfl⟩
    go_wp2_with fail
    refine HP.out.mono ?_
    rintro e w1 ⟨N, rfl, hb1⟩
    obtain ⟨hz1, hz2⟩ := HZ.out _ hb1
    obtain ⟨c0, c1, c2, c3, c4, cf⟩ := row5_cells hz1
    have f0 := cf 0
    have f1 := cf 1
    have f2 := cf 2
    have f3 := cf 3
    have f4 := cf 4
    have HR := Lib.hid hz1
    have HB := Lib.hid hz2
    clear hz1 hz2 cf hb1
    go_wp2_with fail
    rw [put5_eq]
    refine bodyPost_ret (res_ct rfl _ _ w.heap.size 30 _ (0, 0) _ rfl (put5_row HR.out _ _ _ _ _) Tryd.underlying30 rfl (by rw [hi5]; simp [hs5])) rfl ?_
    exact ⟨by rw [HV.out]; rfl, put5_below HB.out (Nat.le_refl _) _ _ _ _ _⟩
set_option maxRecDepth 8000 in
set_option maxHeartbeats 2000000 in
theorem readNum_dec (s : ByteArray) (w : World) (hs : s.size ≤ 1000000) (hE : RngAt w) (c : UInt8) (r : Bs) (hl : s.data.toList = c :: r) (hH : isH (c :: r) = false) (h48 : ¬ c = 48) (hc : dg c = true) :
    Calls Tryd.prog 36 #[.string s] w fun e w' => e = .returned (tkV (nmT (c :: r))) ∧ Below w.heap.size w w' := by
  obtain ⟨i5, hi5, hz5, hs5, hb5⟩ := info_parts infoT
  have HH := Lib.hid fun w => isHex_any s w (by omega)
  rw [hl] at HH
  have HIX := Lib.hid (index_run s)
  rw [hl] at HIX
  have hsz : s.size = (c :: r).length := by rw [← hl, size_list]
  have hemp := notEmpty hl
  have i0 : ∀ w, (Instr.index 9 (.string s) (.int .i64 0)).run Tryd.prog w = .ok (.int .u8 (c.toNat : Nat)) w := fun w => HIX.out 0 c w rfl
  have HEx := Lib.hid fun a b => ext_list s a b
  rw [hl] at HEx
  have HEz := Lib.hid fun a b h => ext_size s a b h
  have HZ := Lib.hid (fun w' (h : Below (w.alloc (row5 0 ⟨#[]⟩ 0 0 false)).heap.size (w.alloc (row5 0 ⟨#[]⟩ 0 0 false)) w') => row_kept h)
  have HEr := Lib.hid (hE.below (below_alloc w (row5 0 ⟨#[]⟩ 0 0 false)))
  clear hE
  rw [hH] at HH
  have b48 : ((c.toNat : Int) == 48) = false := ne_i (fun h => h48 (UInt8.toNat_inj.1 (by have : (48 : UInt8).toNat = 48 := rfl; omega)))
  obtain ⟨k, hk0⟩ : ∃ k, k = run dg (c :: r) := ⟨_, rfl⟩
  have hnp : nparts (c :: r) = ((c :: r).take k, 10, k) := by
    unfold nparts
    rw [if_neg (by rw [hH]; decide), if_neg (by simpa using h48), hk0]
  have hkl : k ≤ (c :: r).length := by rw [hk0]; exact run_le _ _
  have HS := Lib.hid fun w => sizeOf_dg s w (by omega)
  rw [hl, ← hk0] at HS
  have hkpos : 0 < k := by
    rw [hk0, run_go hc]
    omega
  obtain ⟨D, hD⟩ : ∃ D, D = (c :: r).take k := ⟨_, rfl⟩
  rw [← hD] at hnp
  obtain ⟨T, hTe⟩ : ∃ T, T = s.extract 0 k := ⟨_, rfl⟩
  have hT : T.data.toList = D := by rw [hTe, HEx.out, hD, List.drop_zero, Nat.sub_zero]
  have hd : digs 10 T.data.toList := .inl ⟨rfl, by rw [hT, hD, hk0]; exact all_take _⟩
  have hTs : T.size = k := by rw [hTe, HEz.out _ _ (by omega)]; omega
  have hne : 0 < T.size := by omega
  have hTz : T.size ≤ 1000000 := by omega
  have hks : k ≤ s.size := by omega
  have hki : (k : Int) ≤ (s.size : Int) := by omega
  have hkj : 0 ≤ (k : Int) := by omega
  clear hkpos hkl hH hk0 hD hTs h48
  subst hTe
  have hval := num_at hnp
  by_cases hv64 : val 10 0 (s.extract 0 k).data.toList < 18446744073709551616
  · have HP := Lib.hid (uint_okB (s.extract 0 k) 10 10 rfl hd hne hTz hv64)
    rw [hT] at HP hv64
    obtain ⟨V, hV⟩ : ∃ V, val 10 0 D = V := ⟨_, rfl⟩
    rw [hV] at HP hval hv64
    by_cases hM : 9007199254740991 < V
    · rw [if_pos hM] at hval
      have HV := Lib.hid (nmT_none hval)
      have hM' : 9007199254740991 < (V : Int) := by omega
      clear hval hnp hd hne hTz hT hV hv64 hl hM
      clear hsz
      unfold row5 at *
      go_enter Tryd.func36, Tryd.ntmps36
      go_wp2_with (first | (go_at_call 54; refine (HH.out _).mono ?_; rintro e w' ⟨rfl, rfl⟩) | (go_at_call 20; refine (HS.out _).mono ?_; rintro e w' ⟨rfl, rfl⟩))
      refine (HP.out _).mono ?_
      rintro e w1 ⟨rfl, hb1⟩
      obtain ⟨hz1, hz2⟩ := HZ.out _ hb1
      obtain ⟨c0, c1, c2, c3, c4, cf⟩ := row5_cells hz1
      have f0 := cf 0
      have f1 := cf 1
      have f2 := cf 2
      have f3 := cf 3
      have f4 := cf 4
      have HR := Lib.hid hz1
      have HB := Lib.hid hz2
      clear hz1 hz2 cf hb1
      go_wp2_with fail
      rw [put5_eq]
      refine bodyPost_ret (res_ct rfl _ _ w.heap.size 30 _ (0, 0) _ rfl (put5_row HR.out _ _ _ _ _) Tryd.underlying30 rfl (by rw [hi5]; simp [hs5])) rfl ?_
      exact ⟨by rw [HV.out]; rfl, put5_below HB.out (Nat.le_refl _) _ _ _ _ _⟩
    · rw [if_neg hM] at hval
      have hM' : (V : Int) ≤ 9007199254740991 := by omega
      clear hnp hd hne hTz hT hV hv64 hl hM
      by_cases hk : k < s.size
      · obtain ⟨x, rr, hxr⟩ := drop_cons (l := c :: r) (k := k) (by rw [← hsz]; exact hk)
        have hgx : (c :: r)[k]? = some x := by
          have : ((c :: r).drop (k))[0]? = some x := by rw [hxr]; rfl
          rw [List.getElem?_drop] at this
          exact this
        have ix : ∀ w, (Instr.index 9 (.string s) (.int .i64 ((k : Int)))).run Tryd.prog w = .ok (.int .u8 (x.toNat : Nat)) w := fun w => HIX.out (k) x w hgx
        have HI := Lib.hid (isIdentByte_any x)
        have hfr : free ((c :: r).drop (k)) = !(ib x || decide (x = 46)) := by rw [hxr]; rfl
        rw [hfr] at hval
        clear hxr hgx hfr
        cases hib : ib x with
        | true =>
          rw [hib] at hval HI
          have HV := Lib.hid (nmT_none hval)
          clear hval hib
          clear hsz
          unfold row5 at *
          go_enter Tryd.func36, Tryd.ntmps36
          go_wp2_with (first | (go_at_call 54; refine (HH.out _).mono ?_; rintro e w' ⟨rfl, rfl⟩) | (go_at_call 20; refine (HS.out _).mono ?_; rintro e w' ⟨rfl, rfl⟩))
          refine (HP.out _).mono ?_
          rintro e w1 ⟨rfl, hb1⟩
          obtain ⟨hz1, hz2⟩ := HZ.out _ hb1
          obtain ⟨c0, c1, c2, c3, c4, cf⟩ := row5_cells hz1
          have f0 := cf 0
          have f1 := cf 1
          have f2 := cf 2
          have f3 := cf 3
          have f4 := cf 4
          have HR := Lib.hid hz1
          have HB := Lib.hid hz2
          clear hz1 hz2 cf hb1
          go_wp2_with (go_at_call 21; refine (HI.out _).mono ?_; rintro e w' ⟨rfl, rfl⟩)
          rw [put5_eq]
          refine bodyPost_ret (res_ct rfl _ _ w.heap.size 30 _ (0, 0) _ rfl (put5_row HR.out _ _ _ _ _) Tryd.underlying30 rfl (by rw [hi5]; simp [hs5])) rfl ?_
          exact ⟨by rw [HV.out]; rfl, put5_below HB.out (Nat.le_refl _) _ _ _ _ _⟩
        | false =>
          rw [hib] at hval HI
          by_cases h46 : x = 46
          · subst h46
            have HV := Lib.hid (nmT_none hval)
            have ix' : ∀ w, (Instr.index 9 (.string s) (.int .i64 ((k : Int)))).run Tryd.prog w = .ok (.int .u8 46) w := ix
            have HI' : Hid (∀ w, Calls Tryd.prog 21 #[.int .u8 46] w fun e w' => e = .returned (.bool false) ∧ w = w') := Lib.hid HI.out
            clear hval hib ix HI
            clear hsz
            unfold row5 at *
            go_enter Tryd.func36, Tryd.ntmps36
            go_wp2_with (first | (go_at_call 54; refine (HH.out _).mono ?_; rintro e w' ⟨rfl, rfl⟩) | (go_at_call 20; refine (HS.out _).mono ?_; rintro e w' ⟨rfl, rfl⟩))
            refine (HP.out _).mono ?_
            rintro e w1 ⟨rfl, hb1⟩
            obtain ⟨hz1, hz2⟩ := HZ.out _ hb1
            obtain ⟨c0, c1, c2, c3, c4, cf⟩ := row5_cells hz1
            have f0 := cf 0
            have f1 := cf 1
            have f2 := cf 2
            have f3 := cf 3
            have f4 := cf 4
            have HR := Lib.hid hz1
            have HB := Lib.hid hz2
            clear hz1 hz2 cf hb1
            go_wp2_with (go_at_call 21; refine (HI'.out _).mono ?_; rintro e w' ⟨rfl, rfl⟩)
            rw [put5_eq]
            refine bodyPost_ret (res_ct rfl _ _ w.heap.size 30 _ (0, 0) _ rfl (put5_row HR.out _ _ _ _ _) Tryd.underlying30 rfl (by rw [hi5]; simp [hs5])) rfl ?_
            exact ⟨by rw [HV.out]; rfl, put5_below HB.out (Nat.le_refl _) _ _ _ _ _⟩
          · rw [decide_eq_false h46] at hval
            have HV := Lib.hid (nmT_some hval)
            have b46 : ((x.toNat : Int) == 46) = false := ne_i (fun h => h46 (UInt8.toNat_inj.1 (by have : (46 : UInt8).toNat = 46 := rfl; omega)))
            clear hval hib h46
            clear hsz
            unfold row5 at *
            go_enter Tryd.func36, Tryd.ntmps36
            go_wp2_with (first | (go_at_call 54; refine (HH.out _).mono ?_; rintro e w' ⟨rfl, rfl⟩) | (go_at_call 20; refine (HS.out _).mono ?_; rintro e w' ⟨rfl, rfl⟩))
            refine (HP.out _).mono ?_
            rintro e w1 ⟨rfl, hb1⟩
            obtain ⟨hz1, hz2⟩ := HZ.out _ hb1
            obtain ⟨c0, c1, c2, c3, c4, cf⟩ := row5_cells hz1
            have f0 := cf 0
            have f1 := cf 1
            have f2 := cf 2
            have f3 := cf 3
            have f4 := cf 4
            have HR := Lib.hid hz1
            have HB := Lib.hid hz2
            clear hz1 hz2 cf hb1
            go_wp2_with (go_at_call 21; refine (HI.out _).mono ?_; rintro e w' ⟨rfl, rfl⟩)
            rw [put5_eq]
            refine bodyPost_ret (res_ct rfl _ _ w.heap.size 30 _ (0, 0) _ rfl (put5_row HR.out _ _ _ _ _) Tryd.underlying30 rfl (by rw [hi5]; simp [hs5])) rfl ?_
            exact ⟨by rw [HV.out]; rfl, put5_below HB.out (Nat.le_refl _) _ _ _ _ _⟩
      · have hfr : free ((c :: r).drop (k)) = true := by rw [List.drop_of_length_le (by rw [← hsz]; omega)]; rfl
        rw [hfr] at hval
        have HV := Lib.hid (nmT_some hval)
        clear hval hfr
        clear hsz
        unfold row5 at *
        go_enter Tryd.func36, Tryd.ntmps36
        go_wp2_with (first | (go_at_call 54; refine (HH.out _).mono ?_; rintro e w' ⟨rfl, rfl⟩) | (go_at_call 20; refine (HS.out _).mono ?_; rintro e w' ⟨rfl, rfl⟩))
        refine (HP.out _).mono ?_
        rintro e w1 ⟨rfl, hb1⟩
        obtain ⟨hz1, hz2⟩ := HZ.out _ hb1
        obtain ⟨c0, c1, c2, c3, c4, cf⟩ := row5_cells hz1
        have f0 := cf 0
        have f1 := cf 1
        have f2 := cf 2
        have f3 := cf 3
        have f4 := cf 4
        have HR := Lib.hid hz1
        have HB := Lib.hid hz2
        clear hz1 hz2 cf hb1
        go_wp2_with fail
        rw [put5_eq]
        refine bodyPost_ret (res_ct rfl _ _ w.heap.size 30 _ (0, 0) _ rfl (put5_row HR.out _ _ _ _ _) Tryd.underlying30 rfl (by rw [hi5]; simp [hs5])) rfl ?_
        exact ⟨by rw [HV.out]; rfl, put5_below HB.out (Nat.le_refl _) _ _ _ _ _⟩
  · have HP := Lib.hid (uint_noB (s.extract 0 k) 10 10 rfl hd hne hTz hv64 _ HEr.out)
    rw [hT] at hv64
    rw [if_pos (by omega)] at hval
    have HV := Lib.hid (nmT_none hval)
    clear hval hnp hd hne hTz hT hv64 hl
    clear hsz
    unfold row5 at *
    go_enter Tryd.func36, Tryd.ntmps36
    go_wp2_with (first | (go_at_call 54; refine (HH.out _).mono ?_; rintro e w' ⟨rfl, rfl⟩) | (go_at_call 20; refine (HS.out _).mono ?_; rintro e w' ⟨rfl, rfl⟩))
    refine HP.out.mono ?_
    rintro e w1 ⟨N, rfl, hb1⟩
    obtain ⟨hz1, hz2⟩ := HZ.out _ hb1
    obtain ⟨c0, c1, c2, c3, c4, cf⟩ := row5_cells hz1
    have f0 := cf 0
    have f1 := cf 1
    have f2 := cf 2
    have f3 := cf 3
    have f4 := cf 4
    have HR := Lib.hid hz1
    have HB := Lib.hid hz2
    clear hz1 hz2 cf hb1
    go_wp2_with fail
    rw [put5_eq]
    refine bodyPost_ret (res_ct rfl _ _ w.heap.size 30 _ (0, 0) _ rfl (put5_row HR.out _ _ _ _ _) Tryd.underlying30 rfl (by rw [hi5]; simp [hs5])) rfl ?_
    exact ⟨by rw [HV.out]; rfl, put5_below HB.out (Nat.le_refl _) _ _ _ _ _⟩
set_option maxRecDepth 8000 in
set_option maxHeartbeats 2000000 in
theorem readNum_zero (s : ByteArray) (w : World) (hs : s.size ≤ 1000000) (hE : RngAt w) (c : UInt8) (r : Bs) (hl : s.data.toList = c :: r) (hH : isH (c :: r) = false) (h48 : c = 48) :
    Calls Tryd.prog 36 #[.string s] w fun e w' => e = .returned (tkV (nmT (c :: r))) ∧ Below w.heap.size w w' := by
  obtain ⟨i5, hi5, hz5, hs5, hb5⟩ := info_parts infoT
  have HH := Lib.hid fun w => isHex_any s w (by omega)
  rw [hl] at HH
  have HIX := Lib.hid (index_run s)
  rw [hl] at HIX
  have hsz : s.size = (c :: r).length := by rw [← hl, size_list]
  have hemp := notEmpty hl
  have i0 : ∀ w, (Instr.index 9 (.string s) (.int .i64 0)).run Tryd.prog w = .ok (.int .u8 (c.toNat : Nat)) w := fun w => HIX.out 0 c w rfl
  have HEx := Lib.hid fun a b => ext_list s a b
  rw [hl] at HEx
  have HEz := Lib.hid fun a b h => ext_size s a b h
  have HZ := Lib.hid (fun w' (h : Below (w.alloc (row5 0 ⟨#[]⟩ 0 0 false)).heap.size (w.alloc (row5 0 ⟨#[]⟩ 0 0 false)) w') => row_kept h)
  have HEr := Lib.hid (hE.below (below_alloc w (row5 0 ⟨#[]⟩ 0 0 false)))
  clear hE
  rw [hH] at HH
  have i0' : ∀ w, (Instr.index 9 (.string s) (.int .i64 0)).run Tryd.prog w = .ok (.int .u8 48) w := fun w => by rw [i0 w, h48]; rfl
  have hnp : nparts (c :: r) = ([48], 10, 1) := by
    unfold nparts
    rw [if_neg (by rw [hH]; decide), if_pos (by rw [h48]; rfl)]
  obtain ⟨D, hD⟩ : ∃ D, D = ([48] : Bs) := ⟨_, rfl⟩
  rw [← hD] at hnp
  have h1s : 1 ≤ s.size := by rw [hsz]; simp
  have h1i : 1 ≤ (s.size : Int) := by omega
  obtain ⟨T, hTe⟩ : ∃ T, T = s.extract 0 1 := ⟨_, rfl⟩
  have hT : T.data.toList = D := by rw [hTe, HEx.out, hD, List.drop_zero, h48]; rfl
  have hd : digs 10 T.data.toList := .inl ⟨rfl, by rw [hT, hD]; decide⟩
  have hTs : T.size = 1 := by rw [hTe, HEz.out _ _ h1s]
  have hne : 0 < T.size := by omega
  have hTz : T.size ≤ 1000000 := by omega
  clear hH hD hTs h48 i0
  subst hTe
  have hval := num_at hnp
  by_cases hv64 : val 10 0 (s.extract 0 1).data.toList < 18446744073709551616
  · have HP := Lib.hid (uint_okB (s.extract 0 1) 10 10 rfl hd hne hTz hv64)
    rw [hT] at HP hv64
    obtain ⟨V, hV⟩ : ∃ V, val 10 0 D = V := ⟨_, rfl⟩
    rw [hV] at HP hval hv64
    by_cases hM : 9007199254740991 < V
    · rw [if_pos hM] at hval
      have HV := Lib.hid (nmT_none hval)
      have hM' : 9007199254740991 < (V : Int) := by omega
      clear hval hnp hd hne hTz hT hV hv64 hl hM
      clear hsz
      unfold row5 at *
      go_enter Tryd.func36, Tryd.ntmps36
      go_wp2_with (first | (go_at_call 54; refine (HH.out _).mono ?_; rintro e w' ⟨rfl, rfl⟩))
      refine (HP.out _).mono ?_
      rintro e w1 ⟨rfl, hb1⟩
      obtain ⟨hz1, hz2⟩ := HZ.out _ hb1
      obtain ⟨c0, c1, c2, c3, c4, cf⟩ := row5_cells hz1
      have f0 := cf 0
      have f1 := cf 1
      have f2 := cf 2
      have f3 := cf 3
      have f4 := cf 4
      have HR := Lib.hid hz1
      have HB := Lib.hid hz2
      clear hz1 hz2 cf hb1
      go_wp2_with fail
      rw [put5_eq]
      refine bodyPost_ret (res_ct rfl _ _ w.heap.size 30 _ (0, 0) _ rfl (put5_row HR.out _ _ _ _ _) Tryd.underlying30 rfl (by rw [hi5]; simp [hs5])) rfl ?_
      exact ⟨by rw [HV.out]; rfl, put5_below HB.out (Nat.le_refl _) _ _ _ _ _⟩
    · rw [if_neg hM] at hval
      have hM' : (V : Int) ≤ 9007199254740991 := by omega
      clear hnp hd hne hTz hT hV hv64 hl hM
      by_cases hk : 1 < s.size
      · obtain ⟨x, rr, hxr⟩ := drop_cons (l := c :: r) (k := 1) (by rw [← hsz]; exact hk)
        have hgx : (c :: r)[1]? = some x := by
          have : ((c :: r).drop (1))[0]? = some x := by rw [hxr]; rfl
          rw [List.getElem?_drop] at this
          exact this
        have ix : ∀ w, (Instr.index 9 (.string s) (.int .i64 (1))).run Tryd.prog w = .ok (.int .u8 (x.toNat : Nat)) w := fun w => HIX.out (1) x w hgx
        have HI := Lib.hid (isIdentByte_any x)
        have hfr : free ((c :: r).drop (1)) = !(ib x || decide (x = 46)) := by rw [hxr]; rfl
        rw [hfr] at hval
        clear hxr hgx hfr
        cases hib : ib x with
        | true =>
          rw [hib] at hval HI
          have HV := Lib.hid (nmT_none hval)
          clear hval hib
          clear hsz
          unfold row5 at *
          go_enter Tryd.func36, Tryd.ntmps36
          go_wp2_with (first | (go_at_call 54; refine (HH.out _).mono ?_; rintro e w' ⟨rfl, rfl⟩))
          refine (HP.out _).mono ?_
          rintro e w1 ⟨rfl, hb1⟩
          obtain ⟨hz1, hz2⟩ := HZ.out _ hb1
          obtain ⟨c0, c1, c2, c3, c4, cf⟩ := row5_cells hz1
          have f0 := cf 0
          have f1 := cf 1
          have f2 := cf 2
          have f3 := cf 3
          have f4 := cf 4
          have HR := Lib.hid hz1
          have HB := Lib.hid hz2
          clear hz1 hz2 cf hb1
          go_wp2_with (go_at_call 21; refine (HI.out _).mono ?_; rintro e w' ⟨rfl, rfl⟩)
          rw [put5_eq]
          refine bodyPost_ret (res_ct rfl _ _ w.heap.size 30 _ (0, 0) _ rfl (put5_row HR.out _ _ _ _ _) Tryd.underlying30 rfl (by rw [hi5]; simp [hs5])) rfl ?_
          exact ⟨by rw [HV.out]; rfl, put5_below HB.out (Nat.le_refl _) _ _ _ _ _⟩
        | false =>
          rw [hib] at hval HI
          by_cases h46 : x = 46
          · subst h46
            have HV := Lib.hid (nmT_none hval)
            have ix' : ∀ w, (Instr.index 9 (.string s) (.int .i64 (1))).run Tryd.prog w = .ok (.int .u8 46) w := ix
            have HI' : Hid (∀ w, Calls Tryd.prog 21 #[.int .u8 46] w fun e w' => e = .returned (.bool false) ∧ w = w') := Lib.hid HI.out
            clear hval hib ix HI
            clear hsz
            unfold row5 at *
            go_enter Tryd.func36, Tryd.ntmps36
            go_wp2_with (first | (go_at_call 54; refine (HH.out _).mono ?_; rintro e w' ⟨rfl, rfl⟩))
            refine (HP.out _).mono ?_
            rintro e w1 ⟨rfl, hb1⟩
            obtain ⟨hz1, hz2⟩ := HZ.out _ hb1
            obtain ⟨c0, c1, c2, c3, c4, cf⟩ := row5_cells hz1
            have f0 := cf 0
            have f1 := cf 1
            have f2 := cf 2
            have f3 := cf 3
            have f4 := cf 4
            have HR := Lib.hid hz1
            have HB := Lib.hid hz2
            clear hz1 hz2 cf hb1
            go_wp2_with (go_at_call 21; refine (HI'.out _).mono ?_; rintro e w' ⟨rfl, rfl⟩)
            rw [put5_eq]
            refine bodyPost_ret (res_ct rfl _ _ w.heap.size 30 _ (0, 0) _ rfl (put5_row HR.out _ _ _ _ _) Tryd.underlying30 rfl (by rw [hi5]; simp [hs5])) rfl ?_
            exact ⟨by rw [HV.out]; rfl, put5_below HB.out (Nat.le_refl _) _ _ _ _ _⟩
          · rw [decide_eq_false h46] at hval
            have HV := Lib.hid (nmT_some hval)
            have b46 : ((x.toNat : Int) == 46) = false := ne_i (fun h => h46 (UInt8.toNat_inj.1 (by have : (46 : UInt8).toNat = 46 := rfl; omega)))
            clear hval hib h46
            clear hsz
            unfold row5 at *
            go_enter Tryd.func36, Tryd.ntmps36
            go_wp2_with (first | (go_at_call 54; refine (HH.out _).mono ?_; rintro e w' ⟨rfl, rfl⟩))
            refine (HP.out _).mono ?_
            rintro e w1 ⟨rfl, hb1⟩
            obtain ⟨hz1, hz2⟩ := HZ.out _ hb1
            obtain ⟨c0, c1, c2, c3, c4, cf⟩ := row5_cells hz1
            have f0 := cf 0
            have f1 := cf 1
            have f2 := cf 2
            have f3 := cf 3
            have f4 := cf 4
            have HR := Lib.hid hz1
            have HB := Lib.hid hz2
            clear hz1 hz2 cf hb1
            go_wp2_with (go_at_call 21; refine (HI.out _).mono ?_; rintro e w' ⟨rfl, rfl⟩)
            rw [put5_eq]
            refine bodyPost_ret (res_ct rfl _ _ w.heap.size 30 _ (0, 0) _ rfl (put5_row HR.out _ _ _ _ _) Tryd.underlying30 rfl (by rw [hi5]; simp [hs5])) rfl ?_
            exact ⟨by rw [HV.out]; rfl, put5_below HB.out (Nat.le_refl _) _ _ _ _ _⟩
      · have hfr : free ((c :: r).drop (1)) = true := by rw [List.drop_of_length_le (by rw [← hsz]; omega)]; rfl
        rw [hfr] at hval
        have HV := Lib.hid (nmT_some hval)
        clear hval hfr
        clear hsz
        unfold row5 at *
        go_enter Tryd.func36, Tryd.ntmps36
        go_wp2_with (first | (go_at_call 54; refine (HH.out _).mono ?_; rintro e w' ⟨rfl, rfl⟩))
        refine (HP.out _).mono ?_
        rintro e w1 ⟨rfl, hb1⟩
        obtain ⟨hz1, hz2⟩ := HZ.out _ hb1
        obtain ⟨c0, c1, c2, c3, c4, cf⟩ := row5_cells hz1
        have f0 := cf 0
        have f1 := cf 1
        have f2 := cf 2
        have f3 := cf 3
        have f4 := cf 4
        have HR := Lib.hid hz1
        have HB := Lib.hid hz2
        clear hz1 hz2 cf hb1
        go_wp2_with fail
        rw [put5_eq]
        refine bodyPost_ret (res_ct rfl _ _ w.heap.size 30 _ (0, 0) _ rfl (put5_row HR.out _ _ _ _ _) Tryd.underlying30 rfl (by rw [hi5]; simp [hs5])) rfl ?_
        exact ⟨by rw [HV.out]; rfl, put5_below HB.out (Nat.le_refl _) _ _ _ _ _⟩
  · have HP := Lib.hid (uint_noB (s.extract 0 1) 10 10 rfl hd hne hTz hv64 _ HEr.out)
    rw [hT] at hv64
    rw [if_pos (by omega)] at hval
    have HV := Lib.hid (nmT_none hval)
    clear hval hnp hd hne hTz hT hv64 hl
    clear hsz
    unfold row5 at *
    go_enter Tryd.func36, Tryd.ntmps36
    go_wp2_with (first | (go_at_call 54; refine (HH.out _).mono ?_; rintro e w' ⟨rfl, rfl⟩))
    refine HP.out.mono ?_
    rintro e w1 ⟨N, rfl, hb1⟩
    obtain ⟨hz1, hz2⟩ := HZ.out _ hb1
    obtain ⟨c0, c1, c2, c3, c4, cf⟩ := row5_cells hz1
    have f0 := cf 0
    have f1 := cf 1
    have f2 := cf 2
    have f3 := cf 3
    have f4 := cf 4
    have HR := Lib.hid hz1
    have HB := Lib.hid hz2
    clear hz1 hz2 cf hb1
    go_wp2_with fail
    rw [put5_eq]
    refine bodyPost_ret (res_ct rfl _ _ w.heap.size 30 _ (0, 0) _ rfl (put5_row HR.out _ _ _ _ _) Tryd.underlying30 rfl (by rw [hi5]; simp [hs5])) rfl ?_
    exact ⟨by rw [HV.out]; rfl, put5_below HB.out (Nat.le_refl _) _ _ _ _ _⟩
theorem readNum_any (s : ByteArray) (w : World) (hs : s.size ≤ 1000000) (hE : RngAt w) (c : UInt8) (r : Bs) (hl : s.data.toList = c :: r) (hc : dg c = true) :
    Calls Tryd.prog 36 #[.string s] w fun e w' => e = .returned (tkV (nmT (c :: r))) ∧ Below w.heap.size w w' := by
  cases hH : isH (c :: r) with
  | true => exact readNum_hex s w hs hE c r hl hH
  | false =>
    by_cases h48 : c = 48
    · exact readNum_zero s w hs hE c r hl hH h48
    · exact readNum_dec s w hs hE c r hl hH h48 hc
end Go.Proofs.YtkaamaopjcaalaaDoor.T
