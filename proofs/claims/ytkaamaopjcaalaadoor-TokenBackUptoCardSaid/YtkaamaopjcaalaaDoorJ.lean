/-
  The reference's number, by contract. (written by gen2.py)
-/
import Derived.Test.YtkaamaopjcaalaaDoorH
import Derived.Test.YtkaamaopjcaalaaDoorI
namespace Go.Proofs.YtkaamaopjcaalaaDoor.T
open Go.RowKit Go.Proofs.YtkaamaopjcaalaaDoor

theorem vI_hx {x : UInt8} (h : hx x = true) : vI x = dv x ∧ dv x < 16 := by
  have := hx_cases h
  exact ⟨by unfold vI; rw [if_pos h], by omega⟩
theorem vI_nhx {x : UInt8} (h : hx x = false) : vI x < 0 ∨ 16 ≤ vI x := by
  left
  unfold vI
  rw [if_neg (by rw [h]; decide)]
  decide
theorem dg_hx {x : UInt8} (h : dg x = true) : hx x = true := by
  unfold dg at h
  have h := of_decide_eq_true h
  unfold hx
  exact decide_eq_true (.inl h)
theorem vI_dg {x : UInt8} (h : dg x = true) : vI x = dv x ∧ dv x < 10 := by
  have := dv_dg h
  exact ⟨(vI_hx (dg_hx h)).1, by omega⟩
theorem vI_ndg {x : UInt8} (h : dg x = false) : vI x < 0 ∨ 10 ≤ vI x := by
  cases hh : hx x with
  | false =>
    left
    unfold vI
    rw [if_neg (by rw [hh]; decide)]
    decide
  | true =>
    right
    have h1 := hx_cases hh
    have h2 := vI_hx hh
    unfold dg at h
    have h := of_decide_eq_false h
    rw [h2.1]
    omega
theorem val_snoc (b : Nat) (x : UInt8) : ∀ (l : Bs) (acc : Nat), val b acc (l ++ [x]) = val b acc l * b + dv x
  | [], _ => rfl
  | c :: r, acc => val_snoc b x r (acc * b + dv c)
theorem val_app (b : Nat) (m : Bs) : ∀ (l : Bs) (acc : Nat), val b acc (l ++ m) = val b (val b acc l) m
  | [], _ => rfl
  | c :: r, acc => val_app b m r (acc * b + dv c)
/-- what number answers -/
def nuV : Option (Nat × Nat) → Value
  | some (n, k) => .tuple #[.int .i64 (n : Nat), .int .i64 (k : Nat)]
  | none => .tuple #[.int .i64 0, .int .i64 0]
/-- a number's digits D from the place f on, read up to the place t -/
def Nm (b : Nat) (p : UInt8 → Bool) (D : Bs) (j acc : Nat) : Prop := j ≤ D.length ∧ acc = val b 0 (D.take j) ∧ ∀ x ∈ D.take j, p x = true
theorem Nm.step {b : Nat} {p : UInt8 → Bool} {D r : Bs} {j acc : Nat} {x : UInt8} (h : Nm b p D j acc) (hd : D.drop j = x :: r) (hp : p x = true) : Nm b p D (j + 1) (acc * b + dv x) := by
  obtain ⟨h1, h2, h3⟩ := h
  have hl : j < D.length := by
    rcases Nat.lt_or_ge j D.length with h | h
    · exact h
    · rw [List.drop_of_length_le h] at hd; cases hd
  have e : D[j] = x := by
    rw [List.drop_eq_getElem_cons hl] at hd
    injection hd
  have e2 : D.take (j + 1) = D.take j ++ [x] := by rw [List.take_succ_eq_append_getElem hl, e]
  refine ⟨hl, ?_, ?_⟩
  · rw [e2, val_snoc, h2]
  · intro y hy
    rw [e2, List.mem_append, List.mem_singleton] at hy
    rcases hy with hy | rfl
    · exact h3 y hy
    · exact hp
theorem Nm.big {b : Nat} {p : UInt8 → Bool} {D : Bs} {j acc : Nat} (h : Nm b p D j acc) (hb : 1 ≤ b) : acc ≤ val b 0 (D.take (run p D)) := by
  obtain ⟨h1, h2, h3⟩ := h
  have hr := run_ge h1 h3
  have e : D.take (run p D) = D.take j ++ (D.take (run p D)).drop j := by
    have := List.take_append_drop j (D.take (run p D))
    rw [List.take_take, Nat.min_eq_left hr.1] at this
    exact this.symm
  rw [e, val_app, ← h2]
  exact val_ge b hb _ _
theorem Nm.stop {b : Nat} {p : UInt8 → Bool} {D r : Bs} {j acc : Nat} {x : UInt8} (h : Nm b p D j acc) (hd : D.drop j = x :: r) (hp : p x = false) : run p D = j ∧ acc = val b 0 (D.take (run p D)) := by
  obtain ⟨h1, h2, h3⟩ := h
  have hl : j < D.length := by
    rcases Nat.lt_or_ge j D.length with h | h
    · exact h
    · rw [List.drop_of_length_le h] at hd; cases hd
  have e : D[j] = x := by
    rw [List.drop_eq_getElem_cons hl] at hd
    injection hd
  have := run_eq hl h3 (by rw [e]; exact hp)
  exact ⟨this, by rw [this]; exact h2⟩
theorem Nm.full {b : Nat} {p : UInt8 → Bool} {D : Bs} {j acc : Nat} (h : Nm b p D j acc) (hd : D.length ≤ j) : run p D = j ∧ acc = val b 0 (D.take (run p D)) := by
  obtain ⟨h1, h2, h3⟩ := h
  have e : j = D.length := by omega
  have : run p D = j := by
    rw [e]
    exact run_full fun x hx => h3 x (by rw [e, List.take_length]; exact hx)
  exact ⟨this, by rw [this]; exact h2⟩
theorem num_of {l D : Bs} {b k : Nat} (h : nparts l = (D, b, k)) : num l = if 9007199254740991 < val b 0 D then none else if free (l.drop k) then some (val b 0 D, k) else none := by
  unfold num
  rw [h]
theorem num_over {l D : Bs} {b k : Nat} (h : nparts l = (D, b, k)) (hv : 9007199254740991 < val b 0 D) : num l = none := by
  rw [num_of h, if_pos hv]
theorem num_in {l D : Bs} {b k acc : Nat} (h : nparts l = (D, b, k)) (e : acc = val b 0 D) (hv : acc ≤ 9007199254740991) : num l = if free (l.drop k) then some (acc, k) else none := by
  rw [num_of h, if_neg (by omega), ← e]
theorem nuV_some {l : Bs} {acc a t k : Nat} (h : num l = some (acc, k)) (e : t = a + k) : nuV (num l) = .tuple #[.int .i64 (acc : Nat), .int .i64 ((t : Int) - (a : Int))] := by
  have e2 : (t : Int) - (a : Int) = (k : Nat) := by omega
  rw [h, e2]
  rfl
theorem nuV_none {l : Bs} (h : num l = none) : nuV (num l) = .tuple #[.int .i64 0, .int .i64 0] := by rw [h]; rfl
set_option maxRecDepth 8000 in
set_option maxHeartbeats 2000000 in
theorem refNumber_hex (s : ByteArray) (a : Nat) (w : World) (hs : s.size ≤ 1000000) (l : Bs) (c : UInt8) (r : Bs) (hl : s.data.toList.drop a = l) (hcr : l = c :: r) (hH : isH l = true) :
    Calls Tryd.prog 41 #[.string s, .int .i64 (a : Nat)] w fun e w' => e = .returned (nuV (num l)) ∧ w = w' := by
  have HEm := Lib.hid (size_list s)
  have HIX := Lib.hid (index_run s)
  have hlen : r.length + 1 = s.size - a := by rw [← size_list, ← List.length_drop, hl, hcr]; rfl
  have ha : a < s.size := by omega
  have HBG := Lib.hid fun (g : ByteArray) (hg : g.size ≤ 16) w => begins_any s a g w (by omega) (by omega) hg
  have e1 : (ByteArray.mk #[48, 120]).data.toList.isPrefixOf (s.data.toList.drop a) = decide (c = 48 ∧ r.head? = some 120) := by rw [hl, hcr]; exact prefix_two c 48 120 r
  have e2 : (ByteArray.mk #[48, 88]).data.toList.isPrefixOf (s.data.toList.drop a) = decide (c = 48 ∧ r.head? = some 88) := by rw [hl, hcr]; exact prefix_two c 48 88 r
  have HB1 := Lib.hid fun w => HBG.out ⟨#[48, 120]⟩ (by decide) w
  have HB2 := Lib.hid fun w => HBG.out ⟨#[48, 88]⟩ (by decide) w
  rw [e1] at HB1
  rw [e2] at HB2
  have HVal := Lib.hid refValue_any
  have HG : Hid (∀ t x rr, s.data.toList.drop t = x :: rr → s.data.toList[t]? = some x) := Lib.hid fun t x rr h => by
    have : (s.data.toList.drop t)[0]? = some x := by rw [h]; rfl
    rw [List.getElem?_drop] at this
    exact this
  have i0 := fun w => HIX.out a c w (HG.out _ _ _ (hl.trans hcr))
  have HL0 := Lib.hid hl
  have HLen := Lib.hid hlen
  clear e1 e2 HBG hl hlen
  generalize s.data.toList = L at *
  · obtain ⟨x, d, q, hr⟩ : ∃ x d q, r = x :: d :: q := by
      rw [hcr] at hH
      match r, hH with
      | x :: d :: q, _ => exact ⟨x, d, q, rfl⟩
    have hh : c = 48 ∧ (x = 120 ∨ x = 88) ∧ hx d = true := by
      rw [hcr, hr] at hH
      unfold isH at hH
      simp only [Bool.and_eq_true, decide_eq_true_eq] at hH
      exact hH
    obtain ⟨hc48, hx2, hxd⟩ := hh
    rw [hr, hc48] at hcr
    rw [hc48, hr] at HB1 HB2
    obtain ⟨D, hD⟩ : ∃ D, D = d :: q := ⟨_, rfl⟩
    have HNp : Hid (nparts l = (D.take (run hx D), 16, 2 + run hx D)) := Lib.hid (by
      unfold nparts
      rw [if_pos hH, hcr, hD]
      rfl)
    have hd2 : L.drop (a + 2) = D := by rw [← List.drop_drop, HL0.out, hcr, hD]; rfl
    have i2 : ∀ w, (Instr.index 9 (.string s) (.int .i64 ((a : Int) + 2))).run Tryd.prog w = .ok (.int .u8 (d.toNat : Nat)) w := fun w => HIX.out (a + 2) d w (HG.out _ _ _ (hd2.trans hD))
    have HVd := Lib.hid (HVal.out d)
    rw [(vI_hx hxd).1] at HVd
    have HDD : Hid (∀ j, D.drop j = L.drop (a + 2 + j)) := Lib.hid fun j => by rw [← List.drop_drop, hd2]
    have HDC : Hid (∀ j, l.drop (2 + j) = L.drop (a + 2 + j)) := Lib.hid fun j => by rw [← HDD.out j, Nat.add_comm, hcr, hD]; rfl
    have HDl : Hid (D.length + 2 = s.size - a) := Lib.hid (by have := HLen.out; rw [hr] at this; rw [hD]; simp only [List.length_cons] at *; omega)
    have HN0 : Hid (Nm 16 hx D 0 0) := Lib.hid ⟨Nat.zero_le _, rfl, by simp⟩
    have ha2 : a + 2 < s.size := by have := HDl.out; rw [hD] at this; simp only [List.length_cons] at this; omega
    have h1 : decide ((48 : UInt8) = 48 ∧ (x :: d :: q : Bs).head? = some 120) = decide (x = 120) := by simp
    have h2 : decide ((48 : UInt8) = 48 ∧ (x :: d :: q : Bs).head? = some 88) = decide (x = 88) := by simp
    rw [h1] at HB1
    rw [h2] at HB2
    clear hH hd2 hxd i0 hD hr h1 h2 HL0 hcr hc48
    generalize dv d = dd at *
    rcases hx2 with rfl | rfl
    · rw [decide_eq_true rfl] at HB1
      go_enter Tryd.func41, Tryd.ntmps41
      go_wp2_with fail
      refine (HB1.out _).mono ?_
      rintro e w' ⟨rfl, rfl⟩
      go_wp2_with fail
      refine (HVd.out _).mono ?_
      rintro e w' ⟨rfl, rfl⟩
      go_wp2_with fail
      go_loopw [8, 9] (fun vn vt wr => ∃ (t j acc : Nat), t ≤ s.size ∧ vn = .int .i64 acc ∧ vt = .int .i64 t ∧ acc ≤ 9007199254740991 ∧ Hid (t = a + 2 + j ∧ Nm 16 hx D j acc) ∧ w = wr)
        (fun _ vt _ => s.size - (intOf vt).toNat)
      case atStart => exact ⟨a + 2, 0, 0, by omega, rfl, by go_num, by omega, Lib.hid ⟨rfl, HN0.out⟩, rfl⟩
      case round =>
        obtain ⟨t, j, acc, hts, rfl, rfl, hM, hI, rfl⟩ := hrel
        by_cases hlt : t < s.size
        · have htj := hI.out.1
          have hdj : D.drop j = L.drop t := by rw [htj]; exact HDD.out j
          obtain ⟨x, rr, hxr⟩ := drop_cons (l := L) (k := t) (by rw [HEm.out]; exact hlt)
          rw [hxr] at hdj
          have ix := fun w => HIX.out t x w (HG.out _ _ _ hxr)
          have HVx := Lib.hid (HVal.out x)
          cases hpx : hx x with
          | true =>
            obtain ⟨v1, v2⟩ := vI_hx hpx
            have hst := hI.out.2.step hdj hpx
            rw [v1] at HVx
            have HSt := Lib.hid hst
            have HTj : Hid (t + 1 = a + 2 + (j + 1)) := Lib.hid (by omega)
            have HDj := Lib.hid hdj
            generalize dv x = d at *
            by_cases hov : acc * 16 + d ≤ 9007199254740991
            · clear hI hdj hxr hpx hst htj
              go_wp2_with (go_at_call 60; refine (HVx.out _).mono ?_; rintro e w' ⟨rfl, rfl⟩)
              go_roundw
              case rel => exact ⟨t + 1, j + 1, acc * 16 + d, by omega, by go_num, by go_num, hov, Lib.hid ⟨HTj.out, HSt.out⟩, by first | rfl | trivial⟩
              case measure => simp [intOf]; omega
            · have HV := Lib.hid (nuV_none (num_over HNp.out (Nat.lt_of_lt_of_le (by omega) (HSt.out.big (by decide)))))
              have hov' : 9007199254740991 < (acc : Int) * 16 + d := by omega
              clear hI hdj hxr hpx hst htj hov
              go_wp2_with (go_at_call 60; refine (HVx.out _).mono ?_; rintro e w' ⟨rfl, rfl⟩)
              go_ret2
              exact ⟨by rw [HV.out]; rfl, rfl⟩
          | false =>
            have hv := vI_nhx hpx
            obtain ⟨e1, e2⟩ := hI.out.2.stop hdj hpx
            have HN : Hid (num l = if free (L.drop t) then some (acc, 2 + j) else none) := Lib.hid (by
              rw [num_in HNp.out e2 hM, e1, htj]
              rw [show l.drop (2 + j) = L.drop (a + 2 + j) from HDC.out j])
            have HT : Hid (t = a + (2 + j)) := Lib.hid (by omega)
            have ixt := ix
            generalize vI x = m at *
            clear hI hdj hpx htj e1 e2
            rcases hv with hv | hv
            all_goals
              have HLt := Lib.hid (refLetter_any x)
              have HDt := Lib.hid (refDigit_any x)
              have hfr : free (L.drop (t)) = !((lt x || dg x) || decide (x = 46)) := by rw [hxr]; rfl
              rw [hfr] at HN
              clear hxr hfr
              cases hl1 : lt x with
              | true =>
                rw [hl1] at HLt HN
                have HV := Lib.hid (nuV_none HN.out)
                clear hl1 HN
                go_wp2_with (first | (go_at_call 60; refine (HVx.out _).mono ?_; rintro e w' ⟨rfl, rfl⟩) | (go_at_call 23; refine (HLt.out _).mono ?_; rintro e w' ⟨rfl, rfl⟩) | (go_at_call 22; refine (HDt.out _).mono ?_; rintro e w' ⟨rfl, rfl⟩))
                go_ret2
                exact ⟨by rw [HV.out]; first | rfl | (congr 5; omega), rfl⟩
              | false =>
                rw [hl1] at HLt HN
                cases hd1 : dg x with
                | true =>
                  rw [hd1] at HDt HN
                  have HV := Lib.hid (nuV_none HN.out)
                  clear hl1 HN hd1
                  go_wp2_with (first | (go_at_call 60; refine (HVx.out _).mono ?_; rintro e w' ⟨rfl, rfl⟩) | (go_at_call 23; refine (HLt.out _).mono ?_; rintro e w' ⟨rfl, rfl⟩) | (go_at_call 22; refine (HDt.out _).mono ?_; rintro e w' ⟨rfl, rfl⟩))
                  go_ret2
                  exact ⟨by rw [HV.out]; first | rfl | (congr 5; omega), rfl⟩
                | false =>
                  rw [hd1] at HDt HN
                  by_cases h46 : x = 46
                  · subst h46
                    have HV := Lib.hid (nuV_none HN.out)
                    have ixt' : ∀ w, (Instr.index 9 (.string s) (.int .i64 (t))).run Tryd.prog w = .ok (.int .u8 46) w := ixt
                    clear hl1 HN hd1 ixt
                    go_wp2_with (first | (go_at_call 60; refine (HVx.out _).mono ?_; rintro e w' ⟨rfl, rfl⟩) | (go_at_call 23; refine (HLt.out _).mono ?_; rintro e w' ⟨rfl, rfl⟩) | (go_at_call 22; refine (HDt.out _).mono ?_; rintro e w' ⟨rfl, rfl⟩))
                    go_ret2
                    exact ⟨by rw [HV.out]; first | rfl | (congr 5; omega), rfl⟩
                  · rw [decide_eq_false h46] at HN
                    have HV := Lib.hid (nuV_some HN.out HT.out)
                    have b46 : ((x.toNat : Int) == 46) = false := ne_i (fun h => h46 (UInt8.toNat_inj.1 (by have : (46 : UInt8).toNat = 46 := rfl; omega)))
                    clear hl1 HN hd1 h46
                    go_wp2_with (first | (go_at_call 60; refine (HVx.out _).mono ?_; rintro e w' ⟨rfl, rfl⟩) | (go_at_call 23; refine (HLt.out _).mono ?_; rintro e w' ⟨rfl, rfl⟩) | (go_at_call 22; refine (HDt.out _).mono ?_; rintro e w' ⟨rfl, rfl⟩))
                    go_ret2
                    exact ⟨by rw [HV.out]; first | rfl | (congr 5; omega), rfl⟩
        · obtain rfl : t = s.size := by omega
          have hdl : D.length ≤ j := by have := HDl.out; have := hI.out.1; omega
          obtain ⟨e1, e2⟩ := hI.out.2.full hdl
          have htj := hI.out.1
          have HN : Hid (num l = some (acc, 2 + j)) := Lib.hid (by
            rw [num_in HNp.out e2 hM, e1]
            rw [show l.drop (2 + j) = L.drop (a + 2 + j) from HDC.out j, ← htj, List.drop_of_length_le (by rw [HEm.out]; exact Nat.le_refl _)]
            rfl)
          have HV := Lib.hid (nuV_some (a := a) (t := s.size) HN.out (by omega))
          clear hI hdl e1 e2 htj HN
          go_wp2_with fail
          go_ret2
          exact ⟨by rw [HV.out]; rfl, rfl⟩
    · rw [decide_eq_false (by decide)] at HB1
      rw [decide_eq_true rfl] at HB2
      go_enter Tryd.func41, Tryd.ntmps41
      go_wp2_with fail
      refine (HB1.out _).mono ?_
      rintro e w' ⟨rfl, rfl⟩
      go_wp2_with fail
      refine (HB2.out _).mono ?_
      rintro e w' ⟨rfl, rfl⟩
      go_wp2_with fail
      refine (HVd.out _).mono ?_
      rintro e w' ⟨rfl, rfl⟩
      go_wp2_with fail
      go_loopw [8, 9] (fun vn vt wr => ∃ (t j acc : Nat), t ≤ s.size ∧ vn = .int .i64 acc ∧ vt = .int .i64 t ∧ acc ≤ 9007199254740991 ∧ Hid (t = a + 2 + j ∧ Nm 16 hx D j acc) ∧ w = wr)
        (fun _ vt _ => s.size - (intOf vt).toNat)
      case atStart => exact ⟨a + 2, 0, 0, by omega, rfl, by go_num, by omega, Lib.hid ⟨rfl, HN0.out⟩, rfl⟩
      case round =>
        obtain ⟨t, j, acc, hts, rfl, rfl, hM, hI, rfl⟩ := hrel
        by_cases hlt : t < s.size
        · have htj := hI.out.1
          have hdj : D.drop j = L.drop t := by rw [htj]; exact HDD.out j
          obtain ⟨x, rr, hxr⟩ := drop_cons (l := L) (k := t) (by rw [HEm.out]; exact hlt)
          rw [hxr] at hdj
          have ix := fun w => HIX.out t x w (HG.out _ _ _ hxr)
          have HVx := Lib.hid (HVal.out x)
          cases hpx : hx x with
          | true =>
            obtain ⟨v1, v2⟩ := vI_hx hpx
            have hst := hI.out.2.step hdj hpx
            rw [v1] at HVx
            have HSt := Lib.hid hst
            have HTj : Hid (t + 1 = a + 2 + (j + 1)) := Lib.hid (by omega)
            have HDj := Lib.hid hdj
            generalize dv x = d at *
            by_cases hov : acc * 16 + d ≤ 9007199254740991
            · clear hI hdj hxr hpx hst htj
              go_wp2_with (go_at_call 60; refine (HVx.out _).mono ?_; rintro e w' ⟨rfl, rfl⟩)
              go_roundw
              case rel => exact ⟨t + 1, j + 1, acc * 16 + d, by omega, by go_num, by go_num, hov, Lib.hid ⟨HTj.out, HSt.out⟩, by first | rfl | trivial⟩
              case measure => simp [intOf]; omega
            · have HV := Lib.hid (nuV_none (num_over HNp.out (Nat.lt_of_lt_of_le (by omega) (HSt.out.big (by decide)))))
              have hov' : 9007199254740991 < (acc : Int) * 16 + d := by omega
              clear hI hdj hxr hpx hst htj hov
              go_wp2_with (go_at_call 60; refine (HVx.out _).mono ?_; rintro e w' ⟨rfl, rfl⟩)
              go_ret2
              exact ⟨by rw [HV.out]; rfl, rfl⟩
          | false =>
            have hv := vI_nhx hpx
            obtain ⟨e1, e2⟩ := hI.out.2.stop hdj hpx
            have HN : Hid (num l = if free (L.drop t) then some (acc, 2 + j) else none) := Lib.hid (by
              rw [num_in HNp.out e2 hM, e1, htj]
              rw [show l.drop (2 + j) = L.drop (a + 2 + j) from HDC.out j])
            have HT : Hid (t = a + (2 + j)) := Lib.hid (by omega)
            have ixt := ix
            generalize vI x = m at *
            clear hI hdj hpx htj e1 e2
            rcases hv with hv | hv
            all_goals
              have HLt := Lib.hid (refLetter_any x)
              have HDt := Lib.hid (refDigit_any x)
              have hfr : free (L.drop (t)) = !((lt x || dg x) || decide (x = 46)) := by rw [hxr]; rfl
              rw [hfr] at HN
              clear hxr hfr
              cases hl1 : lt x with
              | true =>
                rw [hl1] at HLt HN
                have HV := Lib.hid (nuV_none HN.out)
                clear hl1 HN
                go_wp2_with (first | (go_at_call 60; refine (HVx.out _).mono ?_; rintro e w' ⟨rfl, rfl⟩) | (go_at_call 23; refine (HLt.out _).mono ?_; rintro e w' ⟨rfl, rfl⟩) | (go_at_call 22; refine (HDt.out _).mono ?_; rintro e w' ⟨rfl, rfl⟩))
                go_ret2
                exact ⟨by rw [HV.out]; first | rfl | (congr 5; omega), rfl⟩
              | false =>
                rw [hl1] at HLt HN
                cases hd1 : dg x with
                | true =>
                  rw [hd1] at HDt HN
                  have HV := Lib.hid (nuV_none HN.out)
                  clear hl1 HN hd1
                  go_wp2_with (first | (go_at_call 60; refine (HVx.out _).mono ?_; rintro e w' ⟨rfl, rfl⟩) | (go_at_call 23; refine (HLt.out _).mono ?_; rintro e w' ⟨rfl, rfl⟩) | (go_at_call 22; refine (HDt.out _).mono ?_; rintro e w' ⟨rfl, rfl⟩))
                  go_ret2
                  exact ⟨by rw [HV.out]; first | rfl | (congr 5; omega), rfl⟩
                | false =>
                  rw [hd1] at HDt HN
                  by_cases h46 : x = 46
                  · subst h46
                    have HV := Lib.hid (nuV_none HN.out)
                    have ixt' : ∀ w, (Instr.index 9 (.string s) (.int .i64 (t))).run Tryd.prog w = .ok (.int .u8 46) w := ixt
                    clear hl1 HN hd1 ixt
                    go_wp2_with (first | (go_at_call 60; refine (HVx.out _).mono ?_; rintro e w' ⟨rfl, rfl⟩) | (go_at_call 23; refine (HLt.out _).mono ?_; rintro e w' ⟨rfl, rfl⟩) | (go_at_call 22; refine (HDt.out _).mono ?_; rintro e w' ⟨rfl, rfl⟩))
                    go_ret2
                    exact ⟨by rw [HV.out]; first | rfl | (congr 5; omega), rfl⟩
                  · rw [decide_eq_false h46] at HN
                    have HV := Lib.hid (nuV_some HN.out HT.out)
                    have b46 : ((x.toNat : Int) == 46) = false := ne_i (fun h => h46 (UInt8.toNat_inj.1 (by have : (46 : UInt8).toNat = 46 := rfl; omega)))
                    clear hl1 HN hd1 h46
                    go_wp2_with (first | (go_at_call 60; refine (HVx.out _).mono ?_; rintro e w' ⟨rfl, rfl⟩) | (go_at_call 23; refine (HLt.out _).mono ?_; rintro e w' ⟨rfl, rfl⟩) | (go_at_call 22; refine (HDt.out _).mono ?_; rintro e w' ⟨rfl, rfl⟩))
                    go_ret2
                    exact ⟨by rw [HV.out]; first | rfl | (congr 5; omega), rfl⟩
        · obtain rfl : t = s.size := by omega
          have hdl : D.length ≤ j := by have := HDl.out; have := hI.out.1; omega
          obtain ⟨e1, e2⟩ := hI.out.2.full hdl
          have htj := hI.out.1
          have HN : Hid (num l = some (acc, 2 + j)) := Lib.hid (by
            rw [num_in HNp.out e2 hM, e1]
            rw [show l.drop (2 + j) = L.drop (a + 2 + j) from HDC.out j, ← htj, List.drop_of_length_le (by rw [HEm.out]; exact Nat.le_refl _)]
            rfl)
          have HV := Lib.hid (nuV_some (a := a) (t := s.size) HN.out (by omega))
          clear hI hdl e1 e2 htj HN
          go_wp2_with fail
          go_ret2
          exact ⟨by rw [HV.out]; rfl, rfl⟩
set_option maxRecDepth 8000 in
set_option maxHeartbeats 2000000 in
theorem refNumber_zero (s : ByteArray) (a : Nat) (w : World) (hs : s.size ≤ 1000000) (l : Bs) (c : UInt8) (r : Bs) (hl : s.data.toList.drop a = l) (hcr : l = c :: r) (hc : dg c = true) (hH : ¬ isH l = true) (h48 : c = 48) :
    Calls Tryd.prog 41 #[.string s, .int .i64 (a : Nat)] w fun e w' => e = .returned (nuV (num l)) ∧ w = w' := by
  have HEm := Lib.hid (size_list s)
  have HIX := Lib.hid (index_run s)
  have hlen : r.length + 1 = s.size - a := by rw [← size_list, ← List.length_drop, hl, hcr]; rfl
  have ha : a < s.size := by omega
  have HBG := Lib.hid fun (g : ByteArray) (hg : g.size ≤ 16) w => begins_any s a g w (by omega) (by omega) hg
  have e1 : (ByteArray.mk #[48, 120]).data.toList.isPrefixOf (s.data.toList.drop a) = decide (c = 48 ∧ r.head? = some 120) := by rw [hl, hcr]; exact prefix_two c 48 120 r
  have e2 : (ByteArray.mk #[48, 88]).data.toList.isPrefixOf (s.data.toList.drop a) = decide (c = 48 ∧ r.head? = some 88) := by rw [hl, hcr]; exact prefix_two c 48 88 r
  have HB1 := Lib.hid fun w => HBG.out ⟨#[48, 120]⟩ (by decide) w
  have HB2 := Lib.hid fun w => HBG.out ⟨#[48, 88]⟩ (by decide) w
  rw [e1] at HB1
  rw [e2] at HB2
  have HVal := Lib.hid refValue_any
  have HG : Hid (∀ t x rr, s.data.toList.drop t = x :: rr → s.data.toList[t]? = some x) := Lib.hid fun t x rr h => by
    have : (s.data.toList.drop t)[0]? = some x := by rw [h]; rfl
    rw [List.getElem?_drop] at this
    exact this
  have i0 := fun w => HIX.out a c w (HG.out _ _ _ (hl.trans hcr))
  have HL0 := Lib.hid hl
  have HLen := Lib.hid hlen
  clear e1 e2 HBG hl hlen
  generalize s.data.toList = L at *
  · have hH' : isH l = false := by cases h : isH l <;> simp_all
    · subst h48
      have HN : Hid (num l = if free (L.drop (a + 1)) then some (0, 1) else none) := Lib.hid (by
        rw [num_in (l := l) (D := [48]) (b := 10) (k := 1) (acc := 0) (by unfold nparts; rw [if_neg hH, hcr]; rfl) rfl (by decide)]
        rw [← HL0.out, List.drop_drop])
      have hv0 : vI 48 = 0 := by decide
      have HV48 := Lib.hid (HVal.out 48)
      rw [hv0] at HV48
      have i0' : ∀ w, (Instr.index 9 (.string s) (.int .i64 (a : Nat))).run Tryd.prog w = .ok (.int .u8 48) w := i0
      have HLa : Hid (L.drop a = 48 :: r) := Lib.hid (HL0.out.trans hcr)
      clear i0 hH hv0 hc
      have heads : (∃ x q, (x = 120 ∨ x = 88) ∧ r = x :: q) ∨ (¬ r.head? = some 120 ∧ ¬ r.head? = some 88) := by
        cases r with
        | nil => exact .inr ⟨by simp, by simp⟩
        | cons x q =>
          by_cases h1 : x = 120
          · exact .inl ⟨x, q, .inl h1, rfl⟩
          · by_cases h2 : x = 88
            · exact .inl ⟨x, q, .inr h2, rfl⟩
            · exact .inr ⟨by simpa using h1, by simpa using h2⟩
      rcases heads with ⟨x, q, hx2, hr⟩ | ⟨h1, h2⟩
      · rw [hr] at HB1 HB2
        have h1 : decide ((48 : UInt8) = 48 ∧ (x :: q : Bs).head? = some 120) = decide (x = 120) := by simp
        have h2 : decide ((48 : UInt8) = 48 ∧ (x :: q : Bs).head? = some 88) = decide (x = 88) := by simp
        rw [h1] at HB1
        rw [h2] at HB2
        clear h1 h2
        cases q with
        | nil =>
          have ha2 : s.size = a + 2 := by have := HLen.out; rw [hr] at this; simp only [List.length_cons, List.length_nil] at this; omega
          clear hH' hcr hr
          rcases hx2 with rfl | rfl
          · rw [decide_eq_true rfl] at HB1
            go_enter Tryd.func41, Tryd.ntmps41
            go_wp2_with fail
            refine (HB1.out _).mono ?_
            rintro e w' ⟨rfl, rfl⟩
            go_wp2_with fail
            go_loopw [8, 9] (fun vn vt wr => vn = .int .i64 0 ∧ vt = .int .i64 (a : Nat) ∧ w = wr)
              (fun _ vt _ => s.size - (intOf vt).toNat)
            case atStart => exact ⟨rfl, rfl, rfl⟩
            case round =>
              obtain ⟨rfl, rfl, rfl⟩ := hrel
              by_cases hts : a + 1 < s.size
              · obtain ⟨x, rr, hxr⟩ := drop_cons (l := L) (k := a + 1) (by rw [HEm.out]; exact hts)
                have ixt : ∀ w, (Instr.index 9 (.string s) (.int .i64 ((a : Int) + 1))).run Tryd.prog w = .ok (.int .u8 (x.toNat : Nat)) w := fun w => HIX.out (a + 1) x w (HG.out _ _ _ hxr)
                have HLt := Lib.hid (refLetter_any x)
                have HDt := Lib.hid (refDigit_any x)
                have hfr : free (L.drop (a + 1)) = !((lt x || dg x) || decide (x = 46)) := by rw [hxr]; rfl
                rw [hfr] at HN
                clear hxr hfr
                cases hl1 : lt x with
                | true =>
                  rw [hl1] at HLt HN
                  have HV := Lib.hid (nuV_none HN.out)
                  clear hl1 HN
                  go_wp2_with (first | (go_at_call 60; refine (HV48.out _).mono ?_; rintro e w' ⟨rfl, rfl⟩) | (go_at_call 23; refine (HLt.out _).mono ?_; rintro e w' ⟨rfl, rfl⟩) | (go_at_call 22; refine (HDt.out _).mono ?_; rintro e w' ⟨rfl, rfl⟩))
                  go_ret2
                  exact ⟨by rw [HV.out]; first | rfl | (congr 5; omega), rfl⟩
                | false =>
                  rw [hl1] at HLt HN
                  cases hd1 : dg x with
                  | true =>
                    rw [hd1] at HDt HN
                    have HV := Lib.hid (nuV_none HN.out)
                    clear hl1 HN hd1
                    go_wp2_with (first | (go_at_call 60; refine (HV48.out _).mono ?_; rintro e w' ⟨rfl, rfl⟩) | (go_at_call 23; refine (HLt.out _).mono ?_; rintro e w' ⟨rfl, rfl⟩) | (go_at_call 22; refine (HDt.out _).mono ?_; rintro e w' ⟨rfl, rfl⟩))
                    go_ret2
                    exact ⟨by rw [HV.out]; first | rfl | (congr 5; omega), rfl⟩
                  | false =>
                    rw [hd1] at HDt HN
                    by_cases h46 : x = 46
                    · subst h46
                      have HV := Lib.hid (nuV_none HN.out)
                      have ixt' : ∀ w, (Instr.index 9 (.string s) (.int .i64 ((a : Int) + 1))).run Tryd.prog w = .ok (.int .u8 46) w := ixt
                      clear hl1 HN hd1 ixt
                      go_wp2_with (first | (go_at_call 60; refine (HV48.out _).mono ?_; rintro e w' ⟨rfl, rfl⟩) | (go_at_call 23; refine (HLt.out _).mono ?_; rintro e w' ⟨rfl, rfl⟩) | (go_at_call 22; refine (HDt.out _).mono ?_; rintro e w' ⟨rfl, rfl⟩))
                      go_ret2
                      exact ⟨by rw [HV.out]; first | rfl | (congr 5; omega), rfl⟩
                    · rw [decide_eq_false h46] at HN
                      have HV := Lib.hid (nuV_some HN.out (Eq.refl (a + 1)))
                      have b46 : ((x.toNat : Int) == 46) = false := ne_i (fun h => h46 (UInt8.toNat_inj.1 (by have : (46 : UInt8).toNat = 46 := rfl; omega)))
                      clear hl1 HN hd1 h46
                      go_wp2_with (first | (go_at_call 60; refine (HV48.out _).mono ?_; rintro e w' ⟨rfl, rfl⟩) | (go_at_call 23; refine (HLt.out _).mono ?_; rintro e w' ⟨rfl, rfl⟩) | (go_at_call 22; refine (HDt.out _).mono ?_; rintro e w' ⟨rfl, rfl⟩))
                      go_ret2
                      exact ⟨by rw [HV.out]; first | rfl | (congr 5; omega), rfl⟩
              · have hfr : free (L.drop (a + 1)) = true := by rw [List.drop_of_length_le (by rw [HEm.out]; omega)]; rfl
                rw [hfr] at HN
                have HV := Lib.hid (nuV_some HN.out (Eq.refl (a + 1)))
                clear HN hfr
                go_wp2_with (first | (go_at_call 60; refine (HV48.out _).mono ?_; rintro e w' ⟨rfl, rfl⟩) | fail)
                all_goals go_ret2
                all_goals exact ⟨by rw [HV.out]; first | rfl | (congr 5; omega), rfl⟩
          · rw [decide_eq_false (by decide)] at HB1
            rw [decide_eq_true rfl] at HB2
            go_enter Tryd.func41, Tryd.ntmps41
            go_wp2_with fail
            refine (HB1.out _).mono ?_
            rintro e w' ⟨rfl, rfl⟩
            go_wp2_with fail
            refine (HB2.out _).mono ?_
            rintro e w' ⟨rfl, rfl⟩
            go_wp2_with fail
            go_loopw [8, 9] (fun vn vt wr => vn = .int .i64 0 ∧ vt = .int .i64 (a : Nat) ∧ w = wr)
              (fun _ vt _ => s.size - (intOf vt).toNat)
            case atStart => exact ⟨rfl, rfl, rfl⟩
            case round =>
              obtain ⟨rfl, rfl, rfl⟩ := hrel
              by_cases hts : a + 1 < s.size
              · obtain ⟨x, rr, hxr⟩ := drop_cons (l := L) (k := a + 1) (by rw [HEm.out]; exact hts)
                have ixt : ∀ w, (Instr.index 9 (.string s) (.int .i64 ((a : Int) + 1))).run Tryd.prog w = .ok (.int .u8 (x.toNat : Nat)) w := fun w => HIX.out (a + 1) x w (HG.out _ _ _ hxr)
                have HLt := Lib.hid (refLetter_any x)
                have HDt := Lib.hid (refDigit_any x)
                have hfr : free (L.drop (a + 1)) = !((lt x || dg x) || decide (x = 46)) := by rw [hxr]; rfl
                rw [hfr] at HN
                clear hxr hfr
                cases hl1 : lt x with
                | true =>
                  rw [hl1] at HLt HN
                  have HV := Lib.hid (nuV_none HN.out)
                  clear hl1 HN
                  go_wp2_with (first | (go_at_call 60; refine (HV48.out _).mono ?_; rintro e w' ⟨rfl, rfl⟩) | (go_at_call 23; refine (HLt.out _).mono ?_; rintro e w' ⟨rfl, rfl⟩) | (go_at_call 22; refine (HDt.out _).mono ?_; rintro e w' ⟨rfl, rfl⟩))
                  go_ret2
                  exact ⟨by rw [HV.out]; first | rfl | (congr 5; omega), rfl⟩
                | false =>
                  rw [hl1] at HLt HN
                  cases hd1 : dg x with
                  | true =>
                    rw [hd1] at HDt HN
                    have HV := Lib.hid (nuV_none HN.out)
                    clear hl1 HN hd1
                    go_wp2_with (first | (go_at_call 60; refine (HV48.out _).mono ?_; rintro e w' ⟨rfl, rfl⟩) | (go_at_call 23; refine (HLt.out _).mono ?_; rintro e w' ⟨rfl, rfl⟩) | (go_at_call 22; refine (HDt.out _).mono ?_; rintro e w' ⟨rfl, rfl⟩))
                    go_ret2
                    exact ⟨by rw [HV.out]; first | rfl | (congr 5; omega), rfl⟩
                  | false =>
                    rw [hd1] at HDt HN
                    by_cases h46 : x = 46
                    · subst h46
                      have HV := Lib.hid (nuV_none HN.out)
                      have ixt' : ∀ w, (Instr.index 9 (.string s) (.int .i64 ((a : Int) + 1))).run Tryd.prog w = .ok (.int .u8 46) w := ixt
                      clear hl1 HN hd1 ixt
                      go_wp2_with (first | (go_at_call 60; refine (HV48.out _).mono ?_; rintro e w' ⟨rfl, rfl⟩) | (go_at_call 23; refine (HLt.out _).mono ?_; rintro e w' ⟨rfl, rfl⟩) | (go_at_call 22; refine (HDt.out _).mono ?_; rintro e w' ⟨rfl, rfl⟩))
                      go_ret2
                      exact ⟨by rw [HV.out]; first | rfl | (congr 5; omega), rfl⟩
                    · rw [decide_eq_false h46] at HN
                      have HV := Lib.hid (nuV_some HN.out (Eq.refl (a + 1)))
                      have b46 : ((x.toNat : Int) == 46) = false := ne_i (fun h => h46 (UInt8.toNat_inj.1 (by have : (46 : UInt8).toNat = 46 := rfl; omega)))
                      clear hl1 HN hd1 h46
                      go_wp2_with (first | (go_at_call 60; refine (HV48.out _).mono ?_; rintro e w' ⟨rfl, rfl⟩) | (go_at_call 23; refine (HLt.out _).mono ?_; rintro e w' ⟨rfl, rfl⟩) | (go_at_call 22; refine (HDt.out _).mono ?_; rintro e w' ⟨rfl, rfl⟩))
                      go_ret2
                      exact ⟨by rw [HV.out]; first | rfl | (congr 5; omega), rfl⟩
              · have hfr : free (L.drop (a + 1)) = true := by rw [List.drop_of_length_le (by rw [HEm.out]; omega)]; rfl
                rw [hfr] at HN
                have HV := Lib.hid (nuV_some HN.out (Eq.refl (a + 1)))
                clear HN hfr
                go_wp2_with (first | (go_at_call 60; refine (HV48.out _).mono ?_; rintro e w' ⟨rfl, rfl⟩) | fail)
                all_goals go_ret2
                all_goals exact ⟨by rw [HV.out]; first | rfl | (congr 5; omega), rfl⟩
        | cons d q =>
          have ha2 : a + 2 < s.size := by have := HLen.out; rw [hr] at this; simp only [List.length_cons] at this; omega
          have hd2 : L.drop (a + 2) = d :: q := by rw [← List.drop_drop, HL0.out, hcr, hr]; rfl
          have i2 : ∀ w, (Instr.index 9 (.string s) (.int .i64 ((a : Int) + 2))).run Tryd.prog w = .ok (.int .u8 (d.toNat : Nat)) w := fun w => HIX.out (a + 2) d w (HG.out _ _ _ hd2)
          have hnd : hx d = false := by
            rw [hcr, hr] at hH'
            have hH2 : (decide ((48 : UInt8) = 48) && (decide (x = 120 ∨ x = 88) && hx d)) = false := hH'
            rw [decide_eq_true rfl, decide_eq_true hx2] at hH2
            simpa using hH2
          have hvd : vI d = -1 := by unfold vI; rw [if_neg (by rw [hnd]; decide)]
          have HVd := Lib.hid (HVal.out d)
          rw [hvd] at HVd
          clear hH' hcr hr hd2 hnd hvd
          rcases hx2 with rfl | rfl
          · rw [decide_eq_true rfl] at HB1
            go_enter Tryd.func41, Tryd.ntmps41
            go_wp2_with fail
            refine (HB1.out _).mono ?_
            rintro e w' ⟨rfl, rfl⟩
            go_wp2_with fail
            refine (HVd.out _).mono ?_
            rintro e w' ⟨rfl, rfl⟩
            go_wp2_with fail
            go_loopw [8, 9] (fun vn vt wr => vn = .int .i64 0 ∧ vt = .int .i64 (a : Nat) ∧ w = wr)
              (fun _ vt _ => s.size - (intOf vt).toNat)
            case atStart => exact ⟨rfl, rfl, rfl⟩
            case round =>
              obtain ⟨rfl, rfl, rfl⟩ := hrel
              by_cases hts : a + 1 < s.size
              · obtain ⟨x, rr, hxr⟩ := drop_cons (l := L) (k := a + 1) (by rw [HEm.out]; exact hts)
                have ixt : ∀ w, (Instr.index 9 (.string s) (.int .i64 ((a : Int) + 1))).run Tryd.prog w = .ok (.int .u8 (x.toNat : Nat)) w := fun w => HIX.out (a + 1) x w (HG.out _ _ _ hxr)
                have HLt := Lib.hid (refLetter_any x)
                have HDt := Lib.hid (refDigit_any x)
                have hfr : free (L.drop (a + 1)) = !((lt x || dg x) || decide (x = 46)) := by rw [hxr]; rfl
                rw [hfr] at HN
                clear hxr hfr
                cases hl1 : lt x with
                | true =>
                  rw [hl1] at HLt HN
                  have HV := Lib.hid (nuV_none HN.out)
                  clear hl1 HN
                  go_wp2_with (first | (go_at_call 60; refine (HV48.out _).mono ?_; rintro e w' ⟨rfl, rfl⟩) | (go_at_call 23; refine (HLt.out _).mono ?_; rintro e w' ⟨rfl, rfl⟩) | (go_at_call 22; refine (HDt.out _).mono ?_; rintro e w' ⟨rfl, rfl⟩))
                  go_ret2
                  exact ⟨by rw [HV.out]; first | rfl | (congr 5; omega), rfl⟩
                | false =>
                  rw [hl1] at HLt HN
                  cases hd1 : dg x with
                  | true =>
                    rw [hd1] at HDt HN
                    have HV := Lib.hid (nuV_none HN.out)
                    clear hl1 HN hd1
                    go_wp2_with (first | (go_at_call 60; refine (HV48.out _).mono ?_; rintro e w' ⟨rfl, rfl⟩) | (go_at_call 23; refine (HLt.out _).mono ?_; rintro e w' ⟨rfl, rfl⟩) | (go_at_call 22; refine (HDt.out _).mono ?_; rintro e w' ⟨rfl, rfl⟩))
                    go_ret2
                    exact ⟨by rw [HV.out]; first | rfl | (congr 5; omega), rfl⟩
                  | false =>
                    rw [hd1] at HDt HN
                    by_cases h46 : x = 46
                    · subst h46
                      have HV := Lib.hid (nuV_none HN.out)
                      have ixt' : ∀ w, (Instr.index 9 (.string s) (.int .i64 ((a : Int) + 1))).run Tryd.prog w = .ok (.int .u8 46) w := ixt
                      clear hl1 HN hd1 ixt
                      go_wp2_with (first | (go_at_call 60; refine (HV48.out _).mono ?_; rintro e w' ⟨rfl, rfl⟩) | (go_at_call 23; refine (HLt.out _).mono ?_; rintro e w' ⟨rfl, rfl⟩) | (go_at_call 22; refine (HDt.out _).mono ?_; rintro e w' ⟨rfl, rfl⟩))
                      go_ret2
                      exact ⟨by rw [HV.out]; first | rfl | (congr 5; omega), rfl⟩
                    · rw [decide_eq_false h46] at HN
                      have HV := Lib.hid (nuV_some HN.out (Eq.refl (a + 1)))
                      have b46 : ((x.toNat : Int) == 46) = false := ne_i (fun h => h46 (UInt8.toNat_inj.1 (by have : (46 : UInt8).toNat = 46 := rfl; omega)))
                      clear hl1 HN hd1 h46
                      go_wp2_with (first | (go_at_call 60; refine (HV48.out _).mono ?_; rintro e w' ⟨rfl, rfl⟩) | (go_at_call 23; refine (HLt.out _).mono ?_; rintro e w' ⟨rfl, rfl⟩) | (go_at_call 22; refine (HDt.out _).mono ?_; rintro e w' ⟨rfl, rfl⟩))
                      go_ret2
                      exact ⟨by rw [HV.out]; first | rfl | (congr 5; omega), rfl⟩
              · have hfr : free (L.drop (a + 1)) = true := by rw [List.drop_of_length_le (by rw [HEm.out]; omega)]; rfl
                rw [hfr] at HN
                have HV := Lib.hid (nuV_some HN.out (Eq.refl (a + 1)))
                clear HN hfr
                go_wp2_with (first | (go_at_call 60; refine (HV48.out _).mono ?_; rintro e w' ⟨rfl, rfl⟩) | fail)
                all_goals go_ret2
                all_goals exact ⟨by rw [HV.out]; first | rfl | (congr 5; omega), rfl⟩
          · rw [decide_eq_false (by decide)] at HB1
            rw [decide_eq_true rfl] at HB2
            go_enter Tryd.func41, Tryd.ntmps41
            go_wp2_with fail
            refine (HB1.out _).mono ?_
            rintro e w' ⟨rfl, rfl⟩
            go_wp2_with fail
            refine (HB2.out _).mono ?_
            rintro e w' ⟨rfl, rfl⟩
            go_wp2_with fail
            refine (HVd.out _).mono ?_
            rintro e w' ⟨rfl, rfl⟩
            go_wp2_with fail
            go_loopw [8, 9] (fun vn vt wr => vn = .int .i64 0 ∧ vt = .int .i64 (a : Nat) ∧ w = wr)
              (fun _ vt _ => s.size - (intOf vt).toNat)
            case atStart => exact ⟨rfl, rfl, rfl⟩
            case round =>
              obtain ⟨rfl, rfl, rfl⟩ := hrel
              by_cases hts : a + 1 < s.size
              · obtain ⟨x, rr, hxr⟩ := drop_cons (l := L) (k := a + 1) (by rw [HEm.out]; exact hts)
                have ixt : ∀ w, (Instr.index 9 (.string s) (.int .i64 ((a : Int) + 1))).run Tryd.prog w = .ok (.int .u8 (x.toNat : Nat)) w := fun w => HIX.out (a + 1) x w (HG.out _ _ _ hxr)
                have HLt := Lib.hid (refLetter_any x)
                have HDt := Lib.hid (refDigit_any x)
                have hfr : free (L.drop (a + 1)) = !((lt x || dg x) || decide (x = 46)) := by rw [hxr]; rfl
                rw [hfr] at HN
                clear hxr hfr
                cases hl1 : lt x with
                | true =>
                  rw [hl1] at HLt HN
                  have HV := Lib.hid (nuV_none HN.out)
                  clear hl1 HN
                  go_wp2_with (first | (go_at_call 60; refine (HV48.out _).mono ?_; rintro e w' ⟨rfl, rfl⟩) | (go_at_call 23; refine (HLt.out _).mono ?_; rintro e w' ⟨rfl, rfl⟩) | (go_at_call 22; refine (HDt.out _).mono ?_; rintro e w' ⟨rfl, rfl⟩))
                  go_ret2
                  exact ⟨by rw [HV.out]; first | rfl | (congr 5; omega), rfl⟩
                | false =>
                  rw [hl1] at HLt HN
                  cases hd1 : dg x with
                  | true =>
                    rw [hd1] at HDt HN
                    have HV := Lib.hid (nuV_none HN.out)
                    clear hl1 HN hd1
                    go_wp2_with (first | (go_at_call 60; refine (HV48.out _).mono ?_; rintro e w' ⟨rfl, rfl⟩) | (go_at_call 23; refine (HLt.out _).mono ?_; rintro e w' ⟨rfl, rfl⟩) | (go_at_call 22; refine (HDt.out _).mono ?_; rintro e w' ⟨rfl, rfl⟩))
                    go_ret2
                    exact ⟨by rw [HV.out]; first | rfl | (congr 5; omega), rfl⟩
                  | false =>
                    rw [hd1] at HDt HN
                    by_cases h46 : x = 46
                    · subst h46
                      have HV := Lib.hid (nuV_none HN.out)
                      have ixt' : ∀ w, (Instr.index 9 (.string s) (.int .i64 ((a : Int) + 1))).run Tryd.prog w = .ok (.int .u8 46) w := ixt
                      clear hl1 HN hd1 ixt
                      go_wp2_with (first | (go_at_call 60; refine (HV48.out _).mono ?_; rintro e w' ⟨rfl, rfl⟩) | (go_at_call 23; refine (HLt.out _).mono ?_; rintro e w' ⟨rfl, rfl⟩) | (go_at_call 22; refine (HDt.out _).mono ?_; rintro e w' ⟨rfl, rfl⟩))
                      go_ret2
                      exact ⟨by rw [HV.out]; first | rfl | (congr 5; omega), rfl⟩
                    · rw [decide_eq_false h46] at HN
                      have HV := Lib.hid (nuV_some HN.out (Eq.refl (a + 1)))
                      have b46 : ((x.toNat : Int) == 46) = false := ne_i (fun h => h46 (UInt8.toNat_inj.1 (by have : (46 : UInt8).toNat = 46 := rfl; omega)))
                      clear hl1 HN hd1 h46
                      go_wp2_with (first | (go_at_call 60; refine (HV48.out _).mono ?_; rintro e w' ⟨rfl, rfl⟩) | (go_at_call 23; refine (HLt.out _).mono ?_; rintro e w' ⟨rfl, rfl⟩) | (go_at_call 22; refine (HDt.out _).mono ?_; rintro e w' ⟨rfl, rfl⟩))
                      go_ret2
                      exact ⟨by rw [HV.out]; first | rfl | (congr 5; omega), rfl⟩
              · have hfr : free (L.drop (a + 1)) = true := by rw [List.drop_of_length_le (by rw [HEm.out]; omega)]; rfl
                rw [hfr] at HN
                have HV := Lib.hid (nuV_some HN.out (Eq.refl (a + 1)))
                clear HN hfr
                go_wp2_with (first | (go_at_call 60; refine (HV48.out _).mono ?_; rintro e w' ⟨rfl, rfl⟩) | fail)
                all_goals go_ret2
                all_goals exact ⟨by rw [HV.out]; first | rfl | (congr 5; omega), rfl⟩
      · rw [decide_eq_false (fun h => h1 h.2)] at HB1
        rw [decide_eq_false (fun h => h2 h.2)] at HB2
        clear hH' hcr h1 h2
        go_enter Tryd.func41, Tryd.ntmps41
        go_wp2_with fail
        refine (HB1.out _).mono ?_
        rintro e w' ⟨rfl, rfl⟩
        go_wp2_with fail
        refine (HB2.out _).mono ?_
        rintro e w' ⟨rfl, rfl⟩
        go_wp2_with fail
        go_loopw [8, 9] (fun vn vt wr => vn = .int .i64 0 ∧ vt = .int .i64 (a : Nat) ∧ w = wr)
          (fun _ vt _ => s.size - (intOf vt).toNat)
        case atStart => exact ⟨rfl, rfl, rfl⟩
        case round =>
          obtain ⟨rfl, rfl, rfl⟩ := hrel
          by_cases hts : a + 1 < s.size
          · obtain ⟨x, rr, hxr⟩ := drop_cons (l := L) (k := a + 1) (by rw [HEm.out]; exact hts)
            have ixt : ∀ w, (Instr.index 9 (.string s) (.int .i64 ((a : Int) + 1))).run Tryd.prog w = .ok (.int .u8 (x.toNat : Nat)) w := fun w => HIX.out (a + 1) x w (HG.out _ _ _ hxr)
            have HLt := Lib.hid (refLetter_any x)
            have HDt := Lib.hid (refDigit_any x)
            have hfr : free (L.drop (a + 1)) = !((lt x || dg x) || decide (x = 46)) := by rw [hxr]; rfl
            rw [hfr] at HN
            clear hxr hfr
            cases hl1 : lt x with
            | true =>
              rw [hl1] at HLt HN
              have HV := Lib.hid (nuV_none HN.out)
              clear hl1 HN
              go_wp2_with (first | (go_at_call 60; refine (HV48.out _).mono ?_; rintro e w' ⟨rfl, rfl⟩) | (go_at_call 23; refine (HLt.out _).mono ?_; rintro e w' ⟨rfl, rfl⟩) | (go_at_call 22; refine (HDt.out _).mono ?_; rintro e w' ⟨rfl, rfl⟩))
              go_ret2
              exact ⟨by rw [HV.out]; first | rfl | (congr 5; omega), rfl⟩
            | false =>
              rw [hl1] at HLt HN
              cases hd1 : dg x with
              | true =>
                rw [hd1] at HDt HN
                have HV := Lib.hid (nuV_none HN.out)
                clear hl1 HN hd1
                go_wp2_with (first | (go_at_call 60; refine (HV48.out _).mono ?_; rintro e w' ⟨rfl, rfl⟩) | (go_at_call 23; refine (HLt.out _).mono ?_; rintro e w' ⟨rfl, rfl⟩) | (go_at_call 22; refine (HDt.out _).mono ?_; rintro e w' ⟨rfl, rfl⟩))
                go_ret2
                exact ⟨by rw [HV.out]; first | rfl | (congr 5; omega), rfl⟩
              | false =>
                rw [hd1] at HDt HN
                by_cases h46 : x = 46
                · subst h46
                  have HV := Lib.hid (nuV_none HN.out)
                  have ixt' : ∀ w, (Instr.index 9 (.string s) (.int .i64 ((a : Int) + 1))).run Tryd.prog w = .ok (.int .u8 46) w := ixt
                  clear hl1 HN hd1 ixt
                  go_wp2_with (first | (go_at_call 60; refine (HV48.out _).mono ?_; rintro e w' ⟨rfl, rfl⟩) | (go_at_call 23; refine (HLt.out _).mono ?_; rintro e w' ⟨rfl, rfl⟩) | (go_at_call 22; refine (HDt.out _).mono ?_; rintro e w' ⟨rfl, rfl⟩))
                  go_ret2
                  exact ⟨by rw [HV.out]; first | rfl | (congr 5; omega), rfl⟩
                · rw [decide_eq_false h46] at HN
                  have HV := Lib.hid (nuV_some HN.out (Eq.refl (a + 1)))
                  have b46 : ((x.toNat : Int) == 46) = false := ne_i (fun h => h46 (UInt8.toNat_inj.1 (by have : (46 : UInt8).toNat = 46 := rfl; omega)))
                  clear hl1 HN hd1 h46
                  go_wp2_with (first | (go_at_call 60; refine (HV48.out _).mono ?_; rintro e w' ⟨rfl, rfl⟩) | (go_at_call 23; refine (HLt.out _).mono ?_; rintro e w' ⟨rfl, rfl⟩) | (go_at_call 22; refine (HDt.out _).mono ?_; rintro e w' ⟨rfl, rfl⟩))
                  go_ret2
                  exact ⟨by rw [HV.out]; first | rfl | (congr 5; omega), rfl⟩
          · have hfr : free (L.drop (a + 1)) = true := by rw [List.drop_of_length_le (by rw [HEm.out]; omega)]; rfl
            rw [hfr] at HN
            have HV := Lib.hid (nuV_some HN.out (Eq.refl (a + 1)))
            clear HN hfr
            go_wp2_with (first | (go_at_call 60; refine (HV48.out _).mono ?_; rintro e w' ⟨rfl, rfl⟩) | fail)
            all_goals go_ret2
            all_goals exact ⟨by rw [HV.out]; first | rfl | (congr 5; omega), rfl⟩
set_option maxRecDepth 8000 in
set_option maxHeartbeats 2000000 in
theorem refNumber_dec (s : ByteArray) (a : Nat) (w : World) (hs : s.size ≤ 1000000) (l : Bs) (c : UInt8) (r : Bs) (hl : s.data.toList.drop a = l) (hcr : l = c :: r) (hH : ¬ isH l = true) (h48 : ¬ c = 48) :
    Calls Tryd.prog 41 #[.string s, .int .i64 (a : Nat)] w fun e w' => e = .returned (nuV (num l)) ∧ w = w' := by
  have HEm := Lib.hid (size_list s)
  have HIX := Lib.hid (index_run s)
  have hlen : r.length + 1 = s.size - a := by rw [← size_list, ← List.length_drop, hl, hcr]; rfl
  have ha : a < s.size := by omega
  have HBG := Lib.hid fun (g : ByteArray) (hg : g.size ≤ 16) w => begins_any s a g w (by omega) (by omega) hg
  have e1 : (ByteArray.mk #[48, 120]).data.toList.isPrefixOf (s.data.toList.drop a) = decide (c = 48 ∧ r.head? = some 120) := by rw [hl, hcr]; exact prefix_two c 48 120 r
  have e2 : (ByteArray.mk #[48, 88]).data.toList.isPrefixOf (s.data.toList.drop a) = decide (c = 48 ∧ r.head? = some 88) := by rw [hl, hcr]; exact prefix_two c 48 88 r
  have HB1 := Lib.hid fun w => HBG.out ⟨#[48, 120]⟩ (by decide) w
  have HB2 := Lib.hid fun w => HBG.out ⟨#[48, 88]⟩ (by decide) w
  rw [e1] at HB1
  rw [e2] at HB2
  have HVal := Lib.hid refValue_any
  have HG : Hid (∀ t x rr, s.data.toList.drop t = x :: rr → s.data.toList[t]? = some x) := Lib.hid fun t x rr h => by
    have : (s.data.toList.drop t)[0]? = some x := by rw [h]; rfl
    rw [List.getElem?_drop] at this
    exact this
  have i0 := fun w => HIX.out a c w (HG.out _ _ _ (hl.trans hcr))
  have HL0 := Lib.hid hl
  have HLen := Lib.hid hlen
  clear e1 e2 HBG hl hlen
  generalize s.data.toList = L at *
  · have hH' : isH l = false := by cases h : isH l <;> simp_all
    · rw [decide_eq_false (fun h => h48 h.1)] at HB1
      rw [decide_eq_false (fun h => h48 h.1)] at HB2
      obtain ⟨D, hD⟩ : ∃ D, D = l := ⟨_, rfl⟩
      have HNp : Hid (nparts l = (D.take (run dg D), 10, 0 + run dg D)) := Lib.hid (by
        unfold nparts
        rw [if_neg hH, hcr, if_neg (by simpa using h48), ← hcr, hD, Nat.zero_add])
      have HDD : Hid (∀ j, D.drop j = L.drop (a + j)) := Lib.hid fun j => by rw [← List.drop_drop, HL0.out, hD]
      have HDC : Hid (∀ j, l.drop (0 + j) = L.drop (a + j)) := Lib.hid fun j => by rw [← HDD.out j, Nat.zero_add, hD]
      have HDl : Hid (D.length = s.size - a) := Lib.hid (by rw [hD, hcr]; have := HLen.out; simp only [List.length_cons] at *; omega)
      have HN0 : Hid (Nm 10 dg D 0 0) := Lib.hid ⟨Nat.zero_le _, rfl, by simp⟩
      have b48 : ((c.toNat : Int) == 48) = false := ne_i (fun h => h48 (UInt8.toNat_inj.1 (by have : (48 : UInt8).toNat = 48 := rfl; omega)))
      clear hH hH' hcr hD h48
      go_enter Tryd.func41, Tryd.ntmps41
      go_wp2_with fail
      refine (HB1.out _).mono ?_
      rintro e w' ⟨rfl, rfl⟩
      go_wp2_with fail
      refine (HB2.out _).mono ?_
      rintro e w' ⟨rfl, rfl⟩
      go_wp2_with fail
      go_loopw [8, 9] (fun vn vt wr => ∃ (t j acc : Nat), t ≤ s.size ∧ vn = .int .i64 acc ∧ vt = .int .i64 t ∧ acc ≤ 9007199254740991 ∧ Hid (t = a + j ∧ Nm 10 dg D j acc) ∧ w = wr)
        (fun _ vt _ => s.size - (intOf vt).toNat)
      case atStart => exact ⟨a, 0, 0, by omega, rfl, by go_num, by omega, Lib.hid ⟨rfl, HN0.out⟩, rfl⟩
      case round =>
        obtain ⟨t, j, acc, hts, rfl, rfl, hM, hI, rfl⟩ := hrel
        by_cases hlt : t < s.size
        · have htj := hI.out.1
          have hdj : D.drop j = L.drop t := by rw [htj]; exact HDD.out j
          obtain ⟨x, rr, hxr⟩ := drop_cons (l := L) (k := t) (by rw [HEm.out]; exact hlt)
          rw [hxr] at hdj
          have ix := fun w => HIX.out t x w (HG.out _ _ _ hxr)
          have HVx := Lib.hid (HVal.out x)
          cases hpx : dg x with
          | true =>
            obtain ⟨v1, v2⟩ := vI_dg hpx
            have hst := hI.out.2.step hdj hpx
            rw [v1] at HVx
            have HSt := Lib.hid hst
            have HTj : Hid (t + 1 = a + (j + 1)) := Lib.hid (by omega)
            have HDj := Lib.hid hdj
            generalize dv x = d at *
            by_cases hov : acc * 10 + d ≤ 9007199254740991
            · clear hI hdj hxr hpx hst htj
              go_wp2_with (go_at_call 60; refine (HVx.out _).mono ?_; rintro e w' ⟨rfl, rfl⟩)
              go_roundw
              case rel => exact ⟨t + 1, j + 1, acc * 10 + d, by omega, by go_num, by go_num, hov, Lib.hid ⟨HTj.out, HSt.out⟩, by first | rfl | trivial⟩
              case measure => simp [intOf]; omega
            · have HV := Lib.hid (nuV_none (num_over HNp.out (Nat.lt_of_lt_of_le (by omega) (HSt.out.big (by decide)))))
              have hov' : 9007199254740991 < (acc : Int) * 10 + d := by omega
              clear hI hdj hxr hpx hst htj hov
              go_wp2_with (go_at_call 60; refine (HVx.out _).mono ?_; rintro e w' ⟨rfl, rfl⟩)
              go_ret2
              exact ⟨by rw [HV.out]; rfl, rfl⟩
          | false =>
            have hv := vI_ndg hpx
            obtain ⟨e1, e2⟩ := hI.out.2.stop hdj hpx
            have HN : Hid (num l = if free (L.drop t) then some (acc, 0 + j) else none) := Lib.hid (by
              rw [num_in HNp.out e2 hM, e1, htj]
              rw [show l.drop (0 + j) = L.drop (a + j) from HDC.out j])
            have HT : Hid (t = a + (0 + j)) := Lib.hid (by omega)
            have ixt := ix
            generalize vI x = m at *
            clear hI hdj hpx htj e1 e2
            rcases hv with hv | hv
            all_goals
              have HLt := Lib.hid (refLetter_any x)
              have HDt := Lib.hid (refDigit_any x)
              have hfr : free (L.drop (t)) = !((lt x || dg x) || decide (x = 46)) := by rw [hxr]; rfl
              rw [hfr] at HN
              clear hxr hfr
              cases hl1 : lt x with
              | true =>
                rw [hl1] at HLt HN
                have HV := Lib.hid (nuV_none HN.out)
                clear hl1 HN
                go_wp2_with (first | (go_at_call 60; refine (HVx.out _).mono ?_; rintro e w' ⟨rfl, rfl⟩) | (go_at_call 23; refine (HLt.out _).mono ?_; rintro e w' ⟨rfl, rfl⟩) | (go_at_call 22; refine (HDt.out _).mono ?_; rintro e w' ⟨rfl, rfl⟩))
                go_ret2
                exact ⟨by rw [HV.out]; first | rfl | (congr 5; omega), rfl⟩
              | false =>
                rw [hl1] at HLt HN
                cases hd1 : dg x with
                | true =>
                  rw [hd1] at HDt HN
                  have HV := Lib.hid (nuV_none HN.out)
                  clear hl1 HN hd1
                  go_wp2_with (first | (go_at_call 60; refine (HVx.out _).mono ?_; rintro e w' ⟨rfl, rfl⟩) | (go_at_call 23; refine (HLt.out _).mono ?_; rintro e w' ⟨rfl, rfl⟩) | (go_at_call 22; refine (HDt.out _).mono ?_; rintro e w' ⟨rfl, rfl⟩))
                  go_ret2
                  exact ⟨by rw [HV.out]; first | rfl | (congr 5; omega), rfl⟩
                | false =>
                  rw [hd1] at HDt HN
                  by_cases h46 : x = 46
                  · subst h46
                    have HV := Lib.hid (nuV_none HN.out)
                    have ixt' : ∀ w, (Instr.index 9 (.string s) (.int .i64 (t))).run Tryd.prog w = .ok (.int .u8 46) w := ixt
                    clear hl1 HN hd1 ixt
                    go_wp2_with (first | (go_at_call 60; refine (HVx.out _).mono ?_; rintro e w' ⟨rfl, rfl⟩) | (go_at_call 23; refine (HLt.out _).mono ?_; rintro e w' ⟨rfl, rfl⟩) | (go_at_call 22; refine (HDt.out _).mono ?_; rintro e w' ⟨rfl, rfl⟩))
                    go_ret2
                    exact ⟨by rw [HV.out]; first | rfl | (congr 5; omega), rfl⟩
                  · rw [decide_eq_false h46] at HN
                    have HV := Lib.hid (nuV_some HN.out HT.out)
                    have b46 : ((x.toNat : Int) == 46) = false := ne_i (fun h => h46 (UInt8.toNat_inj.1 (by have : (46 : UInt8).toNat = 46 := rfl; omega)))
                    clear hl1 HN hd1 h46
                    go_wp2_with (first | (go_at_call 60; refine (HVx.out _).mono ?_; rintro e w' ⟨rfl, rfl⟩) | (go_at_call 23; refine (HLt.out _).mono ?_; rintro e w' ⟨rfl, rfl⟩) | (go_at_call 22; refine (HDt.out _).mono ?_; rintro e w' ⟨rfl, rfl⟩))
                    go_ret2
                    exact ⟨by rw [HV.out]; first | rfl | (congr 5; omega), rfl⟩
        · obtain rfl : t = s.size := by omega
          have hdl : D.length ≤ j := by have := HDl.out; have := hI.out.1; omega
          obtain ⟨e1, e2⟩ := hI.out.2.full hdl
          have htj := hI.out.1
          have HN : Hid (num l = some (acc, 0 + j)) := Lib.hid (by
            rw [num_in HNp.out e2 hM, e1]
            rw [show l.drop (0 + j) = L.drop (a + j) from HDC.out j, ← htj, List.drop_of_length_le (by rw [HEm.out]; exact Nat.le_refl _)]
            rfl)
          have HV := Lib.hid (nuV_some (a := a) (t := s.size) HN.out (by omega))
          clear hI hdl e1 e2 htj HN
          go_wp2_with fail
          go_ret2
          exact ⟨by rw [HV.out]; rfl, rfl⟩
theorem refNumber_any (s : ByteArray) (a : Nat) (w : World) (hs : s.size ≤ 1000000) (l : Bs) (c : UInt8) (r : Bs) (hl : s.data.toList.drop a = l) (hcr : l = c :: r) (hc : dg c = true) :
    Calls Tryd.prog 41 #[.string s, .int .i64 (a : Nat)] w fun e w' => e = .returned (nuV (num l)) ∧ w = w' := by
  by_cases hH : isH l = true
  · exact refNumber_hex s a w hs l c r hl hcr hH
  · by_cases h48 : c = 48
    · exact refNumber_zero s a w hs l c r hl hcr hc hH h48
    · exact refNumber_dec s a w hs l c r hl hcr hH h48
end Go.Proofs.YtkaamaopjcaalaaDoor.T
