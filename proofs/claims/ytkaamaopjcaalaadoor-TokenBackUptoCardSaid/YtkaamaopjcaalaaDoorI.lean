/-
  ParseUint of digits to base 10 and 16, by contract.
-/
import Derived.Test.YtkaamaopjcaalaaDoorUD
import Derived.Test.YtkaamaopjcaalaaDoorQ
import Derived.Test.YtkaamaopjcaalaaDoorE
namespace Go.Proofs.YtkaamaopjcaalaaDoor.T
open Go.RowKit Go.Proofs.YtkaamaopjcaalaaDoor

theorem val_cons (b acc : Nat) (c : UInt8) (r : Bs) : val b acc (c :: r) = val b (acc * b + dv c) r := rfl
theorem val_ge (b : Nat) (hb : 1 ≤ b) : ∀ (l : Bs) (acc : Nat), acc ≤ val b acc l
  | [], acc => Nat.le_refl _
  | c :: r, acc => by
    rw [val_cons]
    have := val_ge b hb r (acc * b + dv c)
    have h2 : acc * 1 ≤ acc * b := Nat.mul_le_mul_left _ hb
    omega
theorem dv_dg {c : UInt8} (h : dg c = true) : dv c = c.toNat - 48 ∧ 48 ≤ c.toNat ∧ c.toNat ≤ 57 := by
  unfold dg at h
  have h := of_decide_eq_true h
  unfold dv
  exact ⟨if_pos h.2, h⟩
theorem parse10_eq : ∀ (l : Bs) (acc : Nat), (∀ c ∈ l, dg c = true) → acc < 18446744073709551616 →
    Lib.parseUint10 acc l = if val 10 acc l < 18446744073709551616 then .ok (val 10 acc l) else .range
  | [], acc, _, ha => by
    show Lib.NumEnd.ok acc = if acc < 18446744073709551616 then .ok acc else .range
    rw [if_pos ha]
  | c :: r, acc, h, ha => by
    obtain ⟨hd, h1, h2⟩ := dv_dg (h c (by simp))
    have ih := parse10_eq r (acc * 10 + (c.toNat - 48)) fun x hx => h x (by simp [hx])
    have hg := val_ge 10 (by decide) r (acc * 10 + (c.toNat - 48))
    rw [val_cons, hd]
    unfold Lib.parseUint10
    rw [if_pos ⟨h1, h2⟩]
    by_cases h3 : 1844674407370955162 ≤ acc
    · rw [if_pos h3, if_neg (by omega)]
    · rw [if_neg h3]
      by_cases h4 : 18446744073709551616 ≤ acc * 10 + (c.toNat - 48)
      · rw [if_pos h4, if_neg (by omega)]
      · rw [if_neg h4, ih (by omega)]
/-- what digits come to -/
def uV (n : Nat) : Value := if n < 18446744073709551616 then .tuple #[.int .u64 n, .nilIface] else .tuple #[.int .u64 18446744073709551615, .iface 89 (.int .i64 1)]
theorem uV_lt {n : Nat} (h : n < 18446744073709551616) : uV n = .tuple #[.int .u64 n, .nilIface] := if_pos h
theorem uV_ge {n : Nat} (h : ¬ n < 18446744073709551616) : uV n = .tuple #[.int .u64 18446744073709551615, .iface 89 (.int .i64 1)] := if_neg h
theorem below_bytes (w : World) (e : TypeId) (t : ByteArray) : Below w.heap.size w (Lib.bytesWorld w e t) := ⟨rfl, rfl, rfl, by rw [Lib.bytesWorld_size]; omega, fun j hj => Lib.bytesWorld_at_old w e t j hj⟩
theorem parse10_any (t : ByteArray) (hd : ∀ c ∈ t.data.toList, dg c = true) (hne : 0 < t.size) (hmax : t.size ≤ 1000000) (w : World) :
    Calls Tryd.prog 69 #[.string t, .int .i64 10, .int .i64 64] w fun e w' => e = .returned (uV (val 10 0 t.data.toList)) ∧ Below w.heap.size w w' := by
  refine (Tryd.internal_strconv_ParseUint_10_b64 t (by omega) (by omega) w).mono ?_
  rintro e w' ⟨rfl, rfl⟩
  refine ⟨?_, below_bytes _ _ _⟩
  rw [parse10_eq _ 0 hd (by decide)]
  unfold uV
  split <;> rfl
theorem hx_cases {c : UInt8} (h : hx c = true) : (48 ≤ c.toNat ∧ c.toNat ≤ 57 ∧ dv c = c.toNat - 48) ∨ (97 ≤ c.toNat ∧ c.toNat ≤ 102 ∧ dv c = c.toNat - 87) ∨ (65 ≤ c.toNat ∧ c.toNat ≤ 70 ∧ dv c = c.toNat - 55) := by
  unfold hx at h
  have h := of_decide_eq_true h
  unfold dv
  rcases h with h | h | h
  · exact .inl ⟨h.1, h.2, if_pos h.2⟩
  · exact .inr (.inl ⟨h.1, h.2, by rw [if_neg (by omega), if_pos h.1]⟩)
  · exact .inr (.inr ⟨h.1, h.2, by rw [if_neg (by omega), if_neg (by omega)]⟩)
set_option maxHeartbeats 8000000 in
set_option maxRecDepth 100000 in
theorem parse16_any (t : ByteArray) (hd : ∀ c ∈ t.data.toList, hx c = true) (hne : 0 < t.size) (hmax : t.size ≤ 1000000) (w : World) :
    Calls Tryd.prog 69 #[.string t, .int .i64 16, .int .i64 64] w fun e w' => e = .returned (uV (val 16 0 t.data.toList)) ∧ Below w.heap.size w w' := by
  have hemp : t.toList.isEmpty = false := by
    rw [← decide_eq_emptyBytes]
    exact decide_eq_false (fun h => by rw [h] at hne; exact absurd hne (by decide))
  have hcv := Lib.run_convert_string_bytes (P := Tryd.prog) w 9 57 5 t (u := .string) Tryd.underlying9 Tryd.underlying57 Tryd.underlying5
  have hB : ∀ j, j < t.size → (Lib.bytesWorld w 5 t).cell? ⟨w.heap.size, j, none⟩ = some (.int .u8 (t.data.toList.getD j 0).toNat) := fun j hj => Lib.bytesWorld_cell w 5 t j hj
  have hbw := below_bytes w 5 t
  obtain ⟨W1, hW1⟩ : ∃ W1, W1 = Lib.bytesWorld w 5 t := ⟨_, rfl⟩
  rw [← hW1] at hcv hB hbw
  clear hW1
  obtain ⟨bs, hL⟩ : ∃ bs, bs = t.data.toList := ⟨_, rfl⟩
  have hLn : bs.length = t.size := by rw [hL, size_list]
  rw [← hL] at hB hd ⊢
  clear hL
  have HDg := Lib.hid hd
  clear hd
  have hmv : IntKind.u64.wrap (IntKind.u64.wrap 18446744073709551616 - 1) = 18446744073709551615 := by
    rw [IntKind.wrap_u64, IntKind.wrap_u64]
    decide
  go_enter Tryd.func69, Tryd.ntmps69
  go_wp2
  go_loop [12, 13, 101] (fun vu vn vi => ∃ (k acc : Nat) (a : Int), vu = .bool false ∧ vn = .int .u64 a ∧ vi = .int .i64 k ∧ k ≤ t.size ∧ Hid (a = (acc : Int) ∧ acc < 18446744073709551616 ∧ val 16 0 bs = val 16 acc (bs.drop k)))
    (fun _ _ vi => t.size - (intOf vi).toNat)
  case atStart => exact ⟨0, 0, 0, rfl, rfl, rfl, by omega, rfl, by omega, rfl⟩
  case round =>
    obtain ⟨k, acc, a, rfl, rfl, rfl, hk, hh⟩ := hrel
    obtain ⟨ha, hacc, hdec⟩ := hh.out
    clear hh
    have a0 : 0 ≤ a := by omega
    have a1 : a < 18446744073709551616 := by omega
    by_cases hkn : k < t.size
    · have hc := hB k hkn
      have hdrop : bs.drop k = bs[k]'(by omega) :: bs.drop (k + 1) := List.drop_eq_getElem_cons (by omega)
      have hget : bs.getD k 0 = bs[k]'(by omega) := by simp [List.getD, List.getElem?_eq_getElem (show k < bs.length by omega)]
      have hcx := hx_cases (HDg.out (bs[k]'(by omega)) (List.getElem_mem _))
      rw [hdrop, val_cons] at hdec
      rw [hget] at hc
      generalize bs[k]'(by omega) = c at hc hdec hcx
      have hc256 : c.toNat < 256 := c.toNat_lt
      obtain ⟨l0, l1, l2, l3, l4⟩ := low_facts c.toNat hc256
      have hgv := val_ge 16 (by decide) (bs.drop (k + 1)) (acc * 16 + dv c)
      clear hB hdrop hget
      by_cases hcut : 1152921504606846976 ≤ acc
      · have HV : Hid (uV (val 16 0 bs) = .tuple #[.int .u64 18446744073709551615, .iface 89 (.int .i64 1)]) := Lib.hid (uV_ge (by rw [hdec]; omega))
        have icut : 1152921504606846976 ≤ a := by omega
        clear hcut hacc ha hdec hgv l4 hmv
        rcases hcx with ⟨c1, c2, _⟩ | ⟨c1, c2, _⟩ | ⟨c1, c2, _⟩
        · clear l0 l1 l2 l3
          go_wp2
          go_ret2
          exact ⟨by rw [HV.out]; rfl, hbw⟩
        · have m1 := l2 ⟨c1, c2⟩
          have m2 : 97 ≤ low c.toNat ∧ low c.toNat ≤ 102 := by omega
          have hLw := Lib.hid (lower_any c.toNat)
          generalize low c.toNat = m at *
          obtain ⟨m3, m4⟩ := m2
          have c95 : ((c.toNat : Int) == 95) = false := ne_i (by omega)
          have c57 : 57 < c.toNat := by omega
          clear l0 l1 l2 l3 m1
          go_wp2_with (go_at_call 78; refine (hLw.out _).mono ?_; rintro e w' ⟨rfl, rfl⟩)
          go_ret2
          exact ⟨by rw [HV.out]; rfl, hbw⟩
        · have m1 := l3 ⟨c1, c2⟩
          have m2 : 97 ≤ low c.toNat ∧ low c.toNat ≤ 102 := by omega
          have hLw := Lib.hid (lower_any c.toNat)
          generalize low c.toNat = m at *
          obtain ⟨m3, m4⟩ := m2
          have c95 : ((c.toNat : Int) == 95) = false := ne_i (by omega)
          have c57 : 57 < c.toNat := by omega
          clear l0 l1 l2 l3 m1
          go_wp2_with (go_at_call 78; refine (hLw.out _).mono ?_; rintro e w' ⟨rfl, rfl⟩)
          go_ret2
          exact ⟨by rw [HV.out]; rfl, hbw⟩
      · have icut : a < 1152921504606846976 := by omega
        rcases hcx with ⟨c1, c2, c3⟩ | ⟨c1, c2, c3⟩ | ⟨c1, c2, c3⟩
        · have HN : Hid (a * 16 + ((c.toNat : Int) - 48) = ((acc * 16 + dv c : Nat) : Int) ∧ acc * 16 + dv c < 18446744073709551616 ∧ val 16 0 bs = val 16 (acc * 16 + dv c) (bs.drop (k + 1))) := Lib.hid ⟨by omega, by omega, hdec⟩
          clear hdec ha hacc hcut c3 l0 l1 l2 l3 l4 hgv
          go_wp2
          refine ⟨⟨k + 1, acc * 16 + dv c, a * 16 + ((c.toNat : Int) - 48), rfl, (by first | rfl | (congr 1; omega)), (by first | rfl | (congr 1; omega)), by omega, HN⟩, by simp [intOf]; omega⟩
        · have m1 := l2 ⟨c1, c2⟩
          have m2 : 97 ≤ low c.toNat ∧ low c.toNat ≤ 102 := by omega
          have HN : Hid (a * 16 + (low c.toNat - 97 + 10) = ((acc * 16 + dv c : Nat) : Int) ∧ acc * 16 + dv c < 18446744073709551616 ∧ val 16 0 bs = val 16 (acc * 16 + dv c) (bs.drop (k + 1))) := Lib.hid ⟨by omega, by omega, hdec⟩
          have hLw := Lib.hid (lower_any c.toNat)
          generalize low c.toNat = m at *
          obtain ⟨m3, m4⟩ := m2
          have c95 : ((c.toNat : Int) == 95) = false := ne_i (by omega)
          have c57 : 57 < c.toNat := by omega
          clear hdec ha hacc hcut c3 l0 l1 l2 l3 l4 hgv m1
          go_wp2_with (go_at_call 78; refine (hLw.out _).mono ?_; rintro e w' ⟨rfl, rfl⟩)
          refine ⟨⟨k + 1, acc * 16 + dv c, a * 16 + (m - 97 + 10), rfl, (by first | rfl | (congr 1; omega)), (by first | rfl | (congr 1; omega)), by omega, HN⟩, by simp [intOf]; omega⟩
        · have m1 := l3 ⟨c1, c2⟩
          have m2 : 97 ≤ low c.toNat ∧ low c.toNat ≤ 102 := by omega
          have HN : Hid (a * 16 + (low c.toNat - 97 + 10) = ((acc * 16 + dv c : Nat) : Int) ∧ acc * 16 + dv c < 18446744073709551616 ∧ val 16 0 bs = val 16 (acc * 16 + dv c) (bs.drop (k + 1))) := Lib.hid ⟨by omega, by omega, hdec⟩
          have hLw := Lib.hid (lower_any c.toNat)
          generalize low c.toNat = m at *
          obtain ⟨m3, m4⟩ := m2
          have c95 : ((c.toNat : Int) == 95) = false := ne_i (by omega)
          have c57 : 57 < c.toNat := by omega
          clear hdec ha hacc hcut c3 l0 l1 l2 l3 l4 hgv m1
          go_wp2_with (go_at_call 78; refine (hLw.out _).mono ?_; rintro e w' ⟨rfl, rfl⟩)
          refine ⟨⟨k + 1, acc * 16 + dv c, a * 16 + (m - 97 + 10), rfl, (by first | rfl | (congr 1; omega)), (by first | rfl | (congr 1; omega)), by omega, HN⟩, by simp [intOf]; omega⟩
    · obtain rfl : k = t.size := by omega
      have hF : val 16 acc (bs.drop t.size) = acc := by rw [List.drop_eq_nil_of_le (by omega)]; rfl
      rw [hF] at hdec
      subst ha
      have HV : Hid (uV (val 16 0 bs) = .tuple #[.int .u64 acc, .nilIface]) := Lib.hid (by rw [hdec]; exact uV_lt hacc)
      clear hacc hF hdec a0 a1
      go_wp2
      go_ret2
      exact ⟨by rw [HV.out]; rfl, hbw⟩
/-- digits to a base -/
def digs (b : Nat) (l : Bs) : Prop := (b = 10 ∧ ∀ c ∈ l, dg c = true) ∨ (b = 16 ∧ ∀ c ∈ l, hx c = true)
theorem int_any (t : ByteArray) (b : Nat) (hd : digs b t.data.toList) (hne : 0 < t.size) (hmax : t.size ≤ 1000000) (w : World) :
    Calls Tryd.prog 69 #[.string t, .int .i64 (b : Nat), .int .i64 64] w fun e w' => e = .returned (uV (val b 0 t.data.toList)) ∧ Below w.heap.size w w' := by
  rcases hd with ⟨rfl, hd⟩ | ⟨rfl, hd⟩
  · exact parse10_any t hd hne hmax w
  · exact parse16_any t hd hne hmax w
/-- the library's variable ErrRange can be read -/
def RngAt (w : World) : Prop := ∃ ev, w.cell? ⟨2, 0, none⟩ = some ev ∧ (ev = .nilIface ∨ ∃ te pe, ev = .iface te pe)
theorem RngAt.below {w w' : World} (h : RngAt w) (hb : Below w.heap.size w w') : RngAt w' := by
  obtain ⟨ev, h1, h2⟩ := h
  exact ⟨ev, (hb.cell (World.block_lt_of_cell? w _ h1)).trans h1, h2⟩
set_option maxRecDepth 8000 in
theorem uint_ok (t : ByteArray) (b : Nat) (hd : digs b t.data.toList) (hne : 0 < t.size) (hmax : t.size ≤ 1000000) (hv : val b 0 t.data.toList < 18446744073709551616) (w : World) :
    Calls Tryd.prog 56 #[.string t, .int .i64 (b : Nat), .int .i64 64] w fun e w' => e = .returned (.tuple #[.int .u64 (val b 0 t.data.toList : Nat), .nilIface]) ∧ Below w.heap.size w w' := by
  have HP := Lib.hid (int_any t b hd hne hmax)
  rw [uV_lt hv] at HP
  generalize val b 0 t.data.toList = n at *
  clear hv hd
  go_enter Tryd.func56, Tryd.ntmps56
  go_wp2_with (go_at_call 69; refine (HP.out _).mono ?_; rintro e w' ⟨rfl, hb⟩)
  go_ret2
  exact ⟨rfl, hb⟩
set_option maxRecDepth 8000 in
theorem uint_no (t : ByteArray) (b : Nat) (hd : digs b t.data.toList) (hne : 0 < t.size) (hmax : t.size ≤ 1000000) (hv : ¬ val b 0 t.data.toList < 18446744073709551616) (w : World) (hE : RngAt w) :
    Calls Tryd.prog 56 #[.string t, .int .i64 (b : Nat), .int .i64 64] w fun e w' => ∃ N, e = .returned (.tuple #[.int .u64 18446744073709551615, .iface 91 (.pointer (some ⟨N, 0, none⟩))]) ∧ Below w.heap.size w w' := by
  have HP := Lib.hid (int_any t b hd hne hmax)
  rw [uV_ge hv] at HP
  have HE := Lib.hid hE
  clear hE hd
  go_enter Tryd.func56, Tryd.ntmps56
  go_wp2_with fail
  refine (HP.out _).mono ?_
  rintro e w1 ⟨rfl, hb⟩
  obtain ⟨ev, hv, hev⟩ := HE.out.below hb
  have HV := Lib.hid hv
  have HV2 := Lib.hid hev
  clear hv hev HE
  go_wp2_with fail
  refine (Tryd.strconv_toError_range _ t _ _ ev _ (by omega) HV.out HV2.out).mono ?_
  rintro e w2 ⟨N, rfl, _, _, hb2⟩
  go_wp2
  go_ret2
  exact ⟨N, rfl, hb.trans (hb2.mono hb.size)⟩
end Go.Proofs.YtkaamaopjcaalaaDoor.T
