/-
  readEscape, readUnit, by contract.
-/
import Derived.Test.YtjbcihjeohpgmaaDoorI
namespace Go.Proofs.YtjbcihjeohpgmaaDoor
open Go.RowKit

/-- how a unit that was read is answered -/
def unitV (o : Option (List Nat × Nat)) : Value := match o with
  | none => .tuple #[.int .i64 0, .int .i64 0]
  | some ([], n) => .tuple #[.int .i64 (-1), .int .i64 n]
  | some (x :: _, n) => .tuple #[.int .i64 x, .int .i64 n]
def esc1 (r : Bs) : Option (List Nat × Nat) := match esc r with
  | some (l, n) => some (l, n + 1)
  | none => none

theorem named_any (n : Nat) (i : Int) (w : World) (h : Lib.indexByte [98, 116, 110, 118, 102, 114] (UInt8.ofNat n) = i) :
    Calls Tryd.prog 47 #[.string ⟨#[98, 116, 110, 118, 102, 114]⟩, .int .u8 n] w fun e w' => e = .returned (.int .i64 i) ∧ w = w' := by
  subst h
  refine (Tryd.strings_IndexByte ⟨#[98, 116, 110, 118, 102, 114]⟩ n w).mono fun e w' ⟨h1, h2⟩ => ⟨h1.trans ?_, h2.symm⟩
  rfl
theorem isDigit_nat (n : Nat) (hn : n < 256) (w : World) :
    Calls Tryd.prog 46 #[.int .u8 n] w fun e w' => e = .returned (.bool (decide (48 ≤ n ∧ n ≤ 57))) ∧ w = w' := by
  have h := isDigit_any (UInt8.ofNat n) w
  rw [UInt8.toNat_ofNat', Nat.mod_eq_of_lt (by omega)] at h
  exact h
theorem isDigit_yes (n : Nat) (h1 : 48 ≤ n) (h2 : n ≤ 57) (w : World) : Calls Tryd.prog 46 #[.int .u8 n] w fun e w' => e = .returned (.bool true) ∧ w = w' :=
  (isDigit_nat n (by omega) w).mono fun e w' ⟨h, hw⟩ => ⟨by rw [h, decide_eq_true ⟨h1, h2⟩], hw⟩
theorem isDigit_no (n : Nat) (hn : n < 256) (h1 : n < 48 ∨ 57 < n) (w : World) : Calls Tryd.prog 46 #[.int .u8 n] w fun e w' => e = .returned (.bool false) ∧ w = w' :=
  (isDigit_nat n hn w).mono fun e w' ⟨h, hw⟩ => ⟨by rw [h, decide_eq_false (by omega)], hw⟩

theorem esc_cons (c : UInt8) (r : Bs) : esc (c :: r) =
    if c = 10 then some ([], 1)
    else if c = 48 then (match r with
      | d :: _ => if 48 ≤ d.toNat ∧ d.toNat ≤ 57 then none else some ([0], 1)
      | [] => some ([0], 1))
    else if c = 120 then (if r.length < 2 then none else match hexGo 0 (r.take 2) with
      | some n => some ([n], 3)
      | none => none)
    else if c = 117 then (if r.length < 4 then none else match hexGo 0 (r.take 4) with
      | some n => some ([n], 5)
      | none => none)
    else match simpleV c with
      | some n => some ([n], 1)
      | none => none := rfl
/-- a hexadecimal escape: what readHex answers is this unit -/
theorem hexUnit_esc (q c : UInt8) (r : Bs) (d : Nat) : hexUnit (q :: c :: r) d = unitV (match (if r.length < d then none else match hexGo 0 (r.take d) with
      | some n => some ([n], d + 1)
      | none => none : Option (List Nat × Nat)) with
  | some (l, n) => some (l, n + 1)
  | none => none) := by
  unfold hexUnit
  simp only [List.length_cons, List.drop_succ_cons, List.drop_zero]
  by_cases h : r.length < d
  · rw [if_pos (by omega), if_pos h]
    rfl
  · rw [if_neg (by omega), if_neg h]
    cases hexGo 0 (r.take d) with
    | none => rfl
    | some n => simp only [unitV]; rw [show ((2 + d : Nat) : Int) = ((d + 1 + 1 : Nat) : Int) by omega]

theorem unitV_pair (o : Option (List Nat × Nat)) : ∃ a b : Int, unitV o = .tuple #[.int .i64 a, .int .i64 b] := by
  rcases o with _ | ⟨_ | ⟨x, l⟩, n⟩
  · exact ⟨0, 0, rfl⟩
  · exact ⟨-1, n, rfl⟩
  · exact ⟨x, n, rfl⟩
theorem simpleV_nat (c : UInt8) (n : Nat) (hn : c.toNat = n) : simpleV c =
    if n = 110 then some 10 else if n = 116 then some 9 else if n = 114 then some 13 else if n = 98 then some 8 else if n = 102 then some 12 else if n = 118 then some 11
    else if 127 < n ∨ n = 13 ∨ n = 120 ∨ n = 117 ∨ (48 ≤ n ∧ n ≤ 57) ∨ n = 10 then none else some n := by
  subst hn
  unfold simpleV
  have e : ∀ k : UInt8, (c = k) = (c.toNat = k.toNat) := fun k => propext ⟨fun h => h ▸ rfl, fun h => UInt8.toNat_inj.1 h⟩
  simp only [e]
  rfl
theorem byte_ne {c k : UInt8} (h : ¬ c.toNat = k.toNat) : ¬ c = k := fun e => h (e ▸ rfl)
theorem esc_none (c : UInt8) (r : Bs) (h : (49 ≤ c.toNat ∧ c.toNat ≤ 57) ∨ 127 < c.toNat) : esc (c :: r) = none := by
  have ne : ∀ k : UInt8, ¬ c.toNat = k.toNat → ¬ c = k := fun k hk => byte_ne hk
  rw [esc_cons, if_neg (ne 10 (by simp; omega)), if_neg (ne 48 (by simp; omega)), if_neg (ne 120 (by simp; omega)), if_neg (ne 117 (by simp; omega)), simpleV_nat c _ rfl]
  rw [if_neg (by omega), if_neg (by omega), if_neg (by omega), if_neg (by omega), if_neg (by omega), if_neg (by omega), if_pos (by omega)]
theorem esc_plain (c : UInt8) (r : Bs) (n : Nat) (hn : c.toNat = n) (h : ¬ n = 120 ∧ ¬ n = 117 ∧ ¬ n = 10 ∧ (n < 48 ∨ 57 < n) ∧ ¬ n = 13 ∧ n ≤ 127 ∧ ¬ n = 98 ∧ ¬ n = 116 ∧ ¬ n = 110 ∧ ¬ n = 118 ∧ ¬ n = 102 ∧ ¬ n = 114) : esc (c :: r) = some ([n], 1) := by
  have ne : ∀ k : UInt8, ¬ c.toNat = k.toNat → ¬ c = k := fun k hk => byte_ne hk
  rw [esc_cons, if_neg (ne 10 (by simp; omega)), if_neg (ne 48 (by simp; omega)), if_neg (ne 120 (by simp; omega)), if_neg (ne 117 (by simp; omega)), simpleV_nat c _ hn]
  rw [if_neg (by omega), if_neg (by omega), if_neg (by omega), if_neg (by omega), if_neg (by omega), if_neg (by omega), if_neg (by omega)]
theorem named_all : ∀ n : Fin 256, (¬ n.val = 98 ∧ ¬ n.val = 116 ∧ ¬ n.val = 110 ∧ ¬ n.val = 118 ∧ ¬ n.val = 102 ∧ ¬ n.val = 114) → Lib.indexByte [98, 116, 110, 118, 102, 114] (UInt8.ofNat n.val) = -1 := by decide +kernel
theorem named_not (n : Nat) (hn : n < 256) (h : ¬ n = 98 ∧ ¬ n = 116 ∧ ¬ n = 110 ∧ ¬ n = 118 ∧ ¬ n = 102 ∧ ¬ n = 114) : Lib.indexByte [98, 116, 110, 118, 102, 114] (UInt8.ofNat n) = -1 := named_all ⟨n, hn⟩ h

set_option maxHeartbeats 2000000 in
theorem readEscape_any (s : ByteArray) (q c : UInt8) (r : Bs) (hl : s.data.toList = q :: c :: r) (w : World) (hs : s.size ≤ 33554432) (hE : ErrAt w) :
    Calls Tryd.prog 41 #[.string s] w fun e w' => e = .returned (unitV (esc1 (c :: r))) ∧ Below w.heap.size w w' := by
  have hz : s.size = r.length + 2 := by rw [← size_list, hl]; simp
  have hsz : 2 ≤ s.size := by omega
  have HE := Lib.hid hE
  have HX := Lib.hid fun D d hD hd w hE => readHex_any s D d hD hd w hs hE
  have ix : ∀ (k : Nat) (x : UInt8) (w : World), s.data.toList[k]? = some x → (Instr.index 9 (.string s) (.int .i64 (k : Int))).run Tryd.prog w = .ok (.int .u8 ((x.toNat : Nat) : Int)) w := by
    intro k x w hk
    have hk2 : k < s.size := by rw [← size_list]; exact (List.getElem?_eq_some_iff.1 hk).1
    rw [run_index_string w 9 s .i64 k Tryd.underlying9, dif_pos ⟨by omega, by omega⟩]
    congr 2
    rw [List.getElem?_eq_getElem (by rw [size_list]; exact hk2)] at hk
    have hk3 : s.data.toList[k]'(by rw [size_list]; exact hk2) = x := Option.some.inj hk
    rw [← hk3]
    rfl
  obtain ⟨n, hn, hcn⟩ : ∃ n : Nat, c.toNat = n ∧ c = UInt8.ofNat n := ⟨c.toNat, rfl, by simp⟩
  have hn256 : n < 256 := by rw [← hn]; exact c.toNat_lt
  have i1 : ∀ w, (Instr.index 9 (.string s) (.int .i64 1)).run Tryd.prog w = .ok (.int .u8 (n : Int)) w := fun w => by
    have := ix 1 c w (by rw [hl]; rfl)
    rw [hn] at this
    exact this
  rw [hl] at HX
  have HI := Lib.hid ix
  have HL := Lib.hid hl
  have HN := Lib.hid hn
  have HC := Lib.hid hcn
  clear ix hl hE hs hn hcn
  have hcase : n = 120 ∨ n = 117 ∨ n = 10 ∨ n = 48 ∨ (49 ≤ n ∧ n ≤ 57) ∨ n = 13 ∨ 127 < n ∨ (n = 98 ∨ n = 116 ∨ n = 110 ∨ n = 118 ∨ n = 102 ∨ n = 114) ∨
      (¬ n = 120 ∧ ¬ n = 117 ∧ ¬ n = 10 ∧ (n < 48 ∨ 57 < n) ∧ ¬ n = 13 ∧ n ≤ 127 ∧ ¬ n = 98 ∧ ¬ n = 116 ∧ ¬ n = 110 ∧ ¬ n = 118 ∧ ¬ n = 102 ∧ ¬ n = 114) := by omega
  rcases hcase with rfl | rfl | rfl | rfl | ⟨h1, h2⟩ | rfl | h1 | h1 | ⟨g1, g2, g3, g4, g5, g6, g7, g8, g9, g10, g11, g12⟩
  · obtain ⟨a, b, hab⟩ := unitV_pair (esc1 (c :: r))
    have HX2 : Hid (∀ w, ErrAt w → Calls Tryd.prog 45 #[.string s, .int .i64 2] w fun e w' => e = .returned (.tuple #[.int .i64 a, .int .i64 b]) ∧ Below w.heap.size w w') := fun w h => by
      have h1 := HX.out 2 2 rfl (by decide) w h
      rw [hexUnit_esc] at h1
      rw [← hab, HC.out]
      exact h1
    have HAB := Lib.hid hab
    clear hab HX
    go_enter Tryd.func41, Tryd.ntmps41
    go_wp2_with (go_at_call 45; refine (HX2.out _ HE.out).mono ?_; rintro e w' ⟨rfl, hb⟩)
    go_ret2
    exact ⟨by rw [HAB.out]; rfl, hb⟩
  · obtain ⟨a, b, hab⟩ := unitV_pair (esc1 (c :: r))
    have HX2 : Hid (∀ w, ErrAt w → Calls Tryd.prog 45 #[.string s, .int .i64 4] w fun e w' => e = .returned (.tuple #[.int .i64 a, .int .i64 b]) ∧ Below w.heap.size w w') := fun w h => by
      have h1 := HX.out 4 4 rfl (by decide) w h
      rw [hexUnit_esc] at h1
      rw [← hab, HC.out]
      exact h1
    have HAB := Lib.hid hab
    clear hab HX
    go_enter Tryd.func41, Tryd.ntmps41
    go_wp2_with (go_at_call 45; refine (HX2.out _ HE.out).mono ?_; rintro e w' ⟨rfl, hb⟩)
    go_ret2
    exact ⟨by rw [HAB.out]; rfl, hb⟩
  · go_enter Tryd.func41, Tryd.ntmps41
    go_wp2
    go_ret2
    exact ⟨by rw [HC.out]; rfl, Below.refl _ _⟩
  · -- the digit 0: what stands behind it decides
    have b48 : ((48 : Int) == 120) = false := rfl
    cases r with
    | nil =>
      have hz2 : s.size = 2 := hz
      go_enter Tryd.func41, Tryd.ntmps41
      go_wp2
      go_ret2
      exact ⟨by rw [HC.out]; rfl, Below.refl _ _⟩
    | cons d t =>
      have hz2 : s.size = t.length + 3 := hz
      have i2 : ∀ w, (Instr.index 9 (.string s) (.int .i64 2)).run Tryd.prog w = .ok (.int .u8 ((d.toNat : Nat) : Int)) w := fun w => HI.out 2 d w (by rw [HL.out]; rfl)
      by_cases hd : 48 ≤ d.toNat ∧ d.toNat ≤ 57
      · have HD := Lib.hid (isDigit_yes d.toNat hd.1 hd.2)
        have HV : Hid (esc1 (c :: d :: t) = none) := by
          show esc1 (c :: d :: t) = none
          rw [HC.out]
          unfold esc1
          rw [esc_cons, if_neg (by decide), if_pos (by decide)]
          simp only
          rw [if_pos hd]
        clear hd
        go_enter Tryd.func41, Tryd.ntmps41
        go_wp2_with (go_at_call 46; first | (refine (HD.out _).mono ?_; rintro e w' ⟨rfl, rfl⟩) | (refine (isDigit_yes 48 (by decide) (by decide) _).mono ?_; rintro e w' ⟨rfl, rfl⟩))
        go_ret2
        exact ⟨by rw [HV.out]; rfl, Below.refl _ _⟩
      · have HD := Lib.hid (isDigit_no d.toNat d.toNat_lt (by omega))
        have HV : Hid (esc1 (c :: d :: t) = some ([0], 2)) := by
          show esc1 (c :: d :: t) = _
          rw [HC.out]
          unfold esc1
          rw [esc_cons, if_neg (by decide), if_pos (by decide)]
          simp only
          rw [if_neg hd]
        clear hd
        go_enter Tryd.func41, Tryd.ntmps41
        go_wp2_with (go_at_call 46; refine (HD.out _).mono ?_; rintro e w' ⟨rfl, rfl⟩)
        go_ret2
        exact ⟨by rw [HV.out]; rfl, Below.refl _ _⟩
  · have HD := Lib.hid (isDigit_yes n (by omega) h2)
    have HV : Hid (esc1 (c :: r) = none) := by
      show esc1 (c :: r) = none
      unfold esc1
      rw [esc_none c r (by rw [HN.out]; omega)]
    go_enter Tryd.func41, Tryd.ntmps41
    go_wp2_with (go_at_call 46; refine (HD.out _).mono ?_; rintro e w' ⟨rfl, rfl⟩)
    go_ret2
    exact ⟨by rw [HV.out]; rfl, Below.refl _ _⟩
  · go_enter Tryd.func41, Tryd.ntmps41
    go_wp2_with (go_at_call 46; refine (isDigit_no 13 (by decide) (by decide) _).mono ?_; rintro e w' ⟨rfl, rfl⟩)
    go_ret2
    exact ⟨by rw [HC.out]; rfl, Below.refl _ _⟩
  · have HD := Lib.hid (isDigit_no n hn256 (by omega))
    have HV : Hid (esc1 (c :: r) = none) := by
      show esc1 (c :: r) = none
      unfold esc1
      rw [esc_none c r (by rw [HN.out]; omega)]
    go_enter Tryd.func41, Tryd.ntmps41
    go_wp2_with (go_at_call 46; refine (HD.out _).mono ?_; rintro e w' ⟨rfl, rfl⟩)
    go_ret2
    exact ⟨by rw [HV.out]; rfl, Below.refl _ _⟩
  · rcases h1 with rfl | rfl | rfl | rfl | rfl | rfl
    · go_enter Tryd.func41, Tryd.ntmps41
      go_wp2_with (first | (go_at_call 46; refine (isDigit_no 98 (by decide) (by decide) _).mono ?_; rintro e w' ⟨rfl, rfl⟩) | (go_at_call 47; refine (named_any 98 0 _ (by decide +kernel)).mono ?_; rintro e w' ⟨rfl, rfl⟩))
      go_ret2
      exact ⟨by rw [HC.out]; rfl, Below.refl _ _⟩
    · go_enter Tryd.func41, Tryd.ntmps41
      go_wp2_with (first | (go_at_call 46; refine (isDigit_no 116 (by decide) (by decide) _).mono ?_; rintro e w' ⟨rfl, rfl⟩) | (go_at_call 47; refine (named_any 116 1 _ (by decide +kernel)).mono ?_; rintro e w' ⟨rfl, rfl⟩))
      go_ret2
      exact ⟨by rw [HC.out]; rfl, Below.refl _ _⟩
    · go_enter Tryd.func41, Tryd.ntmps41
      go_wp2_with (first | (go_at_call 46; refine (isDigit_no 110 (by decide) (by decide) _).mono ?_; rintro e w' ⟨rfl, rfl⟩) | (go_at_call 47; refine (named_any 110 2 _ (by decide +kernel)).mono ?_; rintro e w' ⟨rfl, rfl⟩))
      go_ret2
      exact ⟨by rw [HC.out]; rfl, Below.refl _ _⟩
    · go_enter Tryd.func41, Tryd.ntmps41
      go_wp2_with (first | (go_at_call 46; refine (isDigit_no 118 (by decide) (by decide) _).mono ?_; rintro e w' ⟨rfl, rfl⟩) | (go_at_call 47; refine (named_any 118 3 _ (by decide +kernel)).mono ?_; rintro e w' ⟨rfl, rfl⟩))
      go_ret2
      exact ⟨by rw [HC.out]; rfl, Below.refl _ _⟩
    · go_enter Tryd.func41, Tryd.ntmps41
      go_wp2_with (first | (go_at_call 46; refine (isDigit_no 102 (by decide) (by decide) _).mono ?_; rintro e w' ⟨rfl, rfl⟩) | (go_at_call 47; refine (named_any 102 4 _ (by decide +kernel)).mono ?_; rintro e w' ⟨rfl, rfl⟩))
      go_ret2
      exact ⟨by rw [HC.out]; rfl, Below.refl _ _⟩
    · go_enter Tryd.func41, Tryd.ntmps41
      go_wp2_with (first | (go_at_call 46; refine (isDigit_no 114 (by decide) (by decide) _).mono ?_; rintro e w' ⟨rfl, rfl⟩) | (go_at_call 47; refine (named_any 114 5 _ (by decide +kernel)).mono ?_; rintro e w' ⟨rfl, rfl⟩))
      go_ret2
      exact ⟨by rw [HC.out]; rfl, Below.refl _ _⟩
  · have HD := Lib.hid (isDigit_no n hn256 g4)
    have b : ∀ m : Int, ¬ (n : Int) = m → ((n : Int) == m) = false := fun m hm => by rw [beq_eq_false_iff_ne]; exact hm
    have b1 := b 120 (by omega)
    have b2 := b 117 (by omega)
    have b3 := b 10 (by omega)
    have b4 := b 48 (by omega)
    have b5 := b 13 (by omega)
    have HI2 := Lib.hid (named_not n hn256 (by omega))
    have HV : Hid (esc1 (c :: r) = some ([n], 2)) := by
      show esc1 (c :: r) = _
      unfold esc1
      rw [esc_plain c r n HN.out (by omega)]
    clear b g1 g2 g3 g4 g5 g7 g8 g9 g10 g11 g12
    go_enter Tryd.func41, Tryd.ntmps41
    go_wp2_with (first | (go_at_call 46; refine (HD.out _).mono ?_; rintro e w' ⟨rfl, rfl⟩) | (go_at_call 47; refine (named_any n (-1) _ HI2.out).mono ?_; rintro e w' ⟨rfl, rfl⟩))
    go_ret2
    exact ⟨by rw [HV.out]; rfl, Below.refl _ _⟩

theorem unit1_cons (c : UInt8) (r : Bs) : unit1 (c :: r) = if c = 92 then esc1 r else if c = 10 ∨ c = 13 ∨ 127 < c.toNat then none else some ([c.toNat], 1) := rfl
theorem readUnit_any (s : ByteArray) (c : UInt8) (r : Bs) (hl : s.data.toList = c :: r) (w : World) (hs : s.size ≤ 33554432) (hE : ErrAt w) :
    Calls Tryd.prog 36 #[.string s] w fun e w' => e = .returned (unitV (unit1 (c :: r))) ∧ Below w.heap.size w w' := by
  have hz : s.size = r.length + 1 := by rw [← size_list, hl]; simp
  have HE := Lib.hid hE
  obtain ⟨n, hn, hcn⟩ : ∃ n : Nat, c.toNat = n ∧ c = UInt8.ofNat n := ⟨c.toNat, rfl, by simp⟩
  have hn256 : n < 256 := by rw [← hn]; exact c.toNat_lt
  have i0 : ∀ w, (Instr.index 9 (.string s) (.int .i64 0)).run Tryd.prog w = .ok (.int .u8 (n : Int)) w := fun w => by
    rw [run_index_string w 9 s .i64 0 Tryd.underlying9, dif_pos ⟨by omega, by omega⟩]
    congr 2
    rw [← hn]
    have : s.data.toList[0]'(by rw [hl]; simp) = c := by simp [hl]
    rw [← this]
    rfl
  have ne : ∀ k : UInt8, ¬ n = k.toNat → ¬ c = k := fun k hk => byte_ne (by rw [hn]; exact hk)
  have HN := Lib.hid hn
  have HC := Lib.hid hcn
  have hcase : n = 92 ∨ n = 10 ∨ n = 13 ∨ 127 < n ∨ (¬ n = 92 ∧ ¬ n = 10 ∧ ¬ n = 13 ∧ n ≤ 127) := by omega
  have HNE := Lib.hid ne
  clear hn hcn ne hE
  rcases hcase with rfl | rfl | rfl | h1 | ⟨h1, h2, h3, h4⟩
  · have HV : Hid (unit1 (c :: r) = esc1 r) := by
      show unit1 (c :: r) = esc1 r
      rw [unit1_cons, HC.out]
      rfl
    rw [HV.out]
    cases r with
    | nil =>
      have hz1 : s.size = 1 := hz
      have HR : Hid (∀ w, Calls Tryd.prog 41 #[.string s] w fun e w' => e = .returned (.tuple #[.int .i64 0, .int .i64 0]) ∧ w = w') := fun w => by
        go_enter Tryd.func41, Tryd.ntmps41
        go_wp2
        go_ret2
        exact ⟨rfl, rfl⟩
      go_enter Tryd.func36, Tryd.ntmps36
      go_wp2_with (go_at_call 41; refine (HR.out _).mono ?_; rintro e w' ⟨rfl, rfl⟩)
      go_ret2
      exact ⟨rfl, Below.refl _ _⟩
    | cons d t =>
      have HR := Lib.hid fun w h => readEscape_any s c d t hl w hs h
      obtain ⟨a, b, hab⟩ := unitV_pair (esc1 (d :: t))
      rw [hab] at HR ⊢
      clear hab hl HV hs
      go_enter Tryd.func36, Tryd.ntmps36
      go_wp2_with (go_at_call 41; refine (HR.out _ HE.out).mono ?_; rintro e w' ⟨rfl, hb⟩)
      go_ret2
      exact ⟨rfl, hb⟩
  · go_enter Tryd.func36, Tryd.ntmps36
    go_wp2
    go_ret2
    exact ⟨by rw [HC.out]; rfl, Below.refl _ _⟩
  · go_enter Tryd.func36, Tryd.ntmps36
    go_wp2
    go_ret2
    exact ⟨by rw [HC.out]; rfl, Below.refl _ _⟩
  · have HV : Hid (unit1 (c :: r) = none) := by
      show unit1 (c :: r) = none
      rw [unit1_cons, if_neg (HNE.out 92 (by simp; omega)), if_pos (by rw [HN.out]; omega)]
    have b1 : ((n : Int) == 92) = false := by rw [beq_eq_false_iff_ne]; omega
    have b2 : ((n : Int) == 10) = false := by rw [beq_eq_false_iff_ne]; omega
    have b3 : ((n : Int) == 13) = false := by rw [beq_eq_false_iff_ne]; omega
    clear hl
    go_enter Tryd.func36, Tryd.ntmps36
    go_wp2
    go_ret2
    exact ⟨by rw [HV.out]; rfl, Below.refl _ _⟩
  · have HV : Hid (unit1 (c :: r) = some ([n], 1)) := by
      show unit1 (c :: r) = _
      have e10 := HNE.out 10 (by simp; omega)
      have e13 := HNE.out 13 (by simp; omega)
      rw [unit1_cons, if_neg (HNE.out 92 (by simp; omega)), if_neg (by rw [HN.out]; intro h; rcases h with h | h | h; exact e10 h; exact e13 h; omega), HN.out]
    have b1 : ((n : Int) == 92) = false := by rw [beq_eq_false_iff_ne]; omega
    have b2 : ((n : Int) == 10) = false := by rw [beq_eq_false_iff_ne]; omega
    have b3 : ((n : Int) == 13) = false := by rw [beq_eq_false_iff_ne]; omega
    clear hl h1 h2 h3
    go_enter Tryd.func36, Tryd.ntmps36
    go_wp2
    go_ret2
    exact ⟨by rw [HV.out]; rfl, Below.refl _ _⟩
end Go.Proofs.YtjbcihjeohpgmaaDoor
