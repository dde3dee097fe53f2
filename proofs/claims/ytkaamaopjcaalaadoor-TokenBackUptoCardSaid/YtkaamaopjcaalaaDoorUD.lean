/-
  Laid by wip/prune.py out of wip/units: I J K.
-/
import Derived.Test.YtkaamaopjcaalaaDoorUC
namespace Go.Proofs.YtkaamaopjcaalaaDoor
open Go.RowKit

/-- the library's variable ErrSyntax can be read -/
def ErrAt (w : World) : Prop := ∃ ev, w.cell? ⟨1, 0, none⟩ = some ev ∧ (ev = .nilIface ∨ ∃ te pe, ev = .iface te pe)
theorem ErrAt.below {w w' : World} (h : ErrAt w) (hb : Below w.heap.size w w') : ErrAt w' := by
  obtain ⟨ev, h1, h2⟩ := h
  exact ⟨ev, (hb.cell (World.block_lt_of_cell? w _ h1)).trans h1, h2⟩
set_option maxRecDepth 8000 in
theorem pub_ok (t : ByteArray) (n : Nat) (h : hexGo 0 t.data.toList = some n) (hne : 0 < t.size) (hmax : t.size ≤ 4) (w : World) :
    Calls Tryd.prog 56 #[.string t, .int .i64 16, .int .i64 16] w fun e w' => e = .returned (.tuple #[.int .u64 n, .nilIface]) ∧ Below w.heap.size w w' := by
  have HP : Hid (∀ w, Calls Tryd.prog 69 #[.string t, .int .i64 16, .int .i64 16] w fun e w' => e = .returned (.tuple #[.int .u64 n, .nilIface]) ∧ Below w.heap.size w w') := fun w => by
    have := parse_any t hne hmax w
    rw [h] at this
    exact this
  clear h
  go_enter Tryd.func56, Tryd.ntmps56
  go_wp2_with (go_at_call 69; refine (HP.out _).mono ?_; rintro e w' ⟨rfl, hb⟩)
  go_ret2
  exact ⟨rfl, hb⟩
set_option maxRecDepth 8000 in
theorem pub_no (t : ByteArray) (h : hexGo 0 t.data.toList = none) (hne : 0 < t.size) (hmax : t.size ≤ 4) (w : World) (hE : ErrAt w) :
    Calls Tryd.prog 56 #[.string t, .int .i64 16, .int .i64 16] w fun e w' => ∃ N, e = .returned (.tuple #[.int .u64 0, .iface 91 (.pointer (some ⟨N, 0, none⟩))]) ∧ Below w.heap.size w w' := by
  have HP : Hid (∀ w, Calls Tryd.prog 69 #[.string t, .int .i64 16, .int .i64 16] w fun e w' => e = .returned (.tuple #[.int .u64 0, .iface 89 (.int .i64 2)]) ∧ Below w.heap.size w w') := fun w => by
    have := parse_any t hne hmax w
    rw [h] at this
    exact this
  clear h
  have HE := Lib.hid hE
  clear hE
  go_enter Tryd.func56, Tryd.ntmps56
  go_wp2_with fail
  refine (HP.out _).mono ?_
  rintro e w1 ⟨rfl, hb⟩
  obtain ⟨ev, hv, hev⟩ := HE.out.below hb
  have HV := Lib.hid hv
  have HV2 := Lib.hid hev
  clear hv hev HE
  go_wp2_with fail
  refine (Tryd.strconv_toError_syntax _ t 16 16 ev _ (by omega) HV.out HV2.out).mono ?_
  rintro e w2 ⟨N, rfl, _, _, hb2⟩
  go_wp2
  go_ret2
  exact ⟨N, rfl, hb.trans (hb2.mono hb.size)⟩
theorem hexGo_lt : ∀ (l : Bs) (acc n : Nat), hexGo acc l = some n → n < (acc + 1) * 16 ^ l.length
  | [], acc, n, h => by simp only [hexGo, Option.some.injEq] at h; subst h; simp
  | c :: r, acc, n, h => by
    rw [hexGo_cons] at h
    cases hv : hexV c with
    | none => rw [hv] at h; cases h
    | some d =>
      rw [hv] at h
      have h1 := hexGo_lt r (16 * acc + d) n h
      have hd := hexV_lt hv
      have h2 : (16 * acc + d + 1) * 16 ^ r.length ≤ ((acc + 1) * 16) * 16 ^ r.length := Nat.mul_le_mul_right _ (by omega)
      rw [List.length_cons, Nat.pow_succ, Nat.mul_comm (16 ^ r.length) 16, ← Nat.mul_assoc]
      omega
/-- what readHex answers -/
def hexUnit (l : Bs) (d : Nat) : Value :=
  if l.length < 2 + d then .tuple #[.int .i64 0, .int .i64 0] else match hexGo 0 ((l.drop 2).take d) with
  | some n => .tuple #[.int .i64 n, .int .i64 ((2 + d : Nat) : Int)]
  | none => .tuple #[.int .i64 0, .int .i64 0]
theorem hexUnit_short {l : Bs} {d : Nat} (h : l.length < 2 + d) : hexUnit l d = .tuple #[.int .i64 0, .int .i64 0] := if_pos h
theorem hexUnit_long {l : Bs} {d : Nat} (h : ¬ l.length < 2 + d) : hexUnit l d = match hexGo 0 ((l.drop 2).take d) with
  | some n => .tuple #[.int .i64 n, .int .i64 ((2 + d : Nat) : Int)]
  | none => .tuple #[.int .i64 0, .int .i64 0] := if_neg h
set_option maxRecDepth 8000 in
theorem readHex_any (s : ByteArray) (D : Int) (d : Nat) (hD : D = (d : Int)) (hd : d = 2 ∨ d = 4) (w : World) (_hs : s.size ≤ 33554432) (hE : ErrAt w) :
    Calls Tryd.prog 89 #[.string s, .int .i64 D] w fun e w' => e = .returned (hexUnit s.data.toList d) ∧ Below w.heap.size w w' := by
  subst hD
  have HE := Lib.hid hE
  clear hE
  have hd1 : 2 ≤ d := by omega
  have hd2 : d ≤ 4 := by omega
  have HD := Lib.hid hd
  clear hd
  have e1 : IntKind.i64.wrap (2 + (d : Int)) = 2 + (d : Int) := IntWalk.i64_in _ (by omega)
  by_cases hl : s.size < 2 + d
  · have HU := Lib.hid (hexUnit_short (l := s.data.toList) (d := d) (by rw [size_list]; exact hl))
    go_enter Tryd.func89, Tryd.ntmps89
    go_wp2
    go_ret2
    exact ⟨by rw [HU.out]; rfl, Below.refl _ _⟩
  · have HU := Lib.hid (hexUnit_long (l := s.data.toList) (d := d) (by rw [size_list]; exact hl))
    have hx : (s.extract 2 (2 + d)).size = d := by rw [ByteArray.size_extract]; omega
    have hxl : (s.extract 2 (2 + d)).data.toList = (s.data.toList.drop 2).take d := by simp
    have hsl := run_slice_string (P := Tryd.prog) w 9 s .i64 .i64 2 (2 + (d : Int)) Tryd.underlying9 (by omega) (by omega) (by omega)
    rw [show (2 + (d : Int)).toNat = 2 + d by omega, show (2 : Int).toNat = 2 from rfl] at hsl
    rw [← hxl] at HU
    have HX := Lib.hid hx
    clear hx hxl
    generalize s.extract 2 (2 + d) = t at *
    cases hg : hexGo 0 t.data.toList with
    | none =>
      rw [hg] at HU
      have HG := Lib.hid hg
      clear hg
      go_enter Tryd.func89, Tryd.ntmps89
      go_wp2_with (go_at_call 56; refine (pub_no t HG.out (by rw [HX.out]; omega) (by rw [HX.out]; omega) _ HE.out).mono ?_; rintro e w' ⟨N, rfl, hb⟩)
      go_ret2
      exact ⟨by rw [HU.out]; rfl, hb⟩
    | some n =>
      rw [hg] at HU
      have hn := hexGo_lt _ _ _ hg
      have HG := Lib.hid hg
      have hn2 : n < 65536 := by
        rw [size_list, HX.out] at hn
        rcases HD.out with rfl | rfl <;> omega
      clear hg hn
      go_enter Tryd.func89, Tryd.ntmps89
      go_wp2_with (go_at_call 56; refine (pub_ok t n HG.out (by rw [HX.out]; omega) (by rw [HX.out]; omega) _).mono ?_; rintro e w' ⟨rfl, hb⟩)
      go_ret2
      exact ⟨by rw [HU.out]; rfl, hb⟩
/-- how a unit that was read is answered -/
def unitV (o : Option (List Nat × Nat)) : Value := match o with
  | none => .tuple #[.int .i64 0, .int .i64 0]
  | some ([], n) => .tuple #[.int .i64 (-1), .int .i64 n]
  | some (x :: _, n) => .tuple #[.int .i64 x, .int .i64 n]
def esc1 (r : Bs) : Option (List Nat × Nat) := match esc r with
  | some (l, n) => some (l, n + 1)
  | none => none
theorem named_any (n : Nat) (i : Int) (w : World) (h : Lib.indexByte [98, 116, 110, 118, 102, 114] (UInt8.ofNat n) = i) :
    Calls Tryd.prog 48 #[.string ⟨#[98, 116, 110, 118, 102, 114]⟩, .int .u8 n] w fun e w' => e = .returned (.int .i64 i) ∧ w = w' := by
  subst h
  refine (Tryd.strings_IndexByte ⟨#[98, 116, 110, 118, 102, 114]⟩ n w).mono fun e w' ⟨h1, h2⟩ => ⟨h1.trans ?_, h2.symm⟩
  rfl
theorem isDigit_nat (n : Nat) (hn : n < 256) (w : World) :
    Calls Tryd.prog 90 #[.int .u8 n] w fun e w' => e = .returned (.bool (decide (48 ≤ n ∧ n ≤ 57))) ∧ w = w' := by
  have h := isDigit_any (UInt8.ofNat n) w
  rw [UInt8.toNat_ofNat', Nat.mod_eq_of_lt (by omega)] at h
  exact h
theorem isDigit_yes (n : Nat) (h1 : 48 ≤ n) (h2 : n ≤ 57) (w : World) : Calls Tryd.prog 90 #[.int .u8 n] w fun e w' => e = .returned (.bool true) ∧ w = w' :=
  (isDigit_nat n (by omega) w).mono fun e w' ⟨h, hw⟩ => ⟨by rw [h, decide_eq_true ⟨h1, h2⟩], hw⟩
theorem isDigit_no (n : Nat) (hn : n < 256) (h1 : n < 48 ∨ 57 < n) (w : World) : Calls Tryd.prog 90 #[.int .u8 n] w fun e w' => e = .returned (.bool false) ∧ w = w' :=
  (isDigit_nat n hn w).mono fun e w' ⟨h, hw⟩ => ⟨by rw [h, decide_eq_false (by omega)], hw⟩
theorem esc_cons (c : UInt8) (r : Bs) : esc (c :: r) =
    if c = 10 then some ([], 1)
    else if c = 48 then (match r with
      | d :: _ => if 48 ≤ d.toNat ∧ d.toNat ≤ 57 then none else some ([0], 1)
      | [] => some ([0], 1))
    else if c = 120 then (if r.length < 2 then none else match hexGo 0 (r.take 2) with
      | some n => some ([n], 3)
      | none => none)
    else if c = 117 then (if r.length < 4 then none else match hexGo 0 (r.take 4) with
      | some n => some ([n], 5)
      | none => none)
    else match simpleV c with
      | some n => some ([n], 1)
      | none => none := rfl
/-- a hexadecimal escape: what readHex answers is this unit -/
theorem hexUnit_esc (q c : UInt8) (r : Bs) (d : Nat) : hexUnit (q :: c :: r) d = unitV (match (if r.length < d then none else match hexGo 0 (r.take d) with
      | some n => some ([n], d + 1)
      | none => none : Option (List Nat × Nat)) with
  | some (l, n) => some (l, n + 1)
  | none => none) := by
  unfold hexUnit
  simp only [List.length_cons, List.drop_succ_cons, List.drop_zero]
  by_cases h : r.length < d
  · rw [if_pos (by omega), if_pos h]
    rfl
  · rw [if_neg (by omega), if_neg h]
    cases hexGo 0 (r.take d) with
    | none => rfl
    | some n => simp only [unitV]; rw [show ((2 + d : Nat) : Int) = ((d + 1 + 1 : Nat) : Int) by omega]
theorem unitV_pair (o : Option (List Nat × Nat)) : ∃ a b : Int, unitV o = .tuple #[.int .i64 a, .int .i64 b] := by
  rcases o with _ | ⟨_ | ⟨x, l⟩, n⟩
  · exact ⟨0, 0, rfl⟩
  · exact ⟨-1, n, rfl⟩
  · exact ⟨x, n, rfl⟩
theorem simpleV_nat (c : UInt8) (n : Nat) (hn : c.toNat = n) : simpleV c =
    if n = 110 then some 10 else if n = 116 then some 9 else if n = 114 then some 13 else if n = 98 then some 8 else if n = 102 then some 12 else if n = 118 then some 11
    else if 127 < n ∨ n = 13 ∨ n = 120 ∨ n = 117 ∨ (48 ≤ n ∧ n ≤ 57) ∨ n = 10 then none else some n := by
  subst hn
  unfold simpleV
  have e : ∀ k : UInt8, (c = k) = (c.toNat = k.toNat) := fun k => propext ⟨fun h => h ▸ rfl, fun h => UInt8.toNat_inj.1 h⟩
  simp only [e]
  rfl
theorem byte_ne {c k : UInt8} (h : ¬ c.toNat = k.toNat) : ¬ c = k := fun e => h (e ▸ rfl)
theorem esc_none (c : UInt8) (r : Bs) (h : (49 ≤ c.toNat ∧ c.toNat ≤ 57) ∨ 127 < c.toNat) : esc (c :: r) = none := by
  have ne : ∀ k : UInt8, ¬ c.toNat = k.toNat → ¬ c = k := fun k hk => byte_ne hk
  rw [esc_cons, if_neg (ne 10 (by simp; omega)), if_neg (ne 48 (by simp; omega)), if_neg (ne 120 (by simp; omega)), if_neg (ne 117 (by simp; omega)), simpleV_nat c _ rfl]
  rw [if_neg (by omega), if_neg (by omega), if_neg (by omega), if_neg (by omega), if_neg (by omega), if_neg (by omega), if_pos (by omega)]
theorem esc_plain (c : UInt8) (r : Bs) (n : Nat) (hn : c.toNat = n) (h : ¬ n = 120 ∧ ¬ n = 117 ∧ ¬ n = 10 ∧ (n < 48 ∨ 57 < n) ∧ ¬ n = 13 ∧ n ≤ 127 ∧ ¬ n = 98 ∧ ¬ n = 116 ∧ ¬ n = 110 ∧ ¬ n = 118 ∧ ¬ n = 102 ∧ ¬ n = 114) : esc (c :: r) = some ([n], 1) := by
  have ne : ∀ k : UInt8, ¬ c.toNat = k.toNat → ¬ c = k := fun k hk => byte_ne hk
  rw [esc_cons, if_neg (ne 10 (by simp; omega)), if_neg (ne 48 (by simp; omega)), if_neg (ne 120 (by simp; omega)), if_neg (ne 117 (by simp; omega)), simpleV_nat c _ hn]
  rw [if_neg (by omega), if_neg (by omega), if_neg (by omega), if_neg (by omega), if_neg (by omega), if_neg (by omega), if_neg (by omega)]
theorem named_all : ∀ n : Fin 256, (¬ n.val = 98 ∧ ¬ n.val = 116 ∧ ¬ n.val = 110 ∧ ¬ n.val = 118 ∧ ¬ n.val = 102 ∧ ¬ n.val = 114) → Lib.indexByte [98, 116, 110, 118, 102, 114] (UInt8.ofNat n.val) = -1 := by decide +kernel
theorem named_not (n : Nat) (hn : n < 256) (h : ¬ n = 98 ∧ ¬ n = 116 ∧ ¬ n = 110 ∧ ¬ n = 118 ∧ ¬ n = 102 ∧ ¬ n = 114) : Lib.indexByte [98, 116, 110, 118, 102, 114] (UInt8.ofNat n) = -1 := named_all ⟨n, hn⟩ h
set_option maxRecDepth 8000 in
set_option maxHeartbeats 2000000 in
theorem readEscape_any (s : ByteArray) (q c : UInt8) (r : Bs) (hl : s.data.toList = q :: c :: r) (w : World) (hs : s.size ≤ 33554432) (hE : ErrAt w) :
    Calls Tryd.prog 84 #[.string s] w fun e w' => e = .returned (unitV (esc1 (c :: r))) ∧ Below w.heap.size w w' := by
  have hz : s.size = r.length + 2 := by rw [← size_list, hl]; simp
  have hsz : 2 ≤ s.size := by omega
  have HE := Lib.hid hE
  have HX := Lib.hid fun D d hD hd w hE => readHex_any s D d hD hd w hs hE
  have ix : ∀ (k : Nat) (x : UInt8) (w : World), s.data.toList[k]? = some x → (Instr.index 9 (.string s) (.int .i64 (k : Int))).run Tryd.prog w = .ok (.int .u8 ((x.toNat : Nat) : Int)) w := by
    intro k x w hk
    have hk2 : k < s.size := by rw [← size_list]; exact (List.getElem?_eq_some_iff.1 hk).1
    rw [run_index_string w 9 s .i64 k Tryd.underlying9, dif_pos ⟨by omega, by omega⟩]
    congr 2
    rw [List.getElem?_eq_getElem (by rw [size_list]; exact hk2)] at hk
    have hk3 : s.data.toList[k]'(by rw [size_list]; exact hk2) = x := Option.some.inj hk
    rw [← hk3]
    rfl
  obtain ⟨n, hn, hcn⟩ : ∃ n : Nat, c.toNat = n ∧ c = UInt8.ofNat n := ⟨c.toNat, rfl, by simp⟩
  have hn256 : n < 256 := by rw [← hn]; exact c.toNat_lt
  have i1 : ∀ w, (Instr.index 9 (.string s) (.int .i64 1)).run Tryd.prog w = .ok (.int .u8 (n : Int)) w := fun w => by
    have := ix 1 c w (by rw [hl]; rfl)
    rw [hn] at this
    exact this
  rw [hl] at HX
  have HI := Lib.hid ix
  have HL := Lib.hid hl
  have HN := Lib.hid hn
  have HC := Lib.hid hcn
  clear ix hl hE hs hn hcn
  have hcase : n = 120 ∨ n = 117 ∨ n = 10 ∨ n = 48 ∨ (49 ≤ n ∧ n ≤ 57) ∨ n = 13 ∨ 127 < n ∨ (n = 98 ∨ n = 116 ∨ n = 110 ∨ n = 118 ∨ n = 102 ∨ n = 114) ∨
      (¬ n = 120 ∧ ¬ n = 117 ∧ ¬ n = 10 ∧ (n < 48 ∨ 57 < n) ∧ ¬ n = 13 ∧ n ≤ 127 ∧ ¬ n = 98 ∧ ¬ n = 116 ∧ ¬ n = 110 ∧ ¬ n = 118 ∧ ¬ n = 102 ∧ ¬ n = 114) := by omega
  rcases hcase with rfl | rfl | rfl | rfl | ⟨h1, h2⟩ | rfl | h1 | h1 | ⟨g1, g2, g3, g4, g5, g6, g7, g8, g9, g10, g11, g12⟩
  · obtain ⟨a, b, hab⟩ := unitV_pair (esc1 (c :: r))
    have HX2 : Hid (∀ w, ErrAt w → Calls Tryd.prog 89 #[.string s, .int .i64 2] w fun e w' => e = .returned (.tuple #[.int .i64 a, .int .i64 b]) ∧ Below w.heap.size w w') := fun w h => by
      have h1 := HX.out 2 2 rfl (by decide) w h
      rw [hexUnit_esc] at h1
      rw [← hab, HC.out]
      exact h1
    have HAB := Lib.hid hab
    clear hab HX
    go_enter Tryd.func84, Tryd.ntmps84
    go_wp2_with (go_at_call 89; refine (HX2.out _ HE.out).mono ?_; rintro e w' ⟨rfl, hb⟩)
    go_ret2
    exact ⟨by rw [HAB.out]; rfl, hb⟩
  · obtain ⟨a, b, hab⟩ := unitV_pair (esc1 (c :: r))
    have HX2 : Hid (∀ w, ErrAt w → Calls Tryd.prog 89 #[.string s, .int .i64 4] w fun e w' => e = .returned (.tuple #[.int .i64 a, .int .i64 b]) ∧ Below w.heap.size w w') := fun w h => by
      have h1 := HX.out 4 4 rfl (by decide) w h
      rw [hexUnit_esc] at h1
      rw [← hab, HC.out]
      exact h1
    have HAB := Lib.hid hab
    clear hab HX
    go_enter Tryd.func84, Tryd.ntmps84
    go_wp2_with (go_at_call 89; refine (HX2.out _ HE.out).mono ?_; rintro e w' ⟨rfl, hb⟩)
    go_ret2
    exact ⟨by rw [HAB.out]; rfl, hb⟩
  · go_enter Tryd.func84, Tryd.ntmps84
    go_wp2
    go_ret2
    exact ⟨by rw [HC.out]; rfl, Below.refl _ _⟩
  · -- the digit 0: what stands behind it decides
    have b48 : ((48 : Int) == 120) = false := rfl
    cases r with
    | nil =>
      have hz2 : s.size = 2 := hz
      go_enter Tryd.func84, Tryd.ntmps84
      go_wp2
      go_ret2
      exact ⟨by rw [HC.out]; rfl, Below.refl _ _⟩
    | cons d t =>
      have hz2 : s.size = t.length + 3 := hz
      have i2 : ∀ w, (Instr.index 9 (.string s) (.int .i64 2)).run Tryd.prog w = .ok (.int .u8 ((d.toNat : Nat) : Int)) w := fun w => HI.out 2 d w (by rw [HL.out]; rfl)
      by_cases hd : 48 ≤ d.toNat ∧ d.toNat ≤ 57
      · have HD := Lib.hid (isDigit_yes d.toNat hd.1 hd.2)
        have HV : Hid (esc1 (c :: d :: t) = none) := by
          show esc1 (c :: d :: t) = none
          rw [HC.out]
          unfold esc1
          rw [esc_cons, if_neg (by decide), if_pos (by decide)]
          simp only
          rw [if_pos hd]
        clear hd
        go_enter Tryd.func84, Tryd.ntmps84
        go_wp2_with (go_at_call 90; first | (refine (HD.out _).mono ?_; rintro e w' ⟨rfl, rfl⟩) | (refine (isDigit_yes 48 (by decide) (by decide) _).mono ?_; rintro e w' ⟨rfl, rfl⟩))
        go_ret2
        exact ⟨by rw [HV.out]; rfl, Below.refl _ _⟩
      · have HD := Lib.hid (isDigit_no d.toNat d.toNat_lt (by omega))
        have HV : Hid (esc1 (c :: d :: t) = some ([0], 2)) := by
          show esc1 (c :: d :: t) = _
          rw [HC.out]
          unfold esc1
          rw [esc_cons, if_neg (by decide), if_pos (by decide)]
          simp only
          rw [if_neg hd]
        clear hd
        go_enter Tryd.func84, Tryd.ntmps84
        go_wp2_with (go_at_call 90; refine (HD.out _).mono ?_; rintro e w' ⟨rfl, rfl⟩)
        go_ret2
        exact ⟨by rw [HV.out]; rfl, Below.refl _ _⟩
  · have HD := Lib.hid (isDigit_yes n (by omega) h2)
    have HV : Hid (esc1 (c :: r) = none) := by
      show esc1 (c :: r) = none
      unfold esc1
      rw [esc_none c r (by rw [HN.out]; omega)]
    go_enter Tryd.func84, Tryd.ntmps84
    go_wp2_with (go_at_call 90; refine (HD.out _).mono ?_; rintro e w' ⟨rfl, rfl⟩)
    go_ret2
    exact ⟨by rw [HV.out]; rfl, Below.refl _ _⟩
  · go_enter Tryd.func84, Tryd.ntmps84
    go_wp2_with (go_at_call 90; refine (isDigit_no 13 (by decide) (by decide) _).mono ?_; rintro e w' ⟨rfl, rfl⟩)
    go_ret2
    exact ⟨by rw [HC.out]; rfl, Below.refl _ _⟩
  · have HD := Lib.hid (isDigit_no n hn256 (by omega))
    have HV : Hid (esc1 (c :: r) = none) := by
      show esc1 (c :: r) = none
      unfold esc1
      rw [esc_none c r (by rw [HN.out]; omega)]
    go_enter Tryd.func84, Tryd.ntmps84
    go_wp2_with (go_at_call 90; refine (HD.out _).mono ?_; rintro e w' ⟨rfl, rfl⟩)
    go_ret2
    exact ⟨by rw [HV.out]; rfl, Below.refl _ _⟩
  · rcases h1 with rfl | rfl | rfl | rfl | rfl | rfl
    · go_enter Tryd.func84, Tryd.ntmps84
      go_wp2_with (first | (go_at_call 90; refine (isDigit_no 98 (by decide) (by decide) _).mono ?_; rintro e w' ⟨rfl, rfl⟩) | (go_at_call 48; refine (named_any 98 0 _ (by decide +kernel)).mono ?_; rintro e w' ⟨rfl, rfl⟩))
      go_ret2
      exact ⟨by rw [HC.out]; rfl, Below.refl _ _⟩
    · go_enter Tryd.func84, Tryd.ntmps84
      go_wp2_with (first | (go_at_call 90; refine (isDigit_no 116 (by decide) (by decide) _).mono ?_; rintro e w' ⟨rfl, rfl⟩) | (go_at_call 48; refine (named_any 116 1 _ (by decide +kernel)).mono ?_; rintro e w' ⟨rfl, rfl⟩))
      go_ret2
      exact ⟨by rw [HC.out]; rfl, Below.refl _ _⟩
    · go_enter Tryd.func84, Tryd.ntmps84
      go_wp2_with (first | (go_at_call 90; refine (isDigit_no 110 (by decide) (by decide) _).mono ?_; rintro e w' ⟨rfl, rfl⟩) | (go_at_call 48; refine (named_any 110 2 _ (by decide +kernel)).mono ?_; rintro e w' ⟨rfl, rfl⟩))
      go_ret2
      exact ⟨by rw [HC.out]; rfl, Below.refl _ _⟩
    · go_enter Tryd.func84, Tryd.ntmps84
      go_wp2_with (first | (go_at_call 90; refine (isDigit_no 118 (by decide) (by decide) _).mono ?_; rintro e w' ⟨rfl, rfl⟩) | (go_at_call 48; refine (named_any 118 3 _ (by decide +kernel)).mono ?_; rintro e w' ⟨rfl, rfl⟩))
      go_ret2
      exact ⟨by rw [HC.out]; rfl, Below.refl _ _⟩
    · go_enter Tryd.func84, Tryd.ntmps84
      go_wp2_with (first | (go_at_call 90; refine (isDigit_no 102 (by decide) (by decide) _).mono ?_; rintro e w' ⟨rfl, rfl⟩) | (go_at_call 48; refine (named_any 102 4 _ (by decide +kernel)).mono ?_; rintro e w' ⟨rfl, rfl⟩))
      go_ret2
      exact ⟨by rw [HC.out]; rfl, Below.refl _ _⟩
    · go_enter Tryd.func84, Tryd.ntmps84
      go_wp2_with (first | (go_at_call 90; refine (isDigit_no 114 (by decide) (by decide) _).mono ?_; rintro e w' ⟨rfl, rfl⟩) | (go_at_call 48; refine (named_any 114 5 _ (by decide +kernel)).mono ?_; rintro e w' ⟨rfl, rfl⟩))
      go_ret2
      exact ⟨by rw [HC.out]; rfl, Below.refl _ _⟩
  · have HD := Lib.hid (isDigit_no n hn256 g4)
    have b : ∀ m : Int, ¬ (n : Int) = m → ((n : Int) == m) = false := fun m hm => by rw [beq_eq_false_iff_ne]; exact hm
    have b1 := b 120 (by omega)
    have b2 := b 117 (by omega)
    have b3 := b 10 (by omega)
    have b4 := b 48 (by omega)
    have b5 := b 13 (by omega)
    have HI2 := Lib.hid (named_not n hn256 (by omega))
    have HV : Hid (esc1 (c :: r) = some ([n], 2)) := by
      show esc1 (c :: r) = _
      unfold esc1
      rw [esc_plain c r n HN.out (by omega)]
    clear b g1 g2 g3 g4 g5 g7 g8 g9 g10 g11 g12
    go_enter Tryd.func84, Tryd.ntmps84
    go_wp2_with (first | (go_at_call 90; refine (HD.out _).mono ?_; rintro e w' ⟨rfl, rfl⟩) | (go_at_call 48; refine (named_any n (-1) _ HI2.out).mono ?_; rintro e w' ⟨rfl, rfl⟩))
    go_ret2
    exact ⟨by rw [HV.out]; rfl, Below.refl _ _⟩
theorem unit1_cons (c : UInt8) (r : Bs) : unit1 (c :: r) = if c = 92 then esc1 r else if c = 10 ∨ c = 13 ∨ 127 < c.toNat then none else some ([c.toNat], 1) := rfl
set_option maxRecDepth 8000 in
theorem readUnit_any (s : ByteArray) (c : UInt8) (r : Bs) (hl : s.data.toList = c :: r) (w : World) (hs : s.size ≤ 33554432) (hE : ErrAt w) :
    Calls Tryd.prog 72 #[.string s] w fun e w' => e = .returned (unitV (unit1 (c :: r))) ∧ Below w.heap.size w w' := by
  have hz : s.size = r.length + 1 := by rw [← size_list, hl]; simp
  have HE := Lib.hid hE
  obtain ⟨n, hn, hcn⟩ : ∃ n : Nat, c.toNat = n ∧ c = UInt8.ofNat n := ⟨c.toNat, rfl, by simp⟩
  have hn256 : n < 256 := by rw [← hn]; exact c.toNat_lt
  have i0 : ∀ w, (Instr.index 9 (.string s) (.int .i64 0)).run Tryd.prog w = .ok (.int .u8 (n : Int)) w := fun w => by
    rw [run_index_string w 9 s .i64 0 Tryd.underlying9, dif_pos ⟨by omega, by omega⟩]
    congr 2
    rw [← hn]
    have : s.data.toList[0]'(by rw [hl]; simp) = c := by simp [hl]
    rw [← this]
    rfl
  have ne : ∀ k : UInt8, ¬ n = k.toNat → ¬ c = k := fun k hk => byte_ne (by rw [hn]; exact hk)
  have HN := Lib.hid hn
  have HC := Lib.hid hcn
  have hcase : n = 92 ∨ n = 10 ∨ n = 13 ∨ 127 < n ∨ (¬ n = 92 ∧ ¬ n = 10 ∧ ¬ n = 13 ∧ n ≤ 127) := by omega
  have HNE := Lib.hid ne
  clear hn hcn ne hE
  rcases hcase with rfl | rfl | rfl | h1 | ⟨h1, h2, h3, h4⟩
  · have HV : Hid (unit1 (c :: r) = esc1 r) := by
      show unit1 (c :: r) = esc1 r
      rw [unit1_cons, HC.out]
      rfl
    rw [HV.out]
    cases r with
    | nil =>
      have hz1 : s.size = 1 := hz
      have HR : Hid (∀ w, Calls Tryd.prog 84 #[.string s] w fun e w' => e = .returned (.tuple #[.int .i64 0, .int .i64 0]) ∧ w = w') := fun w => by
        go_enter Tryd.func84, Tryd.ntmps84
        go_wp2
        go_ret2
        exact ⟨rfl, rfl⟩
      go_enter Tryd.func72, Tryd.ntmps72
      go_wp2_with (go_at_call 84; refine (HR.out _).mono ?_; rintro e w' ⟨rfl, rfl⟩)
      go_ret2
      exact ⟨rfl, Below.refl _ _⟩
    | cons d t =>
      have HR := Lib.hid fun w h => readEscape_any s c d t hl w hs h
      obtain ⟨a, b, hab⟩ := unitV_pair (esc1 (d :: t))
      rw [hab] at HR ⊢
      clear hab hl HV hs
      go_enter Tryd.func72, Tryd.ntmps72
      go_wp2_with (go_at_call 84; refine (HR.out _ HE.out).mono ?_; rintro e w' ⟨rfl, hb⟩)
      go_ret2
      exact ⟨rfl, hb⟩
  · go_enter Tryd.func72, Tryd.ntmps72
    go_wp2
    go_ret2
    exact ⟨by rw [HC.out]; rfl, Below.refl _ _⟩
  · go_enter Tryd.func72, Tryd.ntmps72
    go_wp2
    go_ret2
    exact ⟨by rw [HC.out]; rfl, Below.refl _ _⟩
  · have HV : Hid (unit1 (c :: r) = none) := by
      show unit1 (c :: r) = none
      rw [unit1_cons, if_neg (HNE.out 92 (by simp; omega)), if_pos (by rw [HN.out]; omega)]
    have b1 : ((n : Int) == 92) = false := by rw [beq_eq_false_iff_ne]; omega
    have b2 : ((n : Int) == 10) = false := by rw [beq_eq_false_iff_ne]; omega
    have b3 : ((n : Int) == 13) = false := by rw [beq_eq_false_iff_ne]; omega
    clear hl
    go_enter Tryd.func72, Tryd.ntmps72
    go_wp2
    go_ret2
    exact ⟨by rw [HV.out]; rfl, Below.refl _ _⟩
  · have HV : Hid (unit1 (c :: r) = some ([n], 1)) := by
      show unit1 (c :: r) = _
      have e10 := HNE.out 10 (by simp; omega)
      have e13 := HNE.out 13 (by simp; omega)
      rw [unit1_cons, if_neg (HNE.out 92 (by simp; omega)), if_neg (by rw [HN.out]; intro h; rcases h with h | h | h; exact e10 h; exact e13 h; omega), HN.out]
    have b1 : ((n : Int) == 92) = false := by rw [beq_eq_false_iff_ne]; omega
    have b2 : ((n : Int) == 10) = false := by rw [beq_eq_false_iff_ne]; omega
    have b3 : ((n : Int) == 13) = false := by rw [beq_eq_false_iff_ne]; omega
    clear hl h1 h2 h3
    go_enter Tryd.func72, Tryd.ntmps72
    go_wp2
    go_ret2
    exact ⟨by rw [HV.out]; rfl, Below.refl _ _⟩
/-- so many digits read one behind the other -/
def digGo : Nat → Bs → Nat → Option Nat
  | acc, _, 0 => some acc
  | _, [], _ + 1 => none
  | acc, c :: r, d + 1 => match hexV c with
    | some v => digGo (16 * acc + v) r d
    | none => none
theorem digGo_eq : ∀ (d acc : Nat) (x : Bs), digGo acc x d = if x.length < d then none else hexGo acc (x.take d)
  | 0, acc, x => by
    rw [if_neg (by omega)]
    cases x <;> rfl
  | d + 1, acc, [] => by
    rw [if_pos (by simp)]
    rfl
  | d + 1, acc, c :: r => by
    rw [List.take_succ_cons, hexGo_cons]
    unfold digGo
    cases hexV c with
    | none => simp
    | some v =>
      simp only [digGo_eq d]
      by_cases h : r.length < d
      · rw [if_pos h, if_pos (by simp; omega)]
      · rw [if_neg h, if_neg (by simp; omega)]
def optI (o : Option Nat) : Int := match o with
  | some n => n
  | none => -1
theorem digitI_some {c : UInt8} {v : Nat} (h : hexV c = some v) : digitI c = v := by
  unfold hexV at h
  unfold digitI
  repeat' split at h
  all_goals simp at h
  all_goals repeat' split
  all_goals omega
theorem digitI_none {c : UInt8} (h : hexV c = none) : digitI c = -1 := by
  unfold hexV at h
  unfold digitI
  repeat' split at h
  all_goals simp at h
  all_goals repeat' split
  all_goals omega
theorem index_at (s : ByteArray) (k : Nat) (i : Int) (x : UInt8) (w : World) (hi : i = (k : Int)) (hk : s.data.toList[k]? = some x) : (Instr.index 9 (.string s) (.int .i64 i)).run Tryd.prog w = .ok (.int .u8 ((x.toNat : Nat) : Int)) w := by
  subst hi
  have hk2 : k < s.size := by rw [← size_list]; exact (List.getElem?_eq_some_iff.1 hk).1
  rw [run_index_string w 9 s .i64 k Tryd.underlying9, dif_pos ⟨by omega, by omega⟩]
  congr 2
  rw [List.getElem?_eq_getElem (by rw [size_list]; exact hk2)] at hk
  have hk3 : s.data.toList[k]'(by rw [size_list]; exact hk2) = x := Option.some.inj hk
  rw [← hk3]
  rfl
set_option maxRecDepth 8000 in
set_option maxHeartbeats 1000000 in
theorem digits_any (s : ByteArray) (a d : Nat) (D I : Int) (hI : I = (a : Int)) (hD : D = (d : Int)) (hd : d ≤ 4) (w : World) (hs : s.size ≤ 33554432) (ha : a ≤ s.size) :
    Calls Tryd.prog 74 #[.string s, .int .i64 I, .int .i64 D] w fun e w' => e = .returned (.int .i64 (optI (digGo 0 (s.data.toList.drop a) d))) ∧ w = w' := by
  subst hI hD
  have HIX := Lib.hid (index_at s)
  go_enter Tryd.func74, Tryd.ntmps74
  go_wp2
  go_loop [7, 10] (fun v x => ∃ k acc : Nat, k ≤ d ∧ x = .int .i64 k ∧ v = .int .i64 acc ∧ acc < 16 ^ k ∧ Hid (digGo 0 (s.data.toList.drop a) d = digGo acc (s.data.toList.drop (a + k)) (d - k)))
    (fun _ x => d - (intOf x).toNat)
  case atStart => exact ⟨0, 0, by omega, rfl, rfl, by decide, rfl⟩
  case round =>
    obtain ⟨k, acc, hk, rfl, rfl, hacc, hh⟩ := hrel
    by_cases hlt : k < d
    · obtain ⟨e, he⟩ : ∃ e, d - k = e + 1 := ⟨d - k - 1, by omega⟩
      have hdg := hh.out
      rw [he] at hdg
      by_cases hin : a + k < s.size
      · have hkl : a + k < s.data.toList.length := by rw [size_list]; exact hin
        have hdrop : s.data.toList.drop (a + k) = s.data.toList[a + k] :: s.data.toList.drop (a + (k + 1)) := by
          rw [List.drop_eq_getElem_cons hkl]
          rfl
        have ia := fun w => HIX.out (a + k) ((a : Int) + (k : Int)) _ w (by omega) (List.getElem?_eq_getElem hkl)
        rw [hdrop] at hdg
        generalize s.data.toList[a + k] = c at *
        have HDg := Lib.hid (digit_any c)
        have hin2 : (a : Int) + (k : Int) < (s.size : Int) := by omega
        cases hv : hexV c with
        | none =>
          have HV : Hid (digGo 0 (s.data.toList.drop a) d = none) := by
            show digGo 0 (s.data.toList.drop a) d = none
            rw [hdg]
            unfold digGo
            rw [hv]
          rw [digitI_none hv] at HDg
          clear hdg hdrop hh hv he hkl hacc
          go_wp2_with (go_at_call 85; refine (HDg.out _).mono ?_; rintro e w' ⟨rfl, rfl⟩)
          go_ret
          exact ⟨by rw [HV.out]; rfl, rfl⟩
        | some v =>
          have hv16 := hexV_lt hv
          have hp3 : 16 ^ k ≤ 16 ^ 3 := Nat.pow_le_pow_right (by decide) (by omega)
          have hp4 : 16 ^ (k + 1) = 16 ^ k * 16 := Nat.pow_succ 16 k
          have HV : Hid (digGo 0 (s.data.toList.drop a) d = digGo (16 * acc + v) (s.data.toList.drop (a + (k + 1))) (d - (k + 1)) ∧ 16 * acc + v < 16 ^ (k + 1)) := by
            refine ⟨?_, by omega⟩
            rw [hdg, show d - (k + 1) = e by omega]
            conv => lhs; unfold digGo
            rw [hv]
          rw [digitI_some hv] at HDg
          have ha16 : acc < 4096 := by omega
          clear hdg hdrop hh hv he hkl hacc hp3 hp4
          go_wp2_with (go_at_call 85; refine (HDg.out _).mono ?_; rintro e w' ⟨rfl, rfl⟩)
          go_round
          case rel => exact ⟨k + 1, 16 * acc + v, by omega, by go_num, by go_num, HV.out.2, HV.out.1⟩
          case measure => simp [intOf]; omega
      · have HV : Hid (digGo 0 (s.data.toList.drop a) d = none) := by
          show digGo 0 (s.data.toList.drop a) d = none
          rw [hdg, List.drop_eq_nil_of_le (by rw [size_list]; omega)]
          rfl
        have hin2 : (s.size : Int) ≤ (a : Int) + (k : Int) := by omega
        clear hdg hh he hacc
        go_wp2
        go_ret
        exact ⟨by rw [HV.out]; rfl, rfl⟩
    · have HV : Hid (digGo 0 (s.data.toList.drop a) d = some acc) := by
        show digGo 0 (s.data.toList.drop a) d = some acc
        rw [hh.out, show d - k = 0 by omega]
        cases s.data.toList.drop (a + k) <;> rfl
      obtain rfl : k = d := by omega
      clear hh hacc
      go_wp2
      go_ret
      exact ⟨by rw [HV.out]; rfl, rfl⟩
end Go.Proofs.YtkaamaopjcaalaaDoor
