/-
  ContainsAny of a line feed or a carriage return, at any string, by contract.
-/
import Derived.Test.YtkaamaopjcaalaaDoorUG
import Derived.Test.YtkaamaopjcaalaaDoorA
import Derived.Test.YtkaamaopjcaalaaDoorE
import Derived.Laws.RangeAny
import Derived.Laws.Runes
import Derived.Deep.LoopGhost
import Derived.Deep.DeepMust
import Derived.Lib.OthersKept
namespace Go.Proofs.YtkaamaopjcaalaaDoor.T
open Go.RowKit Go.Proofs.YtkaamaopjcaalaaDoor

theorem get_in (s : ByteArray) (i : Nat) (h : i < s.size) : s.get! i = s[i]'h := by
  simp [ByteArray.get!, getElem!_pos, h]
  rfl
theorem cont_in {s : ByteArray} {i : Nat} (h : (decide (i < s.size) && (s.get! i).toNat / 64 == 2) = true) : i < s.size ∧ ∀ h : i < s.size, 128 ≤ (s[i]'h).toNat := by
  simp only [Bool.and_eq_true, decide_eq_true_eq, beq_iff_eq] at h
  obtain ⟨h1, h2⟩ := h
  refine ⟨h1, fun h3 => ?_⟩
  rw [get_in s i h3] at h2
  omega
/-- the bytes of a character above 127 -/
theorem decode_span (s : ByteArray) (p : Nat) (hp : p < s.size) (ha : 128 ≤ (s[p]'hp).toNat) : p + (Utf8.decode s p).2 ≤ s.size ∧ ∀ j (h : j < s.size), p ≤ j → j < p + (Utf8.decode s p).2 → 128 ≤ (s[j]'h).toNat := by
  have one : p + 1 ≤ s.size ∧ ∀ j (h : j < s.size), p ≤ j → j < p + 1 → 128 ≤ (s[j]'h).toNat := by
    refine ⟨hp, fun j h h1 h2 => ?_⟩
    obtain rfl : j = p := by omega
    exact ha
  unfold Utf8.decode
  simp only
  split
  · exact one
  · split
    · rename_i h
      simp only [Bool.and_eq_true] at h
      have c1 := cont_in (i := p + 1) (by simpa using h.2)
      split
      · refine ⟨by have := c1.1; show p + 2 ≤ _; omega, fun j hj h1 h2 => ?_⟩
        have h2' : j < p + 2 := h2
        by_cases e0 : j = p
        · subst e0; exact ha
        · obtain rfl : j = p + 1 := by omega
          exact c1.2 hj
      · exact one
    · split
      · rename_i h
        simp only [Bool.and_eq_true] at h
        have c1 := cont_in (i := p + 1) (by simpa using h.1.2)
        have c2 := cont_in (i := p + 2) (by simpa using h.2)
        split
        · refine ⟨by have := c2.1; show p + 3 ≤ _; omega, fun j hj h1 h2 => ?_⟩
          have h2' : j < p + 3 := h2
          by_cases e0 : j = p
          · subst e0; exact ha
          · by_cases e1 : j = p + 1
            · subst e1; exact c1.2 hj
            · obtain rfl : j = p + 2 := by omega
              exact c2.2 hj
        · exact one
      · split
        · rename_i h
          simp only [Bool.and_eq_true] at h
          have c1 := cont_in (i := p + 1) (by simpa using h.1.1.2)
          have c2 := cont_in (i := p + 2) (by simpa using h.1.2)
          have c3 := cont_in (i := p + 3) (by simpa using h.2)
          split
          · refine ⟨by have := c3.1; show p + 4 ≤ _; omega, fun j hj h1 h2 => ?_⟩
            have h2' : j < p + 4 := h2
            by_cases e0 : j = p
            · subst e0; exact ha
            · by_cases e1 : j = p + 1
              · subst e1; exact c1.2 hj
              · by_cases e2 : j = p + 2
                · subst e2; exact c2.2 hj
                · obtain rfl : j = p + 3 := by omega
                  exact c3.2 hj
          · exact one
        · exact one

theorem quiet_more {P : Program} {f : FuncId} {args : Array Value} {w : World} {n m : Nat} {v : Value}
    (h : Calls P f args (w.drewN (n + m)) fun e w' => e = .returned v ∧ w' = w.drewN (n + m)) : Calls P f args (w.drewN (n + m)) fun e w'' => e = .returned v ∧ ∃ k, w'' = w.drewN (n + k) :=
  h.mono fun _ _ ⟨he, hm⟩ => ⟨he, m, hm⟩
def nr : ByteArray := ⟨#[10, 13]⟩
theorem below_iter (w : World) (s : ByteArray) (i : Nat) : Below w.heap.size w (w.iter s i) := (Below.refl _ _).alloc (Nat.le_refl _) _
set_option maxRecDepth 20000 in
set_option maxHeartbeats 4000000 in
theorem rune_err (w : World) : Calls Tryd.prog 50 #[.string ⟨#[10, 13]⟩, .int .i32 65533] w fun e w' => e = .returned (.int .i64 (-1)) ∧ Below w.heap.size w w' := by
  have HB := Lib.hid (below_iter w ⟨#[10, 13]⟩)
  go_enter Tryd.func50, Tryd.ntmps50
  go_wp2_with fail
  go_loopg [5, 6] 2 (fun g _ _ wx => ∃ i : Nat, i + g = 2 ∧ wx = w.iter ⟨#[10, 13]⟩ i)
  case atStart => exact ⟨0, by omega, rfl⟩
  case round =>
    obtain ⟨i, hig, rfl⟩ := hrel
    have hc : i = 0 ∨ i = 1 ∨ i = 2 := by omega
    rcases hc with rfl | rfl | rfl
    · obtain rfl : gk = 2 := by omega
      have hnx := fun ty => run_next_ascii (P := Tryd.prog) w ⟨#[10, 13]⟩ 0 ty (by decide) (by decide)
      go_wp2
      go_roundg 1
      case measure => omega
      case rel => exact ⟨1, by omega, rfl⟩
    · obtain rfl : gk = 1 := by omega
      have hnx := fun ty => run_next_ascii (P := Tryd.prog) w ⟨#[10, 13]⟩ 1 ty (by decide) (by decide)
      go_wp2
      go_roundg 0
      case measure => omega
      case rel => exact ⟨2, by omega, rfl⟩
    · have hnx := fun ty => run_next_end (P := Tryd.prog) w ⟨#[10, 13]⟩ 2 ty (by decide)
      go_wp2
      go_ret
      exact ⟨rfl, HB.out _⟩
set_option maxRecDepth 20000 in
set_option maxHeartbeats 4000000 in
theorem rune_bad (r : Int) (w : World) (h1 : 128 ≤ r) (h2 : r ≤ 2147483647) (h3 : ¬ r = 65533) (hv : Utf8.valid r = false) : Calls Tryd.prog 50 #[.string ⟨#[10, 13]⟩, .int .i32 r] w fun e w' => e = .returned (.int .i64 (-1)) ∧ Below w.heap.size w w' := by
  have HV : Hid (∀ w, Calls Tryd.prog 66 #[.int .i32 r] w fun e w' => e = .returned (.bool false) ∧ w = w') := Lib.hid fun w => (Tryd.utf8_ValidRune r w).mono fun e w' h => ⟨by rw [h.1]; have e := validRune_eq r; rw [hv] at e; exact ret_bool e.symm, h.2.symm⟩
  have hb : (r == 65533) = false := by rw [beq_eq_false_iff_ne]; exact h3
  clear hv
  go_enter Tryd.func50, Tryd.ntmps50
  go_wp2_with (go_at_call 66; refine (HV.out _).mono ?_; rintro e w' ⟨rfl, rfl⟩)
  go_ret
  exact ⟨rfl, Below.refl _ _⟩
set_option maxRecDepth 20000 in
set_option maxHeartbeats 4000000 in
theorem rune_ok (r : Int) (w : World) (h1 : 128 ≤ r) (h2 : r ≤ 2147483647) (h3 : ¬ r = 65533) (hv : Utf8.valid r = true) : Calls Tryd.prog 50 #[.string ⟨#[10, 13]⟩, .int .i32 r] w fun e w' => e = .returned (.int .i64 (-1)) ∧ Below w.heap.size w w' := by
  have HV : Hid (∀ w, Calls Tryd.prog 66 #[.int .i32 r] w fun e w' => e = .returned (.bool true) ∧ w = w') := Lib.hid fun w => (Tryd.utf8_ValidRune r w).mono fun e w' h => ⟨by rw [h.1]; have e := validRune_eq r; rw [hv] at e; exact ret_bool e.symm, h.2.symm⟩
  have hb : (r == 65533) = false := by rw [beq_eq_false_iff_ne]; exact h3
  obtain ⟨e1, e2, e3⟩ := encode_facts r hv h1
  obtain ⟨t, hE⟩ : ∃ t, Utf8.encode r = t := ⟨_, rfl⟩
  rw [hE] at e1 e2
  simp only [hE] at e3
  clear hv
  have hc : t.size = 2 ∨ t.size = 3 ∨ t.size = 4 := by omega
  rcases hc with hz | hz | hz
  · have hx := e3 (by omega)
    obtain ⟨x, hxe⟩ : ∃ x, t.data.toList[1]? = some x := ⟨t.data.toList[1]'(by rw [size_list]; omega), List.getElem?_eq_getElem _⟩
    have hx1 : 128 ≤ x.toNat := by
      have h5 : t.data.toList[1]'(by rw [size_list]; omega) = x := by
        rw [List.getElem?_eq_getElem (by rw [size_list]; omega)] at hxe
        exact Option.some.inj hxe
      rw [← h5]
      have : t.size - 1 = 1 := by omega
      simp only [this] at hx
      exact hx
    have ix : ∀ w, (Instr.index 9 (.string t) (.int .i64 1)).run Tryd.prog w = .ok (.int .u8 (x.toNat : Nat)) w := fun w => index_run t 1 x w hxe
    have hz' : (t.size : Int) = 2 := by omega
    have hn : ((13 : Int) == (x.toNat : Int)) = false := by rw [beq_eq_false_iff_ne]; omega
    have hn2 : ((13 : Int) != (x.toNat : Int)) = true := by rw [bne_iff_ne]; omega
    have HI : Hid (∀ (c : Int) w, Calls Tryd.prog 48 #[.string ByteArray.empty, .int .u8 c] w fun e w' => e = .returned (.int .i64 (-1)) ∧ w = w') := Lib.hid fun c w => (Tryd.strings_IndexByte ByteArray.empty c w).mono fun e w' h => ⟨h.1, h.2.symm⟩
    have hl13 : ((ByteArray.mk #[10, 13])[1]'(by decide)).toNat = 13 := by kernel_rfl
    have hw2 : IntKind.i64.wrap 2 = 2 := by kernel_rfl
    have hex : (ByteArray.mk #[10, 13]).extract 2 2 = ⟨#[]⟩ := by kernel_rfl
    clear e1 e2 e3 hz hx hxe
    go_enter Tryd.func50, Tryd.ntmps50
    go_wp2_with (go_at_call 66; refine (HV.out _).mono ?_; rintro e w' ⟨rfl, rfl⟩)
    go_step3
    go_wp2_with fail
    go_loopg [9] 1 (fun _ x wx => x = .int .i64 1 ∧ w = wx)
    case atStart => exact ⟨rfl, rfl⟩
    case round =>
      obtain ⟨rfl, rfl⟩ := hrel
      go_wp2_with fail
      go_step3
      go_wp2_with fail
      go_quiet (fail)
      go_wp2_with fail
      go_quiet ((go_at_call 48; go_must (exact quiet_more ((HI.out _ _).mono fun _ _ h => ⟨h.1, h.2.symm⟩))))
      go_wp2_with fail
      simp only [Exit.noGoto_ret, Exit.inBlock, Exit.then]
      go_ret
      exact ⟨rfl, below_drewN _ _ _⟩
  · have hz' : (t.size : Int) = 3 := by omega
    clear e1 e2 e3 hz
    go_enter Tryd.func50, Tryd.ntmps50
    go_wp2_with (go_at_call 66; refine (HV.out _).mono ?_; rintro e w' ⟨rfl, rfl⟩)
    go_step3
    go_wp2_with fail
    go_loopg [9] 1 (fun _ x wx => x = .int .i64 2 ∧ w = wx)
    case atStart => exact ⟨rfl, rfl⟩
    case round =>
      obtain ⟨rfl, rfl⟩ := hrel
      go_wp2_with fail
      try rw [Exit.noGoto_ret]
      go_ret
      exact ⟨rfl, Below.refl _ _⟩
  · have hz' : (t.size : Int) = 4 := by omega
    clear e1 e2 e3 hz
    go_enter Tryd.func50, Tryd.ntmps50
    go_wp2_with (go_at_call 66; refine (HV.out _).mono ?_; rintro e w' ⟨rfl, rfl⟩)
    go_step3
    go_wp2_with fail
    go_loopg [9] 1 (fun _ x wx => x = .int .i64 3 ∧ w = wx)
    case atStart => exact ⟨rfl, rfl⟩
    case round =>
      obtain ⟨rfl, rfl⟩ := hrel
      go_wp2_with fail
      try rw [Exit.noGoto_ret]
      go_ret
      exact ⟨rfl, Below.refl _ _⟩
theorem rune_high (r : Int) (w : World) (h1 : 128 ≤ r) (h2 : r ≤ 2147483647) : Calls Tryd.prog 50 #[.string ⟨#[10, 13]⟩, .int .i32 r] w fun e w' => e = .returned (.int .i64 (-1)) ∧ Below w.heap.size w w' := by
  by_cases h3 : r = 65533
  · subst h3; exact rune_err w
  · cases hv : Utf8.valid r with
    | true => exact rune_ok r w h1 h2 h3 hv
    | false => exact rune_bad r w h1 h2 h3 hv
theorem cont_any (l : Bs) : ∀ i (_ : i < l.length), [10, 13].contains l[i] = el l[i] := fun i _ => by
  generalize l[i] = c
  unfold el
  rw [Bool.eq_iff_iff, List.contains_iff_mem, decide_eq_true_iff]
  simp only [List.mem_cons, List.not_mem_nil, or_false]
  constructor
  · rintro (rfl | rfl)
    · exact .inl rfl
    · exact .inr rfl
  · rintro (h | h)
    · exact .inl (UInt8.toNat_inj.1 h)
    · exact .inr (UInt8.toNat_inj.1 h)
theorem index_el : ∀ l : Bs, decide (0 ≤ Lib.indexAny l [10, 13]) = l.any el
  | [] => rfl
  | c :: r => by
    have ih := index_el r
    have hc := cont_any (c :: r) 0 (by simp)
    simp only [List.getElem_cons_zero] at hc
    unfold Lib.indexAny
    rw [hc, List.any_cons]
    cases el c with
    | true => rfl
    | false =>
      rw [Bool.false_or, ← ih]
      have := Lib.indexAny_ge [10, 13] r
      generalize Lib.indexAny r [10, 13] = z at *
      by_cases hz : z = -1
      · subst hz; rfl
      · have : (z == -1) = false := by rw [beq_eq_false_iff_ne]; exact hz
        rw [this, if_neg (by decide), if_neg (by decide), Bool.eq_iff_iff, decide_eq_true_iff, decide_eq_true_iff]
        omega
theorem hv256 : ∀ w, (zeroValue 64).run Tryd.prog w = .ok (.agg (Array.replicate 256 (.bool false))) w :=
  (zero_of_info (by kernel_rfl : (Tryd.prog.info? 64).map (fun i => (i.zero, i.size)) = some (some (.agg (Array.replicate 256 (.bool false))), 256))).1
theorem idx_el (c : UInt8) : decide (0 ≤ Lib.indexByte [10, 13] c) = el c := by
  have hV : Lib.indexByte [10, 13] c = if c = 10 then 0 else if c = 13 then 1 else -1 := by
    unfold Lib.indexByte Lib.indexByte Lib.indexByte
    by_cases h1 : c = 10
    · subst h1; rfl
    · by_cases h2 : c = 13
      · subst h2; rfl
      · rw [if_neg h1, if_neg h2]
        simp [Ne.symm h1, Ne.symm h2]
  rw [hV]
  unfold el
  by_cases h1 : c = 10
  · subst h1; rfl
  · by_cases h2 : c = 13
    · subst h2; rfl
    · rw [if_neg h1, if_neg h2]
      have n1 : ¬ c.toNat = 10 := fun h => h1 (UInt8.toNat_inj.1 h)
      have n2 : ¬ c.toNat = 13 := fun h => h2 (UInt8.toNat_inj.1 h)
      simp [n1, n2]
theorem el_high {c : UInt8} (h : 128 ≤ c.toNat) : el c = false := by
  unfold el
  exact decide_eq_false (by omega)
/-- no byte ahead of the i-th one ends a line -/
def None (s : ByteArray) (i : Nat) : Prop := ∀ j (h : j < s.size), j < i → el (s[j]'h) = false
set_option maxRecDepth 20000 in
set_option maxHeartbeats 4000000 in
theorem any_short (s : ByteArray) (w : World) (h8 : s.size ≤ 8) :
    Calls Tryd.prog 35 #[.string s, .string ⟨#[10, 13]⟩] w fun e w' => (∃ z : Int, e = .returned (.int .i64 z) ∧ decide (0 ≤ z) = s.data.toList.any el) ∧ Below w.heap.size w w' := by
  have h8z : decide ((8 : Int) < (s.size : Int)) = false := decide_eq_false (by omega)
  have HS : Hid (∀ w, Calls Tryd.prog 51 #[.int .i64 (s.size : Nat)] w fun e w' => e = .returned (.bool false) ∧ w = w') := Lib.hid fun w => (Tryd.strings_shouldUseASCIISet (s.size : Nat) w).mono fun e w' h => ⟨by rw [h.1, h8z], h.2.symm⟩
  have HB := Lib.hid fun i => below_iter w s i
  have HA := Lib.hid (Tryd.strings_IndexRune_ascii ⟨#[10, 13]⟩)
  have HH := Lib.hid rune_high
  have HY : Hid (∀ i (h : i < s.size), el (s[i]'h) = true → s.data.toList.any el = true) := Lib.hid fun i h he => List.any_eq_true.2 ⟨_, by rw [get_list s i h]; exact List.getElem_mem _, he⟩
  have HN : Hid (None s s.size → s.data.toList.any el = false) := Lib.hid fun h => by
    rw [Bool.eq_false_iff]
    intro hc
    obtain ⟨x, hx, he⟩ := List.any_eq_true.1 hc
    obtain ⟨i, hi, rfl⟩ := List.getElem_of_mem hx
    have hi' : i < s.size := by rw [← size_list]; exact hi
    rw [← get_list s i hi', h i hi' hi'] at he
    cases he
  have HSp := Lib.hid (decode_span s)
  generalize s.data.toList.any el = b at *
  clear h8z
  go_enter Tryd.func35, Tryd.ntmps35
  go_wp2_with (go_at_call 51; refine (HS.out _).mono ?_; rintro e w' ⟨rfl, rfl⟩)
  go_loopg [9, 10] (s.size + 1) (fun g _ _ wx => ∃ i : Nat, i ≤ s.size ∧ s.size + 1 ≤ i + g ∧ wx.heap[w.heap.size]? = some (.stringIter s i) ∧ Below w.heap.size w wx ∧ Hid (None s i))
  case atStart => exact ⟨0, by omega, by omega, World.iter_heap _ _ _, HB.out 0, fun j h hj => by omega⟩
  case round =>
    obtain ⟨i, hi, hg, hk, hb, hno⟩ := hrel
    by_cases hlt : i < s.size
    · obtain ⟨g, rfl⟩ : ∃ g, gk = g + 1 := ⟨gk - 1, by omega⟩
      have HNo : Hid (∀ m, (∀ j (h : j < s.size), i ≤ j → j < m → el (s[j]'h) = false) → None s m) := Lib.hid fun m hm j h hj => by
        by_cases hji : j < i
        · exact hno.out j h hji
        · exact hm j h (by omega) hj
      have HYi := Lib.hid (HY.out i hlt)
      have HSi := Lib.hid (HSp.out i hlt)
      by_cases hx : (s[i]'hlt).toNat < 128
      · have hnx := fun ty => Lib.run_next_ascii_at (P := Tryd.prog) wr w.heap.size s i ty hk hlt hx
        have HW1 := Lib.hid (Lib.iterAt_heap wr w.heap.size s i (i + 1) hk)
        have HB1 := Lib.hid (Lib.below_iterAt hb (Nat.le_refl _) s (i + 1))
        have HNx : Hid (el (s[i]'hlt) = false → None s (i + 1)) := Lib.hid fun he => HNo.out _ fun j h h1 h2 => by
          obtain rfl : j = i := by omega
          exact he
        have HE := Lib.hid (idx_el (s[i]'hlt))
        have e : (((s[i]'hlt).toNat : Nat) : Int).toNat.toUInt8 = s[i]'hlt := by simp
        have HAx := Lib.hid fun w => HA.out ((s[i]'hlt).toNat : Nat) w (by omega) (by omega)
        rw [e] at HAx
        clear HSi HNo e hno
        generalize s[i]'hlt = x at *
        generalize Lib.indexByte [10, 13] x = z at *
        generalize wr.iterAt w.heap.size s (i + 1) = w1 at *
        clear hb hk
        cases he : el x with
        | true =>
          have hz : 0 ≤ z := of_decide_eq_true (HE.out.trans he)
          have hb := HYi.out he
          subst hb
          clear HE he HNx
          go_wp2_with (go_at_call 50; refine (HAx.out _).mono ?_; rintro e w' ⟨rfl, rfl⟩)
          go_ret
          exact ⟨⟨_, rfl, decide_eq_true (by omega)⟩, HB1.out⟩
        | false =>
          have hz : ¬ 0 ≤ z := of_decide_eq_false (HE.out.trans he)
          have hz' : z < 0 := by omega
          have HV := Lib.hid (HNx.out he)
          clear HE he HNx HYi
          go_wp2_with (go_at_call 50; refine (HAx.out _).mono ?_; rintro e w' ⟨rfl, rfl⟩)
          go_roundg g
          case measure => omega
          case rel => exact ⟨i + 1, by omega, by omega, HW1.out, HB1.out, HV⟩
      · have hx' : 128 ≤ (s[i]'hlt).toNat := by omega
        obtain ⟨d1, d2⟩ := decode_high s i hlt hx'
        have d3 := decode_le s i
        obtain ⟨d4, d5⟩ := HSi.out hx'
        have hnx := fun ty => Lib.run_next_any_at (P := Tryd.prog) wr w.heap.size s i ty hk hlt
        have HV := Lib.hid (HNo.out (i + (Utf8.decode s i).2) fun j h h1 h2 => el_high (d5 j h h1 h2))
        generalize (Utf8.decode s i).1 = c at *
        generalize (Utf8.decode s i).2 = m at *
        have HW1 := Lib.hid (Lib.iterAt_heap wr w.heap.size s i (i + m) hk)
        have HB1 := Lib.hid (Lib.below_iterAt hb (Nat.le_refl _) s (i + m))
        have HR := Lib.hid fun w => HH.out (c : Nat) w (by omega) (by omega)
        clear HSi HNo hno HYi hx hx' d5 hb hk
        generalize wr.iterAt w.heap.size s (i + m) = w1 at *
        go_wp2_with (go_at_call 50; refine (HR.out _).mono ?_; rintro e w2 ⟨rfl, hb2⟩)
        have HW2 : Hid (w2.heap[w.heap.size]? = some (.stringIter s (i + m))) := Lib.hid ((hb2.block _ (Array.getElem?_eq_some_iff.1 HW1.out).1).trans HW1.out)
        have HB2 := Lib.hid (HB1.out.trans (hb2.mono HB1.out.size))
        clear hb2
        go_roundg g
        case measure => omega
        case rel => exact ⟨i + m, by omega, by omega, HW2.out, HB2.out, HV⟩
    · obtain rfl : i = s.size := by omega
      have hnx := fun ty => Lib.run_next_end_at (P := Tryd.prog) wr w.heap.size s s.size ty hk hlt
      have hV := HN.out hno.out
      subst hV
      go_wp2_with fail
      go_ret
      exact ⟨⟨_, rfl, by decide⟩, hb⟩
set_option maxRecDepth 4000 in
theorem any_any (s : ByteArray) (w : World) (hs : s.size < 4294967281) :
    Calls Tryd.prog 35 #[.string s, .string ⟨#[10, 13]⟩] w fun e w' => (∃ z : Int, e = .returned (.int .i64 z) ∧ decide (0 ≤ z) = s.data.toList.any el) ∧ Below w.heap.size w w' := by
  by_cases h8 : s.size ≤ 8
  · exact any_short s w h8
  · refine (Tryd.strings_IndexAny_long hv256 s ⟨#[10, 13]⟩ w (by show 2 ≤ 2; omega) (by omega) hs (by show 2 < 4294967281; omega) ?_).mono ?_
    · intro j b hb
      have hm := List.mem_of_getElem? hb
      have eL : (ByteArray.mk #[10, 13]).data.toList = [10, 13] := rfl
      rw [eL] at hm
      simp only [List.mem_cons, List.not_mem_nil, or_false] at hm
      rcases hm with rfl | rfl <;> decide
    · rintro e w' ⟨rfl, rfl⟩
      exact ⟨⟨_, rfl, index_el _⟩, ((Below.refl _ _).alloc (Nat.le_refl _) _).alloc (by simp) _⟩
theorem containsAny_any (s : ByteArray) (w : World) (hs : s.size < 4294967281) :
    Calls Tryd.prog 25 #[.string s, .string ⟨#[10, 13]⟩] w fun e w' => e = .returned (.bool (s.data.toList.any el)) ∧ Below w.heap.size w w' := by
  have HC := Lib.hid (any_any s w hs)
  generalize s.data.toList.any el = b at *
  go_enter Tryd.func25, Tryd.ntmps25
  go_wp2_with (go_at_call 35; refine HC.out.mono ?_; rintro e w' ⟨⟨z, rfl, hz⟩, hb⟩)
  go_ret
  exact ⟨ret_bool (by first | exact hz | rfl), hb⟩
end Go.Proofs.YtkaamaopjcaalaaDoor.T
