/-
  appendText where there are no elements, by contract.
-/
import Derived.Test.YtnjcofjphneccaaDoorApp
import Derived.Sort.Grow
namespace Go.Proofs.YtnjcofjphneccaaDoor
open Go.RowKit

/-- the library's table of powers of ten lies in memory -/
def Tab (w : World) : Prop := Lib.TabIs Tryd.prog w "internal/strconv.uint64pow10" .u64 Lib.pow10Tab
theorem tab_glob : Tryd.prog.globalNamed "internal/strconv.uint64pow10" = some 0 := by kernel_rfl
theorem Tab.of {w w' : World} (h : Tab w) (hb : w'.heap[(0 : Nat)]? = w.heap[(0 : Nat)]?) : Tab w' := by
  unfold Tab Lib.TabIs World.var? at *
  rw [tab_glob] at *
  simp only [Option.bind_some] at *
  rw [hb]
  exact h
theorem Tab.lt {w : World} (h : Tab w) : 0 < w.heap.size := by
  unfold Tab Lib.TabIs World.var? at h
  rw [tab_glob] at h
  simp only [Option.bind_some] at h
  rcases Nat.lt_or_ge 0 w.heap.size with h' | h'
  · exact h'
  · rw [Array.getElem?_eq_none h'] at h; simp at h
theorem Tab.below {w w' : World} (h : Tab w) (hb : Below w.heap.size w w') : Tab w' := h.of (hb.block _ h.lt)
theorem Own.up {w w' : World} {F F' : Nat → Prop} {v : Value} {l : Bs} (h : Own w F v l) (hb : Below w.heap.size w w') (hF : ∀ k, F' k → F k ∨ w.heap.size ≤ k) : Own w' F' v l :=
  ⟨own_keep h.1 fun k hk => hb.block k (h.1.lt k hk).2, fun k hk h' => by
    rcases hF k h' with h2 | h2
    · exact h.2 k hk h2
    · have := (h.1.lt k hk).2
      omega⟩
theorem Own.less {w : World} {F F' : Nat → Prop} {v : Value} {l : Bs} (h : Own w F v l) (hF : ∀ k, F' k → F k) : Own w F' v l := ⟨h.1, fun k hk h' => h.2 k hk (hF k h')⟩
theorem flatS_one (s : ByteArray) : flatS [s] = s.data.toList := by simp [flatS]
/-- F, and what lies from B on -/
def Or (F : Nat → Prop) (B k : Nat) : Prop := F k ∨ k = B

/-- one text is appended behind a box -/
theorem part_one (F : Nat → Prop) (val : Value) (l : Bs) (s : ByteArray) (w W : World) (g : Nat) (hF : ∀ k, F k → k < w.heap.size) (h : Own w F val l) (hW : Below w.heap.size w W) (hg0 : w.heap.size ≤ g) (hgs : W.heap[g]? = some (.cells #[.string s] 9 (0, 0))) (hlim : l.length + s.size ≤ 140737488355320) :
    Calls Tryd.prog 43 #[val, .slice (some ⟨g, 0, none⟩) 1 1] W fun e w' => ∃ v', e = .returned v' ∧ Own w' F v' (l ++ s.data.toList) ∧ Fr F w w' := by
  have hlt : g < W.heap.size := (Array.getElem?_eq_some_iff.1 hgs).1
  have hc : W.cell? ⟨g, 0, none⟩ = some (.string s) := by rw [cell_of_row W g 0 _ _ _ hgs]; rfl
  have := appendParts_any (Or F g) val l g [s] W (fun k hk => by rcases hk with hk | rfl; exact Nat.lt_of_lt_of_le (hF k hk) hW.size; exact hlt)
    (h.up hW fun k hk => by rcases hk with hk | rfl; exact .inl hk; exact .inr hg0) (.inr rfl)
    (fun j hj => by simp at hj; subst hj; simpa using hc) (by rw [flatS_one, size_list]; exact hlim) (by simp)
  refine Calls.mono (this) ?_
  rintro e w' ⟨v', rfl, ho, hf⟩
  rw [flatS_one] at ho
  exact ⟨v', rfl, ho.less fun k hk => .inl hk, (Fr.of hW hF).trans (hf.mono fun k hk => .inl hk)⟩
theorem heap2_at (w : World) (a b : Obj) : ((w.alloc a).alloc b).heap[w.heap.size + 1]? = some b := by
  show ((w.heap.push a).push b)[w.heap.size + 1]? = some b
  rw [Array.getElem?_push, if_pos (by simp)]

set_option maxRecDepth 100000 in
set_option maxHeartbeats 1000000 in
theorem at_word (F : Nat → Prop) (val : Value) (l : Bs) (v : V) (x : X) (w : World) (hF : ∀ k, F k → k < w.heap.size) (h0 : Own w F val l) (hx : Is w v x) (hlim : l.length ≤ 140737400000000)
    (hk : v.k = 0 ∨ v.k = 1) : Calls Tryd.prog 35 #[val, x.v] w (App w F (l ++ v.tx)) := by
  obtain ⟨ka, kc, la, lc, rfl, h1, h2, h3, h4⟩ := hx.open
  have HT : Hid (v.k = 0 → v.tx = [117, 110, 100, 101, 102, 105, 110, 101, 100]) := fun h => by cases v; simp only [V.k] at h; rw [V.tx, if_pos h]
  have HT1 : Hid (v.k = 1 → v.tx = [110, 117, 108, 108]) := fun h => by cases v; simp only [V.k] at h; rw [V.tx, if_neg (by omega), if_pos h]
  have HP := Lib.hid fun s W g => part_one F val l s w W g hF h0
  simp only [X.v]
  clear hx h1 h2 h3 h4
  generalize v.n = n at *
  generalize v.s = s at *
  generalize v.ks.length = kn at *
  generalize v.l.length = ln at *
  rcases hk with hk | hk
  · rw [HT.out hk]
    rw [hk]
    clear HT HT1 hk h0
    go_enter Tryd.func35, Tryd.ntmps35
    go_wp2_with fail
    refine (HP.out ⟨#[117, 110, 100, 101, 102, 105, 110, 101, 100]⟩ _ _ ((below_alloc w _).trans ((below_alloc _ _).mono (by simp))) (by simp) (heap2_at w _ _) (by show l.length + 9 ≤ _; omega)).mono ?_
    rintro e w1 ⟨v', rfl, ho, hf⟩
    have HO := Lib.hid ho
    clear ho
    go_wp2_with fail
    go_ret
    exact ⟨_, rfl, HO.out, hf⟩
  · rw [HT1.out hk]
    rw [hk]
    clear HT HT1 hk h0
    go_enter Tryd.func35, Tryd.ntmps35
    go_wp2_with fail
    refine (HP.out ⟨#[110, 117, 108, 108]⟩ _ _ ((below_alloc w _).trans ((below_alloc _ _).mono (by simp))) (by simp) (heap2_at w _ _) (by show l.length + 4 ≤ _; omega)).mono ?_
    rintro e w1 ⟨v', rfl, ho, hf⟩
    have HO := Lib.hid ho
    clear ho
    go_wp2_with fail
    go_ret
    exact ⟨_, rfl, HO.out, hf⟩

set_option maxRecDepth 100000 in
set_option maxHeartbeats 1000000 in
theorem at_bool (F : Nat → Prop) (val : Value) (l : Bs) (v : V) (x : X) (w : World) (hF : ∀ k, F k → k < w.heap.size) (h0 : Own w F val l) (hx : Is w v x) (hlim : l.length ≤ 140737400000000)
    (hk : v.k = 2) : Calls Tryd.prog 35 #[val, x.v] w (App w F (l ++ v.tx)) := by
  obtain ⟨ka, kc, la, lc, rfl, h1, h2, h3, h4⟩ := hx.open
  have HT : Hid (v.tx = Lib.formatBool (v.n == 1)) := by
    show v.tx = _
    cases v
    simp only [V.k] at hk
    rw [V.tx, if_neg (by omega), if_neg (by omega), if_pos hk]
    simp only [V.n]
    rename_i n _ _ _
    by_cases h : n = 1
    · rw [if_pos h, h]; decide +kernel
    · rw [if_neg h, show (n == 1) = false from by rw [beq_eq_false_iff_ne]; exact h]; decide +kernel
  have hfl : (Lib.formatBool (v.n == 1)).length ≤ 5 := by cases (v.n == 1) <;> decide +kernel
  have HP := Lib.hid fun s W g => part_one F val l s w W g hF h0
  have HB := Lib.hid fun b w => Tryd.strconv_FormatBool b w
  simp only [X.v]
  rw [hk, HT.out]
  clear hx h1 h2 h3 h4 HT hk h0
  generalize v.n = n at *
  generalize v.s = s at *
  generalize v.ks.length = kn at *
  generalize v.l.length = ln at *
  obtain ⟨B, hB⟩ : ∃ B, (n == 1) = B := ⟨_, rfl⟩
  rw [hB] at hfl ⊢
  go_enter Tryd.func35, Tryd.ntmps35
  go_wp2_with fail
  refine (HB.out _ _).mono ?_
  rintro e w1 ⟨rfl, rfl⟩
  have hsz : (⟨(Lib.formatBool B).toArray⟩ : ByteArray).size ≤ 5 := by
    show (Lib.formatBool B).toArray.size ≤ 5
    rw [List.size_toArray]
    exact hfl
  have hlst : (⟨(Lib.formatBool B).toArray⟩ : ByteArray).data.toList = Lib.formatBool B := rfl
  have HLS := Lib.hid hlst
  clear hlst
  generalize (⟨(Lib.formatBool B).toArray⟩ : ByteArray) = t at *
  go_wp2_with fail
  refine (HP.out t _ _ ((below_alloc w _).trans ((below_alloc _ _).mono (by simp))) (by simp) (heap2_at w _ _) (by omega)).mono ?_
  rintro e w1 ⟨v', rfl, ho, hf⟩
  have HO := Lib.hid ho
  clear ho
  go_wp2_with fail
  go_ret
  exact ⟨_, rfl, by rw [← HLS.out]; exact HO.out, hf⟩

theorem below_grow (w : World) (k : Nat) (os : Array Obj) : Below w.heap.size w (Sort.grow (w.drewN k) os) := by
  refine ⟨rfl, rfl, rfl, ?_, fun j hj => ?_⟩
  · show w.heap.size ≤ (w.heap ++ os).size
    simp
  · show (w.heap ++ os)[j]? = _
    rw [Array.getElem?_append, if_pos hj]

set_option maxRecDepth 100000 in
set_option maxHeartbeats 1000000 in
theorem at_num (F : Nat → Prop) (val : Value) (l : Bs) (v : V) (x : X) (w : World) (hF : ∀ k, F k → k < w.heap.size) (h0 : Own w F val l) (hx : Is w v x) (hlim : l.length ≤ 140737400000000) (hT : Tab w)
    (hk : v.k = 3) (hn : -9007199254740991 ≤ v.n ∧ v.n ≤ 9007199254740991) : Calls Tryd.prog 35 #[val, x.v] w (App w F (l ++ v.tx)) := by
  obtain ⟨ka, kc, la, lc, rfl, h1, h2, h3, h4⟩ := hx.open
  have HT : Hid (v.tx = Lib.itoa v.n) := by
    show v.tx = _
    cases v
    simp only [V.k] at hk
    rw [V.tx, if_neg (by omega), if_neg (by omega), if_neg (by omega), if_pos hk]
    rfl
  have hfl := Lib.itoa_length_le v.n (by omega) (by omega)
  have HP := Lib.hid fun s W g => part_one F val l s w W g hF h0
  have HB := Lib.hid fun w (h : Tab w) => (Tryd.strconv_FormatInt_10 v.n (by omega) (by omega) w h).mono fun e w' ⟨h1, h2⟩ => (⟨h1, by obtain ⟨k, os, rfl⟩ := h2; exact below_grow w k os⟩ : e = _ ∧ Below w.heap.size w w')
  have HTb := Lib.hid hT
  simp only [X.v]
  rw [hk, HT.out]
  clear hx h1 h2 h3 h4 HT hk h0 hn hT
  generalize v.n = n at *
  generalize v.s = s at *
  generalize v.ks.length = kn at *
  generalize v.l.length = ln at *
  go_enter Tryd.func35, Tryd.ntmps35
  go_wp2_with fail
  refine (HB.out _ (HTb.out.below (below_alloc w _))).mono ?_
  rintro e w1 ⟨rfl, hb1⟩
  have hb2 := (below_alloc w (.cells #[.int .i64 3, .int .i64 n, .string s, .slice ka kn kc, .slice la ln lc] 25)).trans (hb1.mono (by simp))
  have hsz : (⟨(Lib.itoa n).toArray⟩ : ByteArray).size ≤ 21 := by
    show (Lib.itoa n).toArray.size ≤ 21
    rw [List.size_toArray]
    exact hfl
  have hlst : (⟨(Lib.itoa n).toArray⟩ : ByteArray).data.toList = Lib.itoa n := rfl
  have HLS := Lib.hid hlst
  clear hlst hb1
  generalize (⟨(Lib.itoa n).toArray⟩ : ByteArray) = t at *
  go_wp2_with fail
  refine (HP.out t _ _ (hb2.trans ((below_alloc _ _).mono hb2.size)) hb2.size (by show (w1.heap.push _)[w1.heap.size]? = _; simp) (by omega)).mono ?_
  rintro e w2 ⟨v', rfl, ho, hf⟩
  have HO := Lib.hid ho
  clear ho
  go_wp2_with fail
  go_ret
  exact ⟨_, rfl, by rw [← HLS.out]; exact HO.out, hf⟩

set_option maxRecDepth 100000 in
set_option maxHeartbeats 1000000 in
theorem at_text (F : Nat → Prop) (val : Value) (l : Bs) (v : V) (x : X) (w : World) (hF : ∀ k, F k → k < w.heap.size) (h0 : Own w F val l) (hx : Is w v x) (hlim : l.length ≤ 140737400000000) (hb : v.bulk ≤ 4194304)
    (hk : v.k = 4) (he : v.s.size % 2 = 0) : Calls Tryd.prog 35 #[val, x.v] w (App w F (l ++ v.tx)) := by
  obtain ⟨ka, kc, la, lc, rfl, h1, h2, h3, h4⟩ := hx.open
  have HT : Hid (v.tx = quote (us v.s.data.toList)) := by
    show v.tx = _
    cases v
    simp only [V.k] at hk
    rw [V.tx, if_neg (by omega), if_neg (by omega), if_neg (by omega), if_neg (by omega), if_pos hk]
    rfl
  have hss : v.s.size ≤ 4194304 := by
    cases v
    simp only [V.bulk, V.s] at *
    omega
  have hfl := quote_len v.s
  have HP := Lib.hid fun s W g => part_one F val l s w W g hF h0
  have HB := Lib.hid fun w => quoted_lit_any v.s w hss he
  simp only [X.v]
  rw [hk, HT.out]
  clear hx h1 h2 h3 h4 HT hk h0 he hb
  generalize v.n = n at *
  generalize v.s = s at *
  generalize v.ks.length = kn at *
  generalize v.l.length = ln at *
  generalize quote (us s.data.toList) = q at *
  go_enter Tryd.func35, Tryd.ntmps35
  go_wp2_with fail
  refine (HB.out _).mono ?_
  rintro e w1 ⟨rfl, hb1⟩
  have hb2 := (below_alloc w (.cells #[.int .i64 4, .int .i64 n, .string s, .slice ka kn kc, .slice la ln lc] 25)).trans (hb1.mono (by simp))
  have hsz : (⟨q.toArray⟩ : ByteArray).size ≤ 2 + 3 * s.size := by
    show q.toArray.size ≤ _
    rw [List.size_toArray]
    exact hfl
  have hlst : (⟨q.toArray⟩ : ByteArray).data.toList = q := rfl
  have HLS := Lib.hid hlst
  clear hlst hb1
  generalize (⟨q.toArray⟩ : ByteArray) = t at *
  go_wp2_with fail
  refine (HP.out t _ _ (hb2.trans ((below_alloc _ _).mono hb2.size)) hb2.size (by show (w1.heap.push _)[w1.heap.size]? = _; simp) (by omega)).mono ?_
  rintro e w2 ⟨v', rfl, ho, hf⟩
  have HO := Lib.hid ho
  clear ho
  go_wp2_with fail
  go_ret
  exact ⟨_, rfl, by rw [← HLS.out]; exact HO.out, hf⟩
end Go.Proofs.YtnjcofjphneccaaDoor
