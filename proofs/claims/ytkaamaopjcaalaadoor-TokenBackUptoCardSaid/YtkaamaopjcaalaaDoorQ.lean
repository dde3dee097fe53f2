/-
  PLAIN: what the lexer answers, taken apart; what a byte 10 or 32 behind a token leaves as it was.
-/
import Derived.Test.YtkaamaopjcaalaaDoorP
import Derived.Test.YtkaamaopjcaalaaDoorUG
namespace Go.Proofs.YtkaamaopjcaalaaDoor.T
open Go.Proofs.YtkaamaopjcaalaaDoor

/-! how many bytes a token has -/
theorem rdGo_form (q : UInt8) : ∀ (f : Nat) (l : Bs) (out : List Nat) (k : Nat) (r : List Nat × Nat), rdGo q f l out k = some r → k < r.2 ∧ r.2 ≤ k + l.length
  | 0, l, out, k, r, h => by cases l <;> simp [rdGo] at h
  | f + 1, [], out, k, r, h => by simp [rdGo] at h
  | f + 1, c :: t, out, k, r, h => by
    by_cases hc : c = q
    · subst hc
      rw [rdGo_quote] at h
      injection h with h
      subst h
      simp
    · cases hu : unit1 (c :: t) with
      | none => rw [rdGo_none hc hu] at h; cases h
      | some x =>
        obtain ⟨ls, n⟩ := x
        rw [rdGo_some hc hu] at h
        obtain ⟨_, h1, h2⟩ := unit1_form hu
        have := rdGo_form q f _ _ _ r h
        rw [List.length_drop] at this
        omega
theorem read_form {l : Bs} {r : List Nat × Nat} (h : read l = some r) : 0 < r.2 ∧ r.2 ≤ l.length := by
  unfold read at h
  cases l with
  | nil => cases h
  | cons c t =>
    simp only at h
    split at h
    · have := rdGo_form _ _ _ _ _ _ h
      simp only [List.length_cons]
      omega
    · cases h
theorem nparts_form {c : UInt8} {r : Bs} (h : dg c = true) : 0 < (nparts (c :: r)).2.2 ∧ (nparts (c :: r)).2.2 ≤ (c :: r).length := by
  unfold nparts
  split
  · rename_i hh
    have h2 : 2 ≤ (c :: r).length := by
      match r, hh with
      | _ :: _ :: _, _ => simp
    have := run_le hx ((c :: r).drop 2)
    rw [List.length_drop] at this
    refine ⟨by show 0 < 2 + _; omega, by show 2 + _ ≤ _; omega⟩
  · split
    · exact ⟨by decide, by simp⟩
    · refine ⟨?_, run_le _ _⟩
      show 0 < run dg (c :: r)
      rw [run_go h]
      omega
theorem sg_form {l g : Bs} (h : sg l = some g) : g ∈ signs ∧ g.isPrefixOf l = true := by
  unfold sg at h
  exact ⟨List.mem_of_find?_eq_some h, by simpa using List.find?_some h⟩
theorem signs_pos : ∀ g ∈ signs, 0 < g.length := by decide +kernel
theorem one_form {l : Bs} {t : Tok} {k : Nat} (h : one l = some (t, k)) : 0 < k ∧ k ≤ l.length := by
  unfold one at h
  cases l with
  | nil => cases h
  | cons c r =>
    simp only at h
    split at h
    · rename_i hd
      unfold num at h
      have := nparts_form (r := r) hd
      split at h
      · cases h
      · split at h
        · simp only [Option.map_some, Option.some.injEq, Prod.mk.injEq] at h
          obtain ⟨_, rfl⟩ := h
          exact this
        · cases h
    · split at h
      · rename_i hb
        split at h
        · cases h
        · simp only [Option.some.injEq, Prod.mk.injEq] at h
          obtain ⟨_, rfl⟩ := h
          refine ⟨?_, run_le _ _⟩
          rw [run_go hb]
          omega
      · split at h
        · cases hr : read (c :: r) with
          | none => rw [hr] at h; cases h
          | some x =>
            rw [hr] at h
            simp only [Option.map_some, Option.some.injEq, Prod.mk.injEq] at h
            obtain ⟨_, rfl⟩ := h
            exact read_form hr
        · cases hr : sg (c :: r) with
          | none => rw [hr] at h; cases h
          | some g =>
            rw [hr] at h
            simp only [Option.map_some, Option.some.injEq, Prod.mk.injEq] at h
            obtain ⟨_, rfl⟩ := h
            obtain ⟨h1, h2⟩ := sg_form hr
            exact ⟨signs_pos g h1, (List.isPrefixOf_iff_prefix.1 h2).length_le⟩
theorem one_kind {l : Bs} {t : Tok} {k : Nat} (h : one l = some (t, k)) : 0 < t.k := by
  unfold one at h
  cases l with
  | nil => cases h
  | cons c r =>
    simp only at h
    split at h
    · cases hn : num (c :: r) with
      | none => rw [hn] at h; cases h
      | some x =>
        rw [hn] at h
        simp only [Option.map_some, Option.some.injEq, Prod.mk.injEq] at h
        obtain ⟨rfl, _⟩ := h
        simp
    · split at h
      · split at h
        · cases h
        · simp only [Option.some.injEq, Prod.mk.injEq] at h
          obtain ⟨rfl, _⟩ := h
          simp only
          split <;> omega
      · split at h
        · cases hn : read (c :: r) with
          | none => rw [hn] at h; cases h
          | some x =>
            rw [hn] at h
            simp only [Option.map_some, Option.some.injEq, Prod.mk.injEq] at h
            obtain ⟨rfl, _⟩ := h
            simp
        · cases hn : sg (c :: r) with
          | none => rw [hn] at h; cases h
          | some x =>
            rw [hn] at h
            simp only [Option.map_some, Option.some.injEq, Prod.mk.injEq] at h
            obtain ⟨rfl, _⟩ := h
            simp

/-! the whole source -/
theorem cut_fuel : ∀ (f g : Nat) (l : Bs) (a : Nat), l.length < f → l.length < g → cut f l a = cut g l a
  | 0, _, l, _, h, _ => by omega
  | _, 0, l, _, _, h => by omega
  | f + 1, g + 1, l, a, h1, h2 => by
    unfold cut
    split
    · rfl
    · split
      · rfl
      · split
        · rfl
        · rename_i t k ho
          have := one_form ho
          have hl := spc_le l
          rw [List.length_drop] at this
          rw [cut_fuel f g _ _ (by rw [List.length_drop]; omega) (by rw [List.length_drop]; omega)]
def cutl (l : Bs) (a : Nat) : Nat ⊕ List Tk := cut (l.length + 1) l a
/-- a token ahead of what follows -/
def con (t : Tk) : Nat ⊕ List Tk → Nat ⊕ List Tk
  | .inl e => .inl e
  | .inr ts => .inr (t :: ts)
def conL (T : List Tk) : Nat ⊕ List Tk → Nat ⊕ List Tk
  | .inl e => .inl e
  | .inr ts => .inr (T ++ ts)
theorem conL_nil (x : Nat ⊕ List Tk) : conL [] x = x := by cases x <;> rfl
theorem conL_con (T : List Tk) (t : Tk) (x : Nat ⊕ List Tk) : conL T (con t x) = conL (T ++ [t]) x := by
  cases x <;> simp [conL, con]
theorem cutl_open {l : Bs} {n : Nat} (a : Nat) (h : spc l = (n, false)) : cutl l a = .inl (a + n) := by
  unfold cutl cut
  rw [h, if_pos rfl]
theorem cutl_end {l : Bs} (a : Nat) (h : spc l = (l.length, true)) : cutl l a = .inr [endT (a + l.length) (fresh l l.length)] := by
  unfold cutl cut
  rw [h, if_neg (by simp), if_pos rfl]
theorem cutl_bad {l : Bs} {n : Nat} (a : Nat) (h : spc l = (n, true)) (hn : n < l.length) (ho : one (l.drop n) = none) : cutl l a = .inl (a + n) := by
  unfold cutl cut
  rw [h, if_neg (by simp), if_neg (by show ¬ n = _; omega), ho]
theorem cutl_tok {l : Bs} {n k : Nat} {t : Tok} (a : Nat) (h : spc l = (n, true)) (hn : n < l.length) (ho : one (l.drop n) = some (t, k)) :
    cutl l a = con (mk t (a + n) (fresh l n)) (cutl (l.drop (n + k)) (a + n + k)) := by
  have hf := one_form ho
  rw [List.length_drop] at hf
  have e : cut l.length (l.drop (n + k)) (a + n + k) = cutl (l.drop (n + k)) (a + n + k) := cut_fuel _ _ _ _ (by rw [List.length_drop]; omega) (by omega)
  rw [← e]
  unfold cutl
  conv => lhs; unfold cut
  rw [h, if_neg (by simp), if_neg (by show ¬ n = _; omega), ho]
  rfl
/-- the four ways of a source's beginning -/
theorem cutl_ways (l : Bs) : (∃ n, spc l = (n, false) ∧ n ≤ l.length) ∨ spc l = (l.length, true) ∨ (∃ n, spc l = (n, true) ∧ n < l.length ∧ one (l.drop n) = none) ∨ ∃ n t k, spc l = (n, true) ∧ n < l.length ∧ one (l.drop n) = some (t, k) ∧ 0 < k ∧ n + k ≤ l.length := by
  have hl := spc_le l
  obtain ⟨n, c⟩ : ∃ n, ∃ c, spc l = (n, c) := ⟨_, _, rfl⟩
  obtain ⟨c, h⟩ := c
  rw [h] at hl
  cases c with
  | false => exact .inl ⟨n, h, hl⟩
  | true =>
    by_cases he : n = l.length
    · exact .inr (.inl (by rw [h, he]))
    · have hn : n < l.length := Nat.lt_of_le_of_ne hl he
      cases ho : one (l.drop n) with
      | none => exact .inr (.inr (.inl ⟨n, h, hn, ho⟩))
      | some x =>
        obtain ⟨t, k⟩ := x
        have hf := one_form ho
        rw [List.length_drop] at hf
        exact .inr (.inr (.inr ⟨n, t, k, h, hn, ho, hf.1, by omega⟩))

/-! places moved -/
def Tk.sh (d : Nat) (t : Tk) : Tk := ⟨t.k, t.t, t.n, t.a + d, t.f⟩
def shR (d : Nat) : Nat ⊕ List Tk → Nat ⊕ List Tk
  | .inl e => .inl (e + d)
  | .inr ts => .inr (ts.map (Tk.sh d))
theorem sh_con (d : Nat) (t : Tk) (x : Nat ⊕ List Tk) : shR d (con t x) = con (t.sh d) (shR d x) := by cases x <;> rfl
theorem sh_mk (d : Nat) (t : Tok) (a : Nat) (f : Bool) : (mk t a f).sh d = mk t (a + d) f := by
  unfold mk Tk.sh
  simp
theorem cutl_shift (d : Nat) : ∀ (m : Nat) (l : Bs) (a : Nat), l.length ≤ m → cutl l (a + d) = shR d (cutl l a) := by
  intro m
  induction m with
  | zero =>
    intro l a h
    have e : l = [] := List.eq_nil_of_length_eq_zero (by omega)
    subst e
    rw [cutl_end _ (by rfl), cutl_end _ (by rfl)]
    simp [shR, endT, Tk.sh]
  | succ m ih =>
    intro l a h
    rcases cutl_ways l with ⟨n, h1, _⟩ | h1 | ⟨n, h1, h2, h3⟩ | ⟨n, t, k, h1, h2, h3, h4, h5⟩
    · rw [cutl_open _ h1, cutl_open _ h1]
      simp only [shR]
      congr 1
      omega
    · rw [cutl_end _ h1, cutl_end _ h1]
      simp only [shR, List.map_cons, List.map_nil, endT, Tk.sh]
      congr 3
      simp
      omega
    · rw [cutl_bad _ h1 h2 h3, cutl_bad _ h1 h2 h3]
      simp only [shR]
      congr 1
      omega
    · rw [cutl_tok _ h1 h2 h3, cutl_tok _ h1 h2 h3, sh_con, sh_mk, ← ih _ _ (by rw [List.length_drop]; omega)]
      congr 1
      · congr 1
        omega
      · congr 1
        omega
/-- the first token stands behind a line's end -/
def ff : Nat ⊕ List Tk → Nat ⊕ List Tk
  | .inl e => .inl e
  | .inr [] => .inr []
  | .inr (t :: ts) => .inr (⟨t.k, t.t, t.n, t.a, true⟩ :: ts)
theorem ff_con (t : Tk) (x : Nat ⊕ List Tk) : ff (con t x) = con ⟨t.k, t.t, t.n, t.a, true⟩ x := by cases x <;> rfl
theorem fresh_cons (c : UInt8) (l : Bs) (n : Nat) : fresh (c :: l) (1 + n) = (el c || fresh l n) := by
  unfold fresh
  rw [Nat.add_comm 1 n, List.take_succ_cons, List.any_cons]
theorem spc_cons {c : UInt8} (h : ws c = true) (l : Bs) : spc (c :: l) = (1 + (spc l).1, (spc l).2) := by
  rw [spc_some (n := 1) (by unfold ws1; simp only; rw [if_pos h])]
  rfl
theorem drop_one (c : UInt8) (l : Bs) (n : Nat) : (c :: l).drop (1 + n) = l.drop n := by
  rw [Nat.add_comm, List.drop_succ_cons]
/-- a blank ahead of a source -/
theorem cutl_blank {c : UInt8} (h : ws c = true) (l : Bs) (a : Nat) : cutl (c :: l) a = if el c then ff (cutl l (a + 1)) else cutl l (a + 1) := by
  have hs := spc_cons h l
  rcases cutl_ways l with ⟨n, h1, _⟩ | h1 | ⟨n, h1, h2, h3⟩ | ⟨n, t, k, h1, h2, h3, h4, h5⟩
  · rw [h1] at hs
    rw [cutl_open _ hs, cutl_open _ h1]
    simp only [ff]
    split <;> (congr 1; omega)
  · rw [h1] at hs
    have hs' : spc (c :: l) = ((c :: l).length, true) := by rw [hs, List.length_cons, Nat.add_comm]
    rw [cutl_end _ hs', cutl_end _ h1]
    have e : fresh (c :: l) (c :: l).length = (el c || fresh l l.length) := by rw [List.length_cons, Nat.add_comm, fresh_cons]
    rw [e]
    have e2 : a + (c :: l).length = a + 1 + l.length := by rw [List.length_cons]; omega
    rw [e2]
    cases el c <;> simp [ff, endT]
  · rw [h1] at hs
    rw [cutl_bad _ hs (by simp only [List.length_cons]; omega) (by rw [drop_one]; exact h3), cutl_bad _ h1 h2 h3]
    simp only [ff]
    split <;> (congr 1; omega)
  · rw [h1] at hs
    rw [cutl_tok _ hs (by simp only [List.length_cons]; omega) (by rw [drop_one]; exact h3), cutl_tok _ h1 h2 h3, ff_con]
    simp only
    rw [fresh_cons, Nat.add_assoc 1 n k, drop_one, ← Nat.add_assoc a 1 n]
    cases el c <;> simp [mk]

/-! what a byte 10 or 32 behind leaves as it was -/
/-- a byte that ends a token -/
def gap (d : UInt8) : Prop := d = 10 ∨ d = 32
theorem gap_ne {d x : UInt8} (h : gap d) (h1 : ¬ x = 10) (h2 : ¬ x = 32) : ¬ d = x := by
  rcases h with rfl | rfl
  · exact fun e => h1 e.symm
  · exact fun e => h2 e.symm
theorem gap_ib {d : UInt8} (h : gap d) : ib d = false := by rcases h with rfl | rfl <;> rfl
theorem gap_dg {d : UInt8} (h : gap d) : dg d = false := by rcases h with rfl | rfl <;> rfl
theorem gap_hx {d : UInt8} (h : gap d) : hx d = false := by rcases h with rfl | rfl <;> rfl
theorem gap_free {d : UInt8} (h : gap d) (m : Bs) : free (d :: m) = true := by rcases h with rfl | rfl <;> rfl
theorem head_app {d x : UInt8} (h : ¬ d = x) (r m : Bs) : (r ++ d :: m).head? = some x ↔ r.head? = some x := by
  cases r with
  | nil => simp [h]
  | cons c t => simp
theorem isH_app {d : UInt8} (h : gap d) (m : Bs) : ∀ {l : Bs}, l ≠ [] → isH (l ++ d :: m) = isH l
  | [], hl => absurd rfl hl
  | [a], _ => by
    have h1 := gap_ne (x := 120) h (by decide) (by decide)
    have h2 := gap_ne (x := 88) h (by decide) (by decide)
    cases m with
    | nil => rfl
    | cons b t => simp [isH, h1, h2]
  | [a, x], _ => by simp [isH, gap_hx h]
  | a :: x :: y :: r, _ => rfl
theorem isH_long {l : Bs} (h : isH l = true) : 3 ≤ l.length := by
  match l, h with
  | _ :: _ :: _ :: _, _ => simp
theorem take_app_le {l m : Bs} {k : Nat} (h : k ≤ l.length) : (l ++ m).take k = l.take k := by
  rw [List.take_append_of_le_length h]
theorem drop_app_le {l m : Bs} {k : Nat} (h : k ≤ l.length) : (l ++ m).drop k = l.drop k ++ m := by
  rw [List.drop_append_of_le_length h]
theorem nparts_app {d : UInt8} (h : gap d) (m : Bs) {l : Bs} (hl : l ≠ []) : nparts (l ++ d :: m) = nparts l := by
  unfold nparts
  rw [isH_app h m hl]
  split
  · rename_i hh
    have := isH_long hh
    rw [drop_app_le (by omega), run_app (gap_hx h), take_app_le (run_le _ _)]
  · obtain ⟨c, r, rfl⟩ := List.exists_cons_of_ne_nil hl
    rw [run_app (gap_dg h), take_app_le (run_le _ _)]
    rfl
theorem num_app {d c : UInt8} (h : gap d) (m : Bs) {r : Bs} (hd : dg c = true) : num (c :: r ++ d :: m) = num (c :: r) := by
  have hf := nparts_form (r := r) hd
  unfold num
  rw [nparts_app h m (by simp), drop_app_le hf.2]
  have e : free ((c :: r).drop (nparts (c :: r)).2.2 ++ d :: m) = free ((c :: r).drop (nparts (c :: r)).2.2) := by
    cases (c :: r).drop (nparts (c :: r)).2.2 with
    | nil => exact gap_free h m
    | cons x t => rfl
  rw [e]
theorem prefix_app {d : UInt8} (m : Bs) : ∀ {g l : Bs}, ¬ d ∈ g → g.isPrefixOf (l ++ d :: m) = g.isPrefixOf l
  | [], l, _ => by simp
  | x :: g, [], h => by
    have h1 : ¬ x = d := fun e => h (by simp [e])
    simp [List.isPrefixOf, h1]
  | x :: g, c :: l, h => by
    have ih := prefix_app m (g := g) (l := l) fun e => h (List.mem_cons_of_mem _ e)
    simp only [List.cons_append, List.isPrefixOf, ih]
theorem signs_gap10 : ∀ g ∈ signs, ¬ (10 : UInt8) ∈ g := by decide +kernel
theorem signs_gap32 : ∀ g ∈ signs, ¬ (32 : UInt8) ∈ g := by decide +kernel
theorem signs_gap {d : UInt8} (h : gap d) : ∀ g ∈ signs, ¬ d ∈ g := by
  rcases h with rfl | rfl
  · exact signs_gap10
  · exact signs_gap32
theorem find_same {α : Type} {p q : α → Bool} : ∀ {l : List α}, (∀ x ∈ l, p x = q x) → l.find? p = l.find? q
  | [], _ => rfl
  | x :: l, h => by
    rw [List.find?_cons, List.find?_cons, h x (by simp), find_same fun y hy => h y (by simp [hy])]
theorem sg_app {d : UInt8} (h : gap d) (m l : Bs) : sg (l ++ d :: m) = sg l := by
  unfold sg
  exact find_same fun g hg => prefix_app m (signs_gap h g hg)
theorem esc_app {l m : Bs} {x : List Nat × Nat} (h : esc l = some x) (hn : x.2 < l.length) : esc (l ++ m) = some x := by
  cases l with
  | nil => cases h
  | cons c r =>
    rw [List.cons_append]
    unfold esc at h ⊢
    simp only at h ⊢
    split at h
    · rename_i hc; rw [if_pos hc]; exact h
    · rename_i hc
      rw [if_neg hc]
      split at h
      · rename_i hc2
        rw [if_pos hc2]
        cases r with
        | nil =>
          simp only at h
          injection h with h
          subst h
          simp at hn
        | cons d t => exact h
      · rename_i hc2
        rw [if_neg hc2]
        split at h
        · rename_i hc3
          rw [if_pos hc3]
          split at h
          · cases h
          · rename_i hl
            rw [if_neg (by rw [List.length_append]; omega), take_app_le (by omega)]
            exact h
        · rename_i hc3
          rw [if_neg hc3]
          split at h
          · rename_i hc4
            rw [if_pos hc4]
            split at h
            · cases h
            · rename_i hl
              rw [if_neg (by rw [List.length_append]; omega), take_app_le (by omega)]
              exact h
          · rename_i hc4
            rw [if_neg hc4]
            exact h
theorem unit1_app {l m : Bs} {ls : List Nat} {n : Nat} (h : unit1 l = some (ls, n)) (hn : n < l.length) : unit1 (l ++ m) = some (ls, n) := by
  cases l with
  | nil => cases h
  | cons c r =>
    rw [List.cons_append]
    rw [unit1_cons] at h ⊢
    split at h
    · rename_i hc
      rw [if_pos hc]
      unfold esc1 at h ⊢
      cases he : esc r with
      | none => rw [he] at h; cases h
      | some x =>
        obtain ⟨ls', n'⟩ := x
        rw [he] at h
        simp only [Option.some.injEq, Prod.mk.injEq] at h
        obtain ⟨rfl, rfl⟩ := h
        rw [esc_app he (by simp only [List.length_cons] at hn; show n' < _; omega)]
    · rename_i hc
      rw [if_neg hc]
      exact h
theorem rdGo_app (q : UInt8) (m : Bs) : ∀ (f g : Nat) (l : Bs) (out : List Nat) (k : Nat) (r : List Nat × Nat), f ≤ g → rdGo q f l out k = some r → rdGo q g (l ++ m) out k = some r
  | 0, g, l, out, k, r, _, h => by cases l <;> simp [rdGo] at h
  | f + 1, 0, l, out, k, r, hf, _ => by omega
  | f + 1, g + 1, [], out, k, r, _, h => by simp [rdGo] at h
  | f + 1, g + 1, c :: t, out, k, r, hf, h => by
    by_cases hc : c = q
    · subst hc
      rw [rdGo_quote] at h
      rw [List.cons_append, rdGo_quote]
      exact h
    · cases hu : unit1 (c :: t) with
      | none => rw [rdGo_none hc hu] at h; cases h
      | some x =>
        obtain ⟨ls, n⟩ := x
        rw [rdGo_some hc hu] at h
        obtain ⟨_, h1, h2⟩ := unit1_form hu
        have hr := rdGo_form q f _ _ _ r h
        have hlt : n < (c :: t).length := by
          rcases Nat.lt_or_ge n (c :: t).length with h | h'
          · exact h
          · rw [List.drop_of_length_le h', rdGo_nil] at h
            cases h
        have hu' := unit1_app (m := m) hu hlt
        rw [List.cons_append] at hu' ⊢
        rw [rdGo_some hc hu', ← List.cons_append, drop_app_le h2]
        exact rdGo_app q m f g _ _ _ r (by omega) h
theorem read_app {l m : Bs} {r : List Nat × Nat} (h : read l = some r) : read (l ++ m) = some r := by
  unfold read at h
  cases l with
  | nil => cases h
  | cons c t =>
    simp only at h
    split at h
    · rename_i hc
      show (if c = 39 ∨ c = 34 then rdGo c ((t ++ m).length + 1) (t ++ m) [] 1 else none) = _
      rw [if_pos hc]
      exact rdGo_app c m _ _ _ _ _ r (by rw [List.length_append]; omega) h
    · cases h
theorem one_app {d : UInt8} (hg : gap d) (m : Bs) {l : Bs} {x : Tok × Nat} (h : one l = some x) : one (l ++ d :: m) = some x := by
  cases l with
  | nil => cases h
  | cons c r =>
    unfold one at h ⊢
    simp only [List.cons_append] at h ⊢
    split at h
    · rename_i hd
      rw [if_pos hd, ← List.cons_append, num_app hg m hd]
      exact h
    · rename_i hd
      rw [if_neg hd]
      split at h
      · rename_i hb
        have e1 : run ib (c :: (r ++ d :: m)) = run ib (c :: r) := run_app (gap_ib hg) m (c :: r)
        have e2 : (c :: (r ++ d :: m)).take (run ib (c :: r)) = (c :: r).take (run ib (c :: r)) := take_app_le (l := c :: r) (run_le _ _)
        rw [if_pos hb]
        simp only [e1, e2]
        exact h
      · rename_i hb
        rw [if_neg hb]
        split at h
        · rename_i hq
          rw [if_pos hq]
          cases hr : read (c :: r) with
          | none => rw [hr] at h; cases h
          | some x =>
            rw [hr] at h
            rw [← List.cons_append, read_app hr]
            exact h
        · rename_i hq
          rw [if_neg hq, ← List.cons_append, sg_app hg]
          exact h
theorem ws1_off {d : UInt8} (hg : gap d) (m : Bs) {l : Bs} (hl : l ≠ []) (h : ws1 l = some none) : ws1 (l ++ d :: m) = some none := by
  cases l with
  | nil => exact absurd rfl hl
  | cons c r =>
    have h47 := head_app (gap_ne (x := 47) hg (by decide) (by decide)) r m
    have h42 := head_app (gap_ne (x := 42) hg (by decide) (by decide)) r m
    unfold ws1 at h ⊢
    simp only [List.cons_append, h47, h42] at h ⊢
    split at h
    · cases h
    · rename_i h1
      rw [if_neg h1]
      split at h
      · cases h
      · rename_i h2
        rw [if_neg h2]
        split at h
        · split at h <;> cases h
        · rename_i h3
          rw [if_neg h3]
theorem ws1_app10 (m : Bs) {l : Bs} {n : Nat} (h : ws1 l = some (some n)) : ws1 (l ++ 10 :: m) = some (some n) := by
  cases l with
  | nil => cases h
  | cons c r =>
    have hg : gap 10 := .inl rfl
    have h47 := head_app (gap_ne (x := 47) hg (by decide) (by decide)) r m
    have h42 := head_app (gap_ne (x := 42) hg (by decide) (by decide)) r m
    unfold ws1 at h ⊢
    simp only [List.cons_append, h47, h42] at h ⊢
    split at h
    · rename_i h1
      rw [if_pos h1]
      exact h
    · rename_i h1
      rw [if_neg h1]
      split at h
      · rename_i h2
        rw [if_pos h2, ← List.cons_append, run_app (by rfl)]
        exact h
      · rename_i h2
        rw [if_neg h2]
        split at h
        · rename_i h3
          rw [if_pos h3]
          have hr : r ≠ [] := by intro e; rw [e] at h3; simp at h3
          obtain ⟨x, t, rfl⟩ := List.exists_cons_of_ne_nil hr
          simp only [List.cons_append, List.drop_succ_cons, List.drop_zero] at h ⊢
          cases hf : fin t with
          | none => rw [hf] at h; cases h
          | some j =>
            rw [hf] at h
            rw [fin_app (10 :: m) hf]
            exact h
        · cases h
/-- white space up to the end, and a line feed behind it -/
theorem spc_white (m : Bs) : ∀ (f : Nat) (l : Bs), l.length ≤ f → spc l = (l.length, true) → spc (l ++ 10 :: m) = (l.length + (spc (10 :: m)).1, (spc (10 :: m)).2) := by
  intro f
  induction f with
  | zero =>
    intro l h _
    have e : l = [] := List.eq_nil_of_length_eq_zero (by omega)
    subst e
    simp
  | succ f ih =>
    intro l h hs
    cases hw : ws1 l with
    | none => rw [spc_open hw] at hs; exact absurd (congrArg Prod.snd hs) (by simp)
    | some o =>
      cases o with
      | none =>
        rw [spc_none hw] at hs
        injection hs with hs _
        have e : l = [] := List.eq_nil_of_length_eq_zero hs.symm
        subst e
        simp
      | some n =>
        have hp := ws1_pos hw
        rw [spc_some hw] at hs
        injection hs with h1 h2
        have e := ih (l.drop n) (by rw [List.length_drop]; omega) (by
          rw [← h2, List.length_drop]
          have : (spc (l.drop n)).1 = l.length - n := by omega
          rw [← this])
        rw [spc_some (ws1_app10 m hw), drop_app_le hp.2, e, List.length_drop]
        simp only
        congr 1
        omega
theorem spc_stop (m : Bs) : ∀ (f : Nat) (l : Bs) (n : Nat), l.length ≤ f → spc l = (n, true) → n < l.length → spc (l ++ 10 :: m) = (n, true) := by
  intro f
  induction f with
  | zero => intro l n h _ hn; omega
  | succ f ih =>
    intro l n h hs hn
    cases hw : ws1 l with
    | none => rw [spc_open hw] at hs; exact absurd (congrArg Prod.snd hs) (by simp)
    | some o =>
      cases o with
      | none =>
        rw [spc_none hw] at hs
        rw [spc_none (ws1_off (.inl rfl) m (by intro e; subst e; simp at hn) hw)]
        exact hs
      | some k =>
        have hp := ws1_pos hw
        rw [spc_some hw] at hs
        injection hs with h1 h2
        have e := ih (l.drop k) (spc (l.drop k)).1 (by rw [List.length_drop]; omega) (by rw [← h2]) (by rw [List.length_drop]; omega)
        rw [spc_some (ws1_app10 m hw), drop_app_le hp.2, e]
        simp only
        rw [h1]
theorem fresh_app {l m : Bs} {n : Nat} (h : n ≤ l.length) : fresh (l ++ m) n = fresh l n := by
  unfold fresh
  rw [take_app_le h]
theorem fresh_over (l m : Bs) (n : Nat) : fresh (l ++ 10 :: m) (l.length + (1 + n)) = true := by
  unfold fresh
  rw [List.any_eq_true]
  refine ⟨10, ?_, rfl⟩
  rw [Nat.add_comm 1 n, List.take_length_add_append, List.take_succ_cons]
  simp
/-- two sources with a line feed between -/
theorem cutl_join (b : Bs) : ∀ (f : Nat) (l : Bs) (a : Nat) (x : List Tk), l.length ≤ f → cutl l a = .inr x → x ≠ [] ∧ cutl (l ++ 10 :: b) a = conL x.dropLast (ff (cutl b (a + l.length + 1))) := by
  intro f
  induction f with
  | zero =>
    intro l a x h hx
    have e : l = [] := List.eq_nil_of_length_eq_zero (by omega)
    subst e
    rw [cutl_end _ (by rfl)] at hx
    injection hx with hx
    subst hx
    refine ⟨by simp, ?_⟩
    rw [List.nil_append, cutl_blank (by rfl), if_pos (by rfl)]
    simp [conL_nil]
  | succ f ih =>
    intro l a x h hx
    rcases cutl_ways l with ⟨n, h1, _⟩ | h1 | ⟨n, h1, h2, h3⟩ | ⟨n, t, k, h1, h2, h3, h4, h5⟩
    · rw [cutl_open _ h1] at hx; cases hx
    · rw [cutl_end _ h1] at hx
      injection hx with hx
      subst hx
      refine ⟨by simp, ?_⟩
      have hw := spc_white b l.length l (Nat.le_refl _) h1
      rw [spc_cons (by rfl)] at hw
      rw [show ([endT (a + l.length) (fresh l l.length)] : List Tk).dropLast = [] from rfl, conL_nil]
      rcases cutl_ways b with ⟨n, g1, _⟩ | g1 | ⟨n, g1, g2, g3⟩ | ⟨n, t, k, g1, g2, g3, g4, g5⟩
      · rw [g1] at hw
        rw [cutl_open _ hw, cutl_open _ g1]
        simp only [ff]
        congr 1
        omega
      · rw [g1] at hw
        have hw' : spc (l ++ 10 :: b) = ((l ++ 10 :: b).length, true) := by rw [hw, List.length_append, List.length_cons, Nat.add_comm 1]
        rw [cutl_end _ hw', cutl_end _ g1]
        have e : (l ++ 10 :: b).length = l.length + (1 + b.length) := by rw [List.length_append, List.length_cons]; omega
        rw [e, fresh_over]
        simp only [ff, endT]
        congr 3
        omega
      · rw [g1] at hw
        have ed : (l ++ 10 :: b).drop (l.length + (1 + n)) = b.drop n := by rw [List.drop_length_add_append, drop_one]
        rw [cutl_bad _ hw (by rw [List.length_append, List.length_cons]; omega) (by rw [ed]; exact g3), cutl_bad _ g1 g2 g3]
        simp only [ff]
        congr 1
        omega
      · rw [g1] at hw
        have ed : ∀ n, (l ++ 10 :: b).drop (l.length + (1 + n)) = b.drop n := fun n => by rw [List.drop_length_add_append, drop_one]
        rw [cutl_tok _ hw (by rw [List.length_append, List.length_cons]; omega) (by rw [ed]; exact g3), cutl_tok _ g1 g2 g3, ff_con]
        have e1 : l.length + (1 + n) + k = l.length + (1 + (n + k)) := by omega
        rw [e1, ed, fresh_over]
        have e2 : a + (l.length + (1 + n)) = a + l.length + 1 + n := by omega
        rw [e2]
        rfl
    · rw [cutl_bad _ h1 h2 h3] at hx; cases hx
    · rw [cutl_tok _ h1 h2 h3] at hx
      cases hc : cutl (l.drop (n + k)) (a + n + k) with
      | inl e => rw [hc] at hx; cases hx
      | inr y =>
        rw [hc] at hx
        injection hx with hx
        subst hx
        obtain ⟨hy, e⟩ := ih (l.drop (n + k)) (a + n + k) y (by rw [List.length_drop]; omega) hc
        refine ⟨by simp, ?_⟩
        have hw := spc_stop b l.length l n (Nat.le_refl _) h1 h2
        rw [cutl_tok _ hw (by rw [List.length_append]; omega) (by rw [drop_app_le (by omega)]; exact one_app (.inl rfl) b h3), fresh_app (by omega), drop_app_le (by omega), e]
        have e2 : a + n + k + (l.drop (n + k)).length + 1 = a + l.length + 1 := by rw [List.length_drop]; omega
        rw [e2, List.dropLast_cons_of_ne_nil hy]
        cases ff (cutl b (a + l.length + 1)) <;> rfl

/-! places rise -/
/-- the tokens of a source of which the last byte's place is z: places rise from lo on, the end's token is the last one -/
def Rise (z : Nat) : Nat → List Tk → Prop
  | _, [] => False
  | lo, t :: ts => (lo : Int) ≤ t.a ∧ t.a ≤ z ∧ ((ts = [] ∧ t.k = 0 ∧ t.a = z) ∨ (ts ≠ [] ∧ 0 < t.k ∧ ∃ p : Nat, t.a = p ∧ Rise z (p + 1) ts))
theorem Rise.low {z : Nat} {lo lo' : Nat} {ts : List Tk} (h : Rise z lo ts) (hl : lo' ≤ lo) : Rise z lo' ts := by
  cases ts with
  | nil => exact h
  | cons t ts => exact ⟨by have := h.1; omega, h.2⟩
theorem Rise.ne {z lo : Nat} {ts : List Tk} (h : Rise z lo ts) : ts ≠ [] := by
  intro e; subst e; exact h
theorem cutl_rise : ∀ (f : Nat) (l : Bs) (a : Nat), l.length ≤ f → (∀ p, cutl l a = .inl p → a ≤ p ∧ p ≤ a + l.length) ∧ ∀ ts, cutl l a = .inr ts → Rise (a + l.length) a ts := by
  intro f
  induction f with
  | zero =>
    intro l a h
    have e : l = [] := List.eq_nil_of_length_eq_zero (by omega)
    subst e
    rw [cutl_end _ (by rfl)]
    refine ⟨fun p hp => (by cases hp), fun ts ht => ?_⟩
    injection ht with ht
    subst ht
    exact ⟨by simp [endT], by simp [endT], .inl ⟨rfl, rfl, rfl⟩⟩
  | succ f ih =>
    intro l a h
    rcases cutl_ways l with ⟨n, h1, h2⟩ | h1 | ⟨n, h1, h2, h3⟩ | ⟨n, t, k, h1, h2, h3, h4, h5⟩
    · rw [cutl_open _ h1]
      refine ⟨fun p hp => ?_, fun ts ht => (by cases ht)⟩
      injection hp with hp
      omega
    · rw [cutl_end _ h1]
      refine ⟨fun p hp => (by cases hp), fun ts ht => ?_⟩
      injection ht with ht
      subst ht
      exact ⟨by show (a : Int) ≤ ((a + l.length : Nat) : Int); omega, by simp [endT], .inl ⟨rfl, rfl, rfl⟩⟩
    · rw [cutl_bad _ h1 h2 h3]
      refine ⟨fun p hp => ?_, fun ts ht => (by cases ht)⟩
      injection hp with hp
      omega
    · rw [cutl_tok _ h1 h2 h3]
      obtain ⟨i1, i2⟩ := ih (l.drop (n + k)) (a + n + k) (by rw [List.length_drop]; omega)
      have e : a + n + k + (l.drop (n + k)).length = a + l.length := by rw [List.length_drop]; omega
      rw [e] at i1 i2
      cases hc : cutl (l.drop (n + k)) (a + n + k) with
      | inl p =>
        refine ⟨fun q hq => ?_, fun ts ht => (by cases ht)⟩
        injection hq with hq
        have := i1 p hc
        omega
      | inr y =>
        refine ⟨fun q hq => (by cases hq), fun ts ht => ?_⟩
        injection ht with ht
        subst ht
        have hy := i2 y hc
        have hk := one_kind h3
        exact ⟨by show (a : Int) ≤ ((a + n : Nat) : Int); omega, by show ((a + n : Nat) : Int) ≤ ((a + l.length : Nat) : Int); omega, .inr ⟨hy.ne, by show (0 : Int) < (t.k : Nat); omega, a + n, rfl, hy.low (by omega)⟩⟩
end Go.Proofs.YtkaamaopjcaalaaDoor.T
