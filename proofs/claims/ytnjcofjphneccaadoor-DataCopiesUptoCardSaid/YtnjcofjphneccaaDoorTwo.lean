/-
  TWO STACKS, apart from one another; the head of Same.
-/
import Derived.Test.YtnjcofjphneccaaDoorSize
import Derived.Test.YtnjcofjphneccaaDoorRSm
import Derived.Deep.DeepCutAuto
namespace Go.Proofs.YtnjcofjphneccaaDoor
open Go.RowKit

/-- the blocks of a stack: its variable's, its row's -/
def foot (w : World) (b k : Nat) : Prop := k = b ∨ ∃ v, w.cell? ⟨b, 0, none⟩ = some v ∧ v.ownBlock = some k
theorem Stk.foot_lt {w : World} {F : Nat → Prop} {b : Nat} {st : List Pr} (h : Stk w F b st) {k : Nat} (hk : foot w b k) : k < w.heap.size := by
  obtain ⟨v, hc, _, hbs, _, hown, _⟩ := h
  rcases hk with rfl | ⟨v', hc', ho⟩
  · exact hbs
  · rw [hc] at hc'
    cases hc'
    exact (hown.lt k ho).2
theorem Stk.fr {w w' : World} {F F' : Nat → Prop} {b : Nat} {st : List Pr} (h : Stk w F b st) (hfr : Fr F' w w') (hF : ∀ k, foot w b k → F' k) : Stk w' F b st := by
  obtain ⟨v, hc, hf, hbs, hFb, hown, hk⟩ := h
  have hb : F' b := hF b (.inl rfl)
  exact ⟨v, (hfr.cell (p := ⟨b, 0, none⟩) hb).trans hc, (World.frozen?_of_block (w := w) (hfr.block b hb)).trans hf, Nat.lt_of_lt_of_le hbs hfr.size, hFb, own_push hown fun k hk' => hfr.block k (hF k (.inr ⟨v, hc, hk'⟩)), hk⟩
theorem foot_fr {w w' : World} {F' : Nat → Prop} {b k : Nat} (hfr : Fr F' w w') (hb : F' b) : foot w' b k ↔ foot w b k := by
  unfold foot
  rw [hfr.cell (p := ⟨b, 0, none⟩) hb]
/-- two stacks away from the blocks F and from one another -/
def Two (w : World) (F : Nat → Prop) (b1 : Nat) (s1 : List Pr) (b2 : Nat) (s2 : List Pr) : Prop := Stk w F b2 s2 ∧ Stk w (fun k => F k ∨ foot w b2 k) b1 s1
theorem Stk.less {w : World} {F F' : Nat → Prop} {b : Nat} {st : List Pr} (h : Stk w F b st) (hF : ∀ k, F' k → F k) : Stk w F' b st := h.mono fun k hk _ => .inl (hF k hk)
theorem Two.symm {w : World} {F : Nat → Prop} {b1 b2 : Nat} {s1 s2 : List Pr} (h : Two w F b1 s1 b2 s2) : Two w F b2 s2 b1 s1 := by
  obtain ⟨h2, h1⟩ := h
  refine ⟨h1.less fun k hk => .inl hk, ?_⟩
  obtain ⟨v1, c1, f1, l1, n1, o1, k1⟩ := h1
  obtain ⟨v2, c2, f2, l2, n2, o2, k2⟩ := h2
  refine ⟨v2, c2, f2, l2, ?_, o2, fun k hk => ⟨(k2 k hk).1, ?_⟩⟩
  · rintro (h | h)
    · exact n2 h
    · rcases h with rfl | ⟨v, hv, hb⟩
      · exact n1 (.inr (.inl rfl))
      · rw [c1] at hv
        cases hv
        exact (k1 _ hb).2 (.inr (.inl rfl))
  · rintro (h | h)
    · exact (k2 k hk).2 h
    · have hf : foot w b2 k := .inr ⟨v2, c2, hk⟩
      rcases h with rfl | ⟨v, hv, hb⟩
      · exact n1 (.inr hf)
      · rw [c1] at hv
        cases hv
        exact (k1 _ hb).2 (.inr hf)
theorem Two.step {w w' : World} {F : Nat → Prop} {b1 b2 : Nat} {s1 s1' s2 : List Pr} (h : Two w F b1 s1 b2 s2) (h' : Stk w' (fun k => F k ∨ foot w b2 k) b1 s1') (hfr : Fr (fun k => F k ∨ foot w b2 k) w w') : Two w' F b1 s1' b2 s2 := by
  refine ⟨h.1.fr hfr fun k hk => .inr hk, h'.less fun k hk => ?_⟩
  rcases hk with hk | hk
  · exact .inl hk
  · exact .inr ((foot_fr hfr (.inr (.inl rfl))).1 hk)
theorem Two.lt {w : World} {F : Nat → Prop} {b1 b2 : Nat} {s1 s2 : List Pr} (h : Two w F b1 s1 b2 s2) (hF : ∀ k, F k → k < w.heap.size) : ∀ k, F k ∨ foot w b2 k → k < w.heap.size := fun k hk => by
  rcases hk with hk | hk
  · exact hF k hk
  · exact h.1.foot_lt hk
theorem Two.below {w w' : World} {F : Nat → Prop} {b1 b2 : Nat} {s1 s2 : List Pr} (h : Two w F b1 s1 b2 s2) (hF : ∀ k, F k → k < w.heap.size) (hb : Below w.heap.size w w') : Two w' F b1 s1 b2 s2 :=
  h.step (h.2.below hb) (Fr.of hb (h.lt hF))
theorem Two.fst {w : World} {F : Nat → Prop} {b1 b2 : Nat} {s1 s2 : List Pr} (h : Two w F b1 s1 b2 s2) : Stk w F b1 s1 := h.2.less fun _ hk => .inl hk
theorem leave_two (F : Nat → Prop) (b1 b2 : Nat) (s1 s2 : List Pr) (p : Pr) (w : World) (hF : ∀ k, F k → k < w.heap.size) (h : Two w F b1 (s1 ++ [p]) b2 s2) (hl : s1.length ≤ 4194304) :
    Calls Tryd.prog 25 #[.pointer (some ⟨b1, 0, none⟩)] w fun e w' => e = .returned p.v ∧ Two w' F b1 s1 b2 s2 ∧ Fr F w w' :=
  (leave_any _ b1 s1 p w (h.lt hF) h.2 hl).mono fun _ _ ⟨h1, h2, h3⟩ => ⟨h1, h.step h2 h3, h3.mono fun _ hk => .inl hk⟩
theorem leave_two2 (F : Nat → Prop) (b1 b2 : Nat) (s1 s2 : List Pr) (p : Pr) (w : World) (hF : ∀ k, F k → k < w.heap.size) (h : Two w F b1 s1 b2 (s2 ++ [p])) (hl : s2.length ≤ 4194304) :
    Calls Tryd.prog 25 #[.pointer (some ⟨b2, 0, none⟩)] w fun e w' => e = .returned p.v ∧ Two w' F b1 s1 b2 s2 ∧ Fr F w w' :=
  (leave_two F b2 b1 s2 s1 p w hF h.symm hl).mono fun _ _ ⟨h1, h2, h3⟩ => ⟨h1, h2.symm, h3⟩
theorem enter_two (F : Nat → Prop) (b1 b2 : Nat) (s1 s2 : List Pr) (A : Option Addr) (ys : List X) (c : Nat) (d : Int) (w : World) (hF : ∀ k, F k → k < w.heap.size) (h : Two w F b1 s1 b2 s2) (hy : Cells w F A ys)
    (hl : s1.length + ys.length ≤ 4194304) (hd : 0 ≤ d) (hd2 : d ≤ 4194304) :
    Calls Tryd.prog 28 #[.pointer (some ⟨b1, 0, none⟩), .agg #[.slice A ys.length c, .int .i64 d]] w fun e w' => e = .returned (.tuple #[]) ∧ Two w' F b1 (s1 ++ kids d ys) b2 s2 ∧ Fr F w w' :=
  (enter_any _ b1 s1 A ys c d w (h.lt hF) h.2 (hy.fr (fun _ hk => .inl hk) (Fr.refl F w)) hl hd hd2).mono fun _ _ ⟨h1, h2, h3⟩ => ⟨h1, h.step h2 h3, h3.mono fun _ hk => .inl hk⟩
theorem enter_two2 (F : Nat → Prop) (b1 b2 : Nat) (s1 s2 : List Pr) (A : Option Addr) (ys : List X) (c : Nat) (d : Int) (w : World) (hF : ∀ k, F k → k < w.heap.size) (h : Two w F b1 s1 b2 s2) (hy : Cells w F A ys)
    (hl : s2.length + ys.length ≤ 4194304) (hd : 0 ≤ d) (hd2 : d ≤ 4194304) :
    Calls Tryd.prog 28 #[.pointer (some ⟨b2, 0, none⟩), .agg #[.slice A ys.length c, .int .i64 d]] w fun e w' => e = .returned (.tuple #[]) ∧ Two w' F b1 s1 b2 (s2 ++ kids d ys) ∧ Fr F w w' :=
  (enter_two F b2 b1 s2 s1 A ys c d w hF h.symm hy hl hd hd2).mono fun _ _ ⟨h1, h2, h3⟩ => ⟨h1, h2.symm, h3⟩
theorem Two.move {w : World} {F : Nat → Prop} {b1 b2 : Nat} {s1 s2 : List Pr} {A : Option Addr} {c : Nat} (h : Two w F b1 s1 b2 s2) (hF : ∀ k, F k → k < w.heap.size) (hc : w.cell? ⟨b1, 0, none⟩ = some (.slice A s1.length c)) :
    Two (w.alloc (.cells #[.slice A s1.length c] 41)) F w.heap.size s1 b2 s2 := by
  have h1 := h.2.move (h.lt hF) hc
  have hfr : Fr (fun k => F k ∨ foot w b2 k) w (w.alloc (.cells #[.slice A s1.length c] 41)) := (Fr.refl _ w).alloc (h.lt hF) _
  exact h.step (b1 := b1) (s1' := s1) (h.2.alloc _) hfr |>.1 |> fun h2 => ⟨h2, h1.less fun k hk => by
    rcases hk with hk | hk
    · exact .inl hk
    · exact .inr ((foot_fr hfr (.inr (.inl rfl))).1 hk)⟩

theorem Stk.foot_not {w : World} {F : Nat → Prop} {b : Nat} {st : List Pr} (h : Stk w F b st) {k : Nat} (hk : foot w b k) : ¬ F k := by
  obtain ⟨v, hc, _, _, hF, _, hk'⟩ := h
  rcases hk with rfl | ⟨v', hc', ho⟩
  · exact hF
  · rw [hc] at hc'
    cases hc'
    exact (hk' k ho).2
/-- a write to a block of F that is no stack's -/
theorem Two.off {w w' : World} {F : Nat → Prop} {b1 b2 p : Nat} {s1 s2 : List Pr} (h : Two w F b1 s1 b2 s2) (hfr : Fr (fun k => k ≠ p) w w') (hp : F p) : Two w' F b1 s1 b2 s2 := by
  have h2 : ∀ k, foot w b2 k → k ≠ p := fun k hk e => h.1.foot_not hk (e ▸ hp)
  refine ⟨h.1.fr hfr h2, (h.2.fr hfr fun k hk e => h.2.foot_not hk (e ▸ .inl hp)).less fun k hk => ?_⟩
  rcases hk with hk | hk
  · exact .inl hk
  · exact .inr ((foot_fr hfr (h2 _ (.inl rfl))).1 hk)
theorem Two.less {w : World} {F F' : Nat → Prop} {b1 b2 : Nat} {s1 s2 : List Pr} (h : Two w F b1 s1 b2 s2) (hF : ∀ k, F' k → F k) : Two w F' b1 s1 b2 s2 :=
  ⟨h.1.less hF, h.2.less fun k hk => hk.imp (hF k) id⟩
/-- a new block joins F -/
theorem Two.new {w : World} {F : Nat → Prop} {b1 b2 : Nat} {s1 s2 : List Pr} (h : Two w F b1 s1 b2 s2) (hF : ∀ k, F k → k < w.heap.size) (o : Obj) : Two (w.alloc o) (fun k => F k ∨ k = w.heap.size) b1 s1 b2 s2 := by
  have h2 := h.below hF (below_alloc w o)
  have hx : ∀ k, foot (w.alloc o) b2 k → k ≠ w.heap.size := fun k hk e => by
    have := h.1.foot_lt ((foot_fr (F' := fun k => k < w.heap.size) (Fr.of (below_alloc w o) fun _ h => h) (h.1.foot_lt (.inl rfl))).1 hk)
    omega
  have hy : ∀ k, foot (w.alloc o) b1 k → k ≠ w.heap.size := fun k hk e => by
    have := h.2.foot_lt ((foot_fr (F' := fun k => k < w.heap.size) (Fr.of (below_alloc w o) fun _ h => h) (h.2.foot_lt (.inl rfl))).1 hk)
    omega
  refine ⟨?_, ?_⟩
  · refine h2.1.mono fun k hk _ => ?_
    rcases hk with hk | rfl
    · exact .inl hk
    · exact .inr ⟨fun e => hx _ (.inl e) rfl, fun v hv ho => hx _ (.inr ⟨v, hv, ho⟩) rfl⟩
  · refine h2.2.mono fun k hk _ => ?_
    rcases hk with (hk | rfl) | hk
    · exact .inl (.inl hk)
    · exact .inr ⟨fun e => hy _ (.inl e) rfl, fun v hv ho => hy _ (.inr ⟨v, hv, ho⟩) rfl⟩
    · exact .inl (.inr hk)
theorem walkOf_lit (k n : Int) (s : ByteArray) (ka : Option Addr) (kn kc : Nat) (la : Option Addr) (ln lc : Nat) (w : World) :
    Calls Tryd.prog 24 #[.agg #[.int .i64 k, .int .i64 n, .string s, .slice ka kn kc, .slice la ln lc]] w fun e w' => e = .returned (.slice (some ⟨w.heap.size + 2, 0, none⟩) 1 1) ∧
      w' = ((w.alloc (.cells #[.int .i64 k, .int .i64 n, .string s, .slice ka kn kc, .slice la ln lc] 25)).alloc (.cells #[.int .i64 k, .int .i64 n, .string s, .slice ka kn kc, .slice la ln lc] 25)).alloc (.cells #[.slice (some ⟨w.heap.size + 1, 0, none⟩) 1 1, .int .i64 1] 44) := by
  go_enter Tryd.func24, Tryd.ntmps24
  go_wp2_with fail
  go_ret
  exact ⟨rfl, rfl⟩

theorem old_drew {w : World} {a : Addr} {v : Value} (h : w.cell? a = some v) : w.drew.cell? a = some v := h
theorem old_alloc {w : World} {o : Obj} {a : Addr} {v : Value} (h : w.cell? a = some v) : (w.alloc o).cell? a = some v := by
  rw [World.cell?_alloc_some w a o (by rw [h]; rfl), h]
theorem old_set {w : World} {p a : Addr} {u v : Value} (h : w.cell? a = some v) (hne : p.block ≠ a.block) : (w.setCell p u).cell? a = some v := by
  rw [World.cell?_setCell_far w p a u hne, h]

/-- a walk's head in memory: the value's own row g, the stack's row behind it -/
def Opn (w : World) (g : Nat) (x : X) : Prop := w.heap[g]? = some (.cells x.cells 25 (0, 0)) ∧ w.heap[g + 1]? = some (.cells #[.slice (some ⟨g, 0, none⟩) 1 1, .int .i64 1] 44 (0, 0))
theorem Opn.lt {w : World} {g : Nat} {x : X} (h : Opn w g x) : g + 1 < w.heap.size := (Array.getElem?_eq_some_iff.1 h.2).1
theorem Opn.below {w w' : World} {g : Nat} {x : X} (h : Opn w g x) (hb : Below w.heap.size w w') : Opn w' g x :=
  ⟨(hb.block _ (by have := h.lt; omega)).trans h.1, (hb.block _ h.lt).trans h.2⟩
theorem Opn.set {w : World} {g : Nat} {x : X} (h : Opn w g x) {p : Addr} {u : Value} (h1 : p.block ≠ g) (h2 : p.block ≠ g + 1) : Opn (w.setCell p u) g x :=
  ⟨(Below.heap_setCell _ _ _ _ (Ne.symm h1)).trans h.1, (Below.heap_setCell _ _ _ _ (Ne.symm h2)).trans h.2⟩
theorem Opn.own {w : World} {g : Nat} {x : X} (h : Opn w g x) : w.ownsRow 0 44 2 (.slice (some ⟨g + 1, 0, none⟩) 1 1) 1 [.slice (some ⟨g, 0, none⟩) 1 1, .int .i64 1] :=
  ⟨rfl, .inr ⟨g + 1, 1, _, rfl, Nat.zero_le _, h.2, Nat.le_refl _, by decide, rfl, rfl⟩⟩
theorem walkOf_opn (x : X) (w : World) :
    Calls Tryd.prog 24 #[x.v] w fun e w' => ∃ g, e = .returned (.slice (some ⟨g + 1, 0, none⟩) 1 1) ∧ w.heap.size ≤ g ∧ Opn w' g x ∧ Below w.heap.size w w' := by
  obtain ⟨k, n, s, ka, kn, kc, la, ln, lc⟩ := x
  refine (walkOf_lit k n s ka kn kc la ln lc w).mono ?_
  rintro e w' ⟨rfl, rfl⟩
  obtain ⟨h1, h2⟩ := heap3 w (.cells #[.int .i64 k, .int .i64 n, .string s, .slice ka kn kc, .slice la ln lc] 25) (.cells #[.int .i64 k, .int .i64 n, .string s, .slice ka kn kc, .slice la ln lc] 25) (.cells #[.slice (some ⟨w.heap.size + 1, 0, none⟩) 1 1, .int .i64 1] 44)
  exact ⟨w.heap.size + 1, rfl, by omega, ⟨h1, h2⟩, (((Below.refl _ _).alloc (Nat.le_refl _) _).alloc (by simp) _).alloc (by simp; omega) _⟩

theorem count_set : ∀ (l : List Bool) (i : Nat), l[i]? = some false → (l.set i true).count false + 1 = l.count false
  | [], _, h => by simp at h
  | b :: l, 0, h => by
    simp at h
    subst h
    simp
  | b :: l, i + 1, h => by
    have := count_set l i (by simpa using h)
    simp only [List.set_cons_succ, List.count_cons]
    omega
/-- A WALK OF A DRAWN REGION BY AN INVARIANT -/
theorem wpAny_inv {P : Program} {md : Region.Mode} {ops : Array Oper} {Q : Exit → Act → World → Prop} (J : Array Bool → Act → World → Prop)
    (hdone : ∀ (l : Array Bool) (a : Act) (w : World), J l a w → Region.ready md ops l = [] → Q .normal a w)
    (hstep : ∀ (l : Array Bool) (a : Act) (w : World) (i : Nat), J l a w → i ∈ Region.ready md ops l → ∀ K : Act → World → Prop, (∀ a' w', J (l.setIfInBounds i true) a' w' → K a' w') → wpOp P ops Q i K a w) :
    ∀ (fuel : Nat) (l : Array Bool) (a : Act) (w : World), l.toList.count false ≤ fuel → J l a w → wpAny P md ops Q fuel l a w := by
  have hr : ∀ (l : Array Bool) (i : Nat), i ∈ Region.ready md ops l → l.toList[i]? = some false := by
    intro l i hi
    simp only [Region.ready, List.mem_filter, Bool.and_eq_true, Bool.not_eq_true'] at hi
    have h := hi.2.1
    rw [Array.getD_eq_getD_getElem?] at h
    rcases hl : l[i]? with _ | b
    · rw [hl] at h
      simp at h
    · rw [hl] at h
      simp at h
      subst h
      rw [Array.getElem?_toList, hl]
  intro fuel
  induction fuel with
  | zero =>
    intro l a w hc hJ
    have h0 : Region.ready md ops l = [] := by
      rcases hl : Region.ready md ops l with _ | ⟨i, is⟩
      · rfl
      · have := hr l i (by rw [hl]; simp)
        have := List.mem_of_getElem? this
        have := List.count_pos_iff.2 this
        omega
    exact ⟨h0, hdone l a w hJ h0⟩
  | succ fuel ih =>
    intro l a w hc hJ
    refine ⟨hdone l a w hJ, fun i hi => hstep l a w i hJ hi _ fun a w hJ => ih _ a w ?_ hJ⟩
    have := count_set l.toList i (hr l i hi)
    rw [Array.toList_setIfInBounds]
    omega

theorem wpOp_go {P : Program} {ops : Array Oper} {Q : Exit → Act → World → Prop} {i : Nat} {o : Oper} {K : Act → World → Prop} {a : Act} {w : World} (hi : ops[i]? = some o)
    (h : if Region.wanted o (yielded ops a.tmps) = true then Oper.wp P o a w K Q else K (a.put o.dst undef) w) : wpOp P ops Q i K a w := by
  unfold wpOp
  rw [hi]
  dsimp only
  split
  · rename_i hw
    rw [if_pos hw] at h
    exact .inl h
  · rename_i hw
    rw [if_neg hw] at h
    exact h
theorem ready_of {md : Region.Mode} {ops : Array Oper} {l : Array Bool} {i : Nat} (h : i ∈ Region.ready md ops l) : i < ops.size ∧ l.getD i true = false ∧ ∀ o, ops[i]? = some o → ∀ e ∈ o.after, Region.binds md e = true → l.getD e.on false = true := by
  obtain ⟨h1, o, h2, h3⟩ := mem_ready.1 h
  exact ⟨(Array.getElem?_eq_some_iff.1 h2).1, h1, fun o' ho => by rw [h2] at ho; cases ho; exact h3⟩
theorem all_of {md : Region.Mode} {ops : Array Oper} {l : Array Bool} (h : Region.ready md ops l = []) (i : Nat) (hi : i < ops.size) (hl : ∀ o, ops[i]? = some o → ∀ e ∈ o.after, Region.binds md e = true → l.getD e.on false = true) : l.getD i true = true := by
  rcases hb : l.getD i true with _ | _
  · have : i ∈ Region.ready md ops l := mem_ready.2 ⟨hb, _, Array.getElem?_eq_getElem hi, hl _ (Array.getElem?_eq_getElem hi)⟩
    rw [h] at this
    cases this
  · rfl

/-- a new variable -/
def Zed (w : World) (p : Nat) : Prop := w.heap[p]? = some (.cells #[.slice none 0 0] 41 (0, 0))
theorem Zed.below {w w' : World} {p : Nat} (h : Zed w p) (hb : Below w.heap.size w w') : Zed w' p := (hb.block p (Array.getElem?_eq_some_iff.1 h).1).trans h
theorem Zed.cell {w : World} {p : Nat} (h : Zed w p) : w.cell? ⟨p, 0, none⟩ = some (.slice none 0 0) := by rw [cell_of_row w p 0 _ _ _ h]; rfl
theorem Zed.free {w : World} {p : Nat} (h : Zed w p) : w.frozen? ⟨p, 0, none⟩ = false := by
  have h' : w.heap[p]? = some (.cells #[.slice none 0 0] 41 (0, 0)) := h
  simp [World.frozen?, h']
theorem hp_new {w : World} {o : Obj} {n : Nat} (h : n = w.heap.size) : (w.alloc o).heap[n]? = some o := by
  subst h
  show (w.heap.push o)[w.heap.size]? = some o
  simp
theorem hp_alloc {w : World} {o o' : Obj} {n : Nat} (h : w.heap[n]? = some o) : (w.alloc o').heap[n]? = some o := by
  rw [Below.heap_alloc _ _ _ (Array.getElem?_eq_some_iff.1 h).1, h]
theorem hp_drew {w : World} {o : Obj} {n : Nat} (h : w.heap[n]? = some o) : w.drew.heap[n]? = some o := h
theorem hp_set {w : World} {o : Obj} {n : Nat} {q : Addr} {v : Value} (h : w.heap[n]? = some o) (hne : q.block ≠ n) : (w.setCell q v).heap[n]? = some o := by
  rw [Below.heap_setCell _ _ _ _ (Ne.symm hne), h]
theorem hp_put {w : World} {p : Nat} {v : Value} (h : Zed w p) : (w.setCell ⟨p, 0, none⟩ v).heap[p]? = some (.cells #[v] 41 (0, 0)) := by
  have h' : w.heap[p]? = some (.cells #[.slice none 0 0] 41 (0, 0)) := h
  simp only [World.setCell, Array.getElem?_modify, if_true, h', Option.map_some]
  rfl
def Fin (W0 : World) (x y : X) (w : World) (p5 p6 g1 g2 : Nat) : Prop :=
  w.heap[p5]? = some (.cells #[.slice (some ⟨g1 + 1, 0, none⟩) 1 1] 41 (0, 0)) ∧ w.heap[p6]? = some (.cells #[.slice (some ⟨g2 + 1, 0, none⟩) 1 1] 41 (0, 0)) ∧ Opn w g1 x ∧ Opn w g2 y ∧ W0.heap.size ≤ g1 ∧ g1 + 1 < g2 ∧ W0.heap.size ≤ p5 ∧ W0.heap.size ≤ p6 ∧ Below W0.heap.size W0 w

def Zd (w : World) (p : Nat) (v : Value) : Prop := w.heap[p]? = some (.cells #[v] 41 (0, 0))
theorem Zd.lt {w : World} {p : Nat} {v : Value} (h : Zd w p v) : p < w.heap.size := (Array.getElem?_eq_some_iff.1 h).1
theorem Zd.below {w w' : World} {p : Nat} {v : Value} (h : Zd w p v) (hb : Below w.heap.size w w') : Zd w' p v := (hb.block p h.lt).trans h
theorem Zd.cell {w : World} {p : Nat} {v : Value} (h : Zd w p v) : w.cell? ⟨p, 0, none⟩ = some v := by rw [cell_of_row w p 0 _ _ _ h]; rfl
theorem Zd.free {w : World} {p : Nat} {v : Value} (h : Zd w p v) : w.frozen? ⟨p, 0, none⟩ = false := by
  have h' : w.heap[p]? = some (.cells #[v] 41 (0, 0)) := h
  simp [World.frozen?, h']
theorem Zd.put {w : World} {p : Nat} {v u : Value} (h : Zd w p v) : Zd (w.setCell ⟨p, 0, none⟩ u) p u := by
  have h' : w.heap[p]? = some (.cells #[v] 41 (0, 0)) := h
  simp only [Zd, World.setCell, Array.getElem?_modify, if_true, h', Option.map_some]
  rfl
theorem Zd.far {w : World} {p q : Nat} {v u : Value} (h : Zd w p v) (hne : q ≠ p) : Zd (w.setCell ⟨q, 0, none⟩ u) p v := hp_set h hne
theorem Opn.ne {w : World} {g p : Nat} {x : X} {v : Value} (h : Opn w g x) (hz : Zd w p v) : p ≠ g ∧ p ≠ g + 1 := by
  refine ⟨fun e => ?_, fun e => ?_⟩
  · rw [e] at hz
    have := hz.symm.trans h.1
    simp [X.cells] at this
  · rw [e] at hz
    have := hz.symm.trans h.2
    simp at this
def nil2 : Value := .slice none 0 0
structure Mid (W0 : World) (x y : X) (vx vy : Value) (w : World) (b0 b1 b2 b3 b4 b5 b6 b7 : Bool) (u5 u6 u9 u10 u11 u12 : Value) : Prop where
  bel : Below W0.heap.size W0 w
  l0 : b0 = true → u9 = vx
  l2 : b2 = true → u11 = vy
  c1 : b1 = true → ∃ g1 : Nat, u10 = .slice (some ⟨g1 + 1, 0, none⟩) 1 1 ∧ W0.heap.size ≤ g1 ∧ Opn w g1 x
  c3 : b3 = true → ∃ g1 g2 : Nat, u10 = .slice (some ⟨g1 + 1, 0, none⟩) 1 1 ∧ u12 = .slice (some ⟨g2 + 1, 0, none⟩) 1 1 ∧ W0.heap.size ≤ g1 ∧ g1 + 1 < g2 ∧ Opn w g1 x ∧ Opn w g2 y
  a4 : b4 = true → ∃ p : Nat, u5 = .pointer (some ⟨p, 0, none⟩) ∧ W0.heap.size ≤ p ∧ Zd w p (if b6 then u10 else nil2)
  a5 : b5 = true → ∃ p : Nat, u6 = .pointer (some ⟨p, 0, none⟩) ∧ W0.heap.size ≤ p ∧ Zd w p (if b7 then u12 else nil2)
  ne : b4 = true → b5 = true → u5 ≠ u6
  d6 : b6 = true → b0 = true ∧ b1 = true ∧ b2 = true ∧ b3 = true ∧ b4 = true ∧ b5 = true
  d7 : b7 = true → b6 = true
  d3 : b3 = true → b1 = true ∧ b2 = true
section
variable {W0 : World} {x y : X} {vx vy : Value} {w w' : World} {b0 b1 b2 b3 b4 b5 b6 b7 : Bool} {u5 u6 u9 u10 u11 u12 u : Value}
theorem Mid.bl (h : Mid W0 x y vx vy w b0 b1 b2 b3 b4 b5 b6 b7 u5 u6 u9 u10 u11 u12) (hb : Below w.heap.size w w') : Mid W0 x y vx vy w' b0 b1 b2 b3 b4 b5 b6 b7 u5 u6 u9 u10 u11 u12 := by
  refine ⟨h.bel.trans (hb.mono h.bel.size), h.l0, h.l2, fun e => ?_, fun e => ?_, fun e => ?_, fun e => ?_, h.ne, h.d6, h.d7, h.d3⟩
  · obtain ⟨g1, e1, e2, e3⟩ := h.c1 e
    exact ⟨g1, e1, e2, e3.below hb⟩
  · obtain ⟨g1, g2, e1, e2, e3, e4, e5, e6⟩ := h.c3 e
    exact ⟨g1, g2, e1, e2, e3, e4, e5.below hb, e6.below hb⟩
  · obtain ⟨p, e1, e2, e3⟩ := h.a4 e
    exact ⟨p, e1, e2, e3.below hb⟩
  · obtain ⟨p, e1, e2, e3⟩ := h.a5 e
    exact ⟨p, e1, e2, e3.below hb⟩
theorem Mid.load0 (h : Mid W0 x y vx vy w b0 b1 b2 b3 b4 b5 b6 b7 u5 u6 u9 u10 u11 u12) : Mid W0 x y vx vy w true b1 b2 b3 b4 b5 b6 b7 u5 u6 vx u10 u11 u12 :=
  ⟨h.bel, fun _ => rfl, h.l2, h.c1, h.c3, h.a4, h.a5, h.ne, fun e => ⟨rfl, (h.d6 e).2⟩, h.d7, h.d3⟩
theorem Mid.load2 (h : Mid W0 x y vx vy w b0 b1 b2 b3 b4 b5 b6 b7 u5 u6 u9 u10 u11 u12) : Mid W0 x y vx vy w b0 b1 true b3 b4 b5 b6 b7 u5 u6 u9 u10 vy u12 :=
  ⟨h.bel, h.l0, fun _ => rfl, h.c1, h.c3, h.a4, h.a5, h.ne, fun e => ⟨(h.d6 e).1, (h.d6 e).2.1, rfl, (h.d6 e).2.2.2⟩, h.d7, fun e => ⟨(h.d3 e).1, rfl⟩⟩
theorem Mid.call1 (h : Mid W0 x y vx vy w b0 false b2 false b4 b5 b6 b7 u5 u6 u9 u10 u11 u12) {g : Nat} (hg : w.heap.size ≤ g) (ho : Opn w' g x) (hb : Below w.heap.size w w') :
    Mid W0 x y vx vy w' b0 true b2 false b4 b5 b6 b7 u5 u6 u9 (.slice (some ⟨g + 1, 0, none⟩) 1 1) u11 u12 := by
  have h' := h.bl hb
  have h6 : b6 = false := by
    rcases b6 with _ | _
    · rfl
    · exact nomatch (h.d6 rfl).2.1
  subst h6
  exact ⟨h'.bel, h'.l0, h'.l2, fun _ => ⟨g, rfl, Nat.le_trans h.bel.size hg, ho⟩, nofun, h'.a4, h'.a5, h'.ne, nofun, h'.d7, nofun⟩
theorem Mid.call3 (h : Mid W0 x y vx vy w b0 true true false b4 b5 b6 b7 u5 u6 u9 u10 u11 u12) {g : Nat} (hg : w.heap.size ≤ g) (ho : Opn w' g y) (hb : Below w.heap.size w w') :
    Mid W0 x y vx vy w' b0 true true true b4 b5 b6 b7 u5 u6 u9 u10 u11 (.slice (some ⟨g + 1, 0, none⟩) 1 1) := by
  have h' := h.bl hb
  have h6 : b6 = false := by
    rcases b6 with _ | _
    · rfl
    · exact nomatch (h.d6 rfl).2.2.2.1
  subst h6
  have h7 : b7 = false := by
    rcases b7 with _ | _
    · rfl
    · exact nomatch h.d7 rfl
  subst h7
  obtain ⟨g1, e1, e2, e3⟩ := h'.c1 rfl
  obtain ⟨g1', e1', _, e3'⟩ := h.c1 rfl
  rw [e1] at e1'
  simp at e1'
  subst e1'
  refine ⟨h'.bel, h'.l0, h'.l2, h'.c1, fun _ => ⟨g1, g, e1, rfl, e2, Nat.lt_of_lt_of_le e3'.lt hg, e3, ho⟩, h'.a4, h'.a5, h'.ne, nofun, nofun, fun _ => ⟨rfl, rfl⟩⟩
theorem Mid.alloc4 (h : Mid W0 x y vx vy w b0 b1 b2 b3 false b5 b6 b7 u5 u6 u9 u10 u11 u12) :
    Mid W0 x y vx vy (w.alloc (.cells #[nil2] 41)) b0 b1 b2 b3 true b5 b6 b7 (.pointer (some ⟨w.heap.size, 0, none⟩)) u6 u9 u10 u11 u12 := by
  have h' := h.bl (below_alloc w (.cells #[nil2] 41))
  have h6 : b6 = false := by
    rcases b6 with _ | _
    · rfl
    · exact nomatch (h.d6 rfl).2.2.2.2.1
  subst h6
  refine ⟨h'.bel, h'.l0, h'.l2, h'.c1, h'.c3, fun _ => ⟨_, rfl, h.bel.size, hp_new rfl⟩, h'.a5, fun _ e5 e => ?_, nofun, h'.d7, h'.d3⟩
  obtain ⟨p, e1, _, e3⟩ := h.a5 e5
  rw [e1] at e
  simp at e
  have := e3.lt
  omega
theorem Mid.alloc5 (h : Mid W0 x y vx vy w b0 b1 b2 b3 b4 false b6 b7 u5 u6 u9 u10 u11 u12) :
    Mid W0 x y vx vy (w.alloc (.cells #[nil2] 41)) b0 b1 b2 b3 b4 true b6 b7 u5 (.pointer (some ⟨w.heap.size, 0, none⟩)) u9 u10 u11 u12 := by
  have h' := h.bl (below_alloc w (.cells #[nil2] 41))
  have h6 : b6 = false := by
    rcases b6 with _ | _
    · rfl
    · exact nomatch (h.d6 rfl).2.2.2.2.2
  subst h6
  have h7 : b7 = false := by
    rcases b7 with _ | _
    · rfl
    · exact nomatch h.d7 rfl
  subst h7
  refine ⟨h'.bel, h'.l0, h'.l2, h'.c1, h'.c3, h'.a4, fun _ => ⟨_, rfl, h.bel.size, hp_new rfl⟩, fun e4 _ e => ?_, nofun, nofun, h'.d3⟩
  obtain ⟨p, e1, _, e3⟩ := h.a4 e4
  rw [e1] at e
  simp at e
  have := e3.lt
  omega
theorem Mid.store6 (h : Mid W0 x y vx vy w true true true true true true false false u5 u6 u9 u10 u11 u12) {p : Nat} (hp : u5 = .pointer (some ⟨p, 0, none⟩)) :
    Mid W0 x y vx vy (w.setCell ⟨p, 0, none⟩ u10) true true true true true true true false u5 u6 u9 u10 u11 u12 := by
  obtain ⟨p', e1, e2, e3⟩ := h.a4 rfl
  rw [hp] at e1
  simp at e1
  subst e1
  refine ⟨h.bel.setCell e2 _, h.l0, h.l2, fun e => ?_, fun e => ?_, fun _ => ⟨p, hp, e2, e3.put⟩, fun _ => ?_, h.ne, fun _ => by simp, nofun, h.d3⟩
  · obtain ⟨g1, f1, f2, f3⟩ := h.c1 e
    exact ⟨g1, f1, f2, f3.set (f3.ne e3).1 (f3.ne e3).2⟩
  · obtain ⟨g1, g2, f1, f2, f3, f4, f5, f6⟩ := h.c3 e
    exact ⟨g1, g2, f1, f2, f3, f4, f5.set (f5.ne e3).1 (f5.ne e3).2, f6.set (f6.ne e3).1 (f6.ne e3).2⟩
  · obtain ⟨q, f1, f2, f3⟩ := h.a5 rfl
    exact ⟨q, f1, f2, f3.far fun e => h.ne rfl rfl (by rw [hp, f1, e])⟩
theorem Mid.store7 (h : Mid W0 x y vx vy w true true true true true true true false u5 u6 u9 u10 u11 u12) {p : Nat} (hp : u6 = .pointer (some ⟨p, 0, none⟩)) :
    Mid W0 x y vx vy (w.setCell ⟨p, 0, none⟩ u12) true true true true true true true true u5 u6 u9 u10 u11 u12 := by
  obtain ⟨p', e1, e2, e3⟩ := h.a5 rfl
  rw [hp] at e1
  simp at e1
  subst e1
  refine ⟨h.bel.setCell e2 _, h.l0, h.l2, fun e => ?_, fun e => ?_, fun _ => ?_, fun _ => ⟨p, hp, e2, e3.put⟩, h.ne, h.d6, fun _ => rfl, h.d3⟩
  · obtain ⟨g1, f1, f2, f3⟩ := h.c1 e
    exact ⟨g1, f1, f2, f3.set (f3.ne e3).1 (f3.ne e3).2⟩
  · obtain ⟨g1, g2, f1, f2, f3, f4, f5, f6⟩ := h.c3 e
    exact ⟨g1, g2, f1, f2, f3, f4, f5.set (f5.ne e3).1 (f5.ne e3).2, f6.set (f6.ne e3).1 (f6.ne e3).2⟩
  · obtain ⟨q, f1, f2, f3⟩ := h.a4 rfl
    exact ⟨q, f1, f2, f3.far fun e => h.ne rfl rfl (by rw [hp, f1, e])⟩
end

end Go.Proofs.YtnjcofjphneccaaDoor
