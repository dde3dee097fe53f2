/-
  TWO STACKS: what lies on both, pair by pair; the round's first region of Same.
-/
import Derived.Test.YtnjcofjphneccaaDoorTwo
namespace Go.Proofs.YtnjcofjphneccaaDoor
open Go.RowKit

def ptr (k : Nat) : Value := .pointer (some ⟨k, 0, none⟩)
def pcells (o : Bool) (p : Pr) : Array Value := if o then #[.slice p.A p.n p.c, .int .i64 p.d] else #[.slice none 0 0, .int .i64 0]
def gg (F : Nat → Prop) (a2 a3 : Bool) (u7 u8 : Value) (k : Nat) : Prop := F k ∨ (a2 = true ∧ u7 = ptr k) ∨ (a3 = true ∧ u8 = ptr k)
structure Mid3 (F : Nat → Prop) (Wr : World) (b1 b2 : Nat) (s1 s2 : List Pr) (p q : Pr) (w : World) (c0 c1 a2 a3 t4 t5 : Bool) (u7 u8 u16 u17 : Value) : Prop where
  fr : Fr F Wr w
  two : Two w (gg F a2 a3 u7 u8) b1 (if c0 then s1 else s1 ++ [p]) b2 (if c1 then s2 else s2 ++ [q])
  l0 : c0 = true → u16 = p.v
  l1 : c1 = true → u17 = q.v
  d1 : c1 = true → c0 = true
  a7 : a2 = true → ∃ k : Nat, u7 = ptr k ∧ k < w.heap.size ∧ ¬ F k ∧ w.heap[k]? = some (.cells (pcells t4 p) 44 (0, 0))
  a8 : a3 = true → ∃ k : Nat, u8 = ptr k ∧ k < w.heap.size ∧ ¬ F k ∧ w.heap[k]? = some (.cells (pcells t5 q) 44 (0, 0))
  ne : a2 = true → a3 = true → u7 ≠ u8
  d4 : t4 = true → c0 = true ∧ c1 = true ∧ a2 = true ∧ a3 = true
  d5 : t5 = true → t4 = true
section
variable {F : Nat → Prop} {Wr : World} {b1 b2 : Nat} {s1 s2 : List Pr} {p q : Pr} {w w' : World} {c0 c1 a2 a3 t4 t5 : Bool} {u7 u8 u16 u17 : Value}
theorem ptr_inj {k j : Nat} (h : ptr k = ptr j) : k = j := by
  unfold ptr at h
  simpa using h
theorem Mid3.lt (h : Mid3 F Wr b1 b2 s1 s2 p q w c0 c1 a2 a3 t4 t5 u7 u8 u16 u17) (hF : ∀ k, F k → k < Wr.heap.size) : ∀ k, gg F a2 a3 u7 u8 k → k < w.heap.size := by
  rintro k (hk | ⟨e, hk⟩ | ⟨e, hk⟩)
  · exact Nat.lt_of_lt_of_le (hF k hk) h.fr.size
  · obtain ⟨j, e1, e2, _, _⟩ := h.a7 e
    rw [hk] at e1
    rw [ptr_inj e1]
    exact e2
  · obtain ⟨j, e1, e2, _, _⟩ := h.a8 e
    rw [hk] at e1
    rw [ptr_inj e1]
    exact e2
theorem Mid3.f7 (h : Mid3 F Wr b1 b2 s1 s2 p q w c0 c1 a2 a3 t4 t5 u7 u8 u16 u17) (hfr : Fr (gg F a2 a3 u7 u8) w w') (e : a2 = true) : ∃ k : Nat, u7 = ptr k ∧ k < w'.heap.size ∧ ¬ F k ∧ w'.heap[k]? = some (.cells (pcells t4 p) 44 (0, 0)) := by
  obtain ⟨k, e1, e2, e3, e4⟩ := h.a7 e
  exact ⟨k, e1, Nat.lt_of_lt_of_le e2 hfr.size, e3, (hfr.block k (.inr (.inl ⟨e, e1⟩))).trans e4⟩
theorem Mid3.f8 (h : Mid3 F Wr b1 b2 s1 s2 p q w c0 c1 a2 a3 t4 t5 u7 u8 u16 u17) (hfr : Fr (gg F a2 a3 u7 u8) w w') (e : a3 = true) : ∃ k : Nat, u8 = ptr k ∧ k < w'.heap.size ∧ ¬ F k ∧ w'.heap[k]? = some (.cells (pcells t5 q) 44 (0, 0)) := by
  obtain ⟨k, e1, e2, e3, e4⟩ := h.a8 e
  exact ⟨k, e1, Nat.lt_of_lt_of_le e2 hfr.size, e3, (hfr.block k (.inr (.inr ⟨e, e1⟩))).trans e4⟩
theorem no_true {b : Bool} (h : b = true → False) : b = false := by
  cases b
  · rfl
  · exact (h rfl).elim
theorem Mid3.call0 (h : Mid3 F Wr b1 b2 s1 s2 p q w false false a2 a3 t4 t5 u7 u8 u16 u17) (h2 : Two w' (gg F a2 a3 u7 u8) b1 s1 b2 (s2 ++ [q])) (hfr : Fr (gg F a2 a3 u7 u8) w w') :
    Mid3 F Wr b1 b2 s1 s2 p q w' true false a2 a3 t4 t5 u7 u8 p.v u17 :=
  ⟨h.fr.trans (hfr.mono fun _ => .inl), h2, fun _ => rfl, nofun, fun _ => rfl, h.f7 hfr, h.f8 hfr, h.ne, fun e => (nomatch (h.d4 e).1), h.d5⟩
theorem Mid3.call1 (h : Mid3 F Wr b1 b2 s1 s2 p q w true false a2 a3 t4 t5 u7 u8 u16 u17) (h2 : Two w' (gg F a2 a3 u7 u8) b1 s1 b2 s2) (hfr : Fr (gg F a2 a3 u7 u8) w w') :
    Mid3 F Wr b1 b2 s1 s2 p q w' true true a2 a3 t4 t5 u7 u8 u16 q.v :=
  ⟨h.fr.trans (hfr.mono fun _ => .inl), h2, h.l0, fun _ => rfl, fun _ => rfl, h.f7 hfr, h.f8 hfr, h.ne, fun e => ⟨rfl, rfl, (h.d4 e).2.2⟩, h.d5⟩
theorem Mid3.alloc2 (h : Mid3 F Wr b1 b2 s1 s2 p q w c0 c1 false a3 t4 t5 u7 u8 u16 u17) (hF : ∀ k, F k → k < Wr.heap.size) :
    Mid3 F Wr b1 b2 s1 s2 p q (w.alloc (.cells #[.slice none 0 0, .int .i64 0] 44)) c0 c1 true a3 t4 t5 (ptr w.heap.size) u8 u16 u17 := by
  have h4 : t4 = false := no_true fun e => nomatch (h.d4 e).2.2.1
  subst h4
  have hfr := (Fr.refl (gg F false a3 u7 u8) w).alloc (h.lt hF) (.cells #[.slice none 0 0, .int .i64 0] 44)
  refine ⟨h.fr.trans (hfr.mono fun _ => .inl), (h.two.new (h.lt hF) _).less ?_, h.l0, h.l1, h.d1, fun _ => ⟨_, rfl, by simp, fun hk => ?_, hp_new rfl⟩, h.f8 hfr, fun _ e3 e => ?_, nofun, h.d5⟩
  · rintro k (hk | ⟨_, hk⟩ | hk)
    · exact .inl (.inl hk)
    · exact .inr (ptr_inj hk).symm
    · exact .inl (.inr (.inr hk))
  · have := hF _ hk
    have := h.fr.size
    omega
  · obtain ⟨k, e1, e2, _⟩ := h.a8 e3
    rw [e1] at e
    have := ptr_inj e
    omega
theorem Mid3.alloc3 (h : Mid3 F Wr b1 b2 s1 s2 p q w c0 c1 a2 false t4 t5 u7 u8 u16 u17) (hF : ∀ k, F k → k < Wr.heap.size) :
    Mid3 F Wr b1 b2 s1 s2 p q (w.alloc (.cells #[.slice none 0 0, .int .i64 0] 44)) c0 c1 a2 true t4 t5 u7 (ptr w.heap.size) u16 u17 := by
  have h4 : t4 = false := no_true fun e => nomatch (h.d4 e).2.2.2
  subst h4
  have h5 : t5 = false := no_true fun e => nomatch h.d5 e
  subst h5
  have hfr := (Fr.refl (gg F a2 false u7 u8) w).alloc (h.lt hF) (.cells #[.slice none 0 0, .int .i64 0] 44)
  refine ⟨h.fr.trans (hfr.mono fun _ => .inl), (h.two.new (h.lt hF) _).less ?_, h.l0, h.l1, h.d1, h.f7 hfr, fun _ => ⟨_, rfl, by simp, fun hk => ?_, hp_new rfl⟩, fun e3 _ e => ?_, nofun, nofun⟩
  · rintro k (hk | hk | ⟨_, hk⟩)
    · exact .inl (.inl hk)
    · exact .inl (.inr (.inl hk))
    · exact .inr (ptr_inj hk).symm
  · have := hF _ hk
    have := h.fr.size
    omega
  · obtain ⟨k, e1, e2, _⟩ := h.a7 e3
    rw [e1] at e
    have := ptr_inj e
    omega
theorem Mid3.store4 (h : Mid3 F Wr b1 b2 s1 s2 p q w true true true true false false u7 u8 u16 u17) {k : Nat} (hk : u7 = ptr k) (hfr : Fr (fun j => j ≠ k) w w') (hh : w'.heap[k]? = some (.cells (pcells true p) 44 (0, 0))) :
    Mid3 F Wr b1 b2 s1 s2 p q w' true true true true true false u7 u8 u16 u17 := by
  obtain ⟨k', e1, e2, e3, e4⟩ := h.a7 rfl
  rw [hk] at e1
  cases ptr_inj e1
  refine ⟨h.fr.trans (hfr.mono fun j hj e => e3 (e ▸ hj)), h.two.off hfr (.inr (.inl ⟨rfl, hk⟩)), h.l0, h.l1, h.d1, fun _ => ⟨k, hk, Nat.lt_of_lt_of_le e2 hfr.size, e3, hh⟩, fun _ => ?_, h.ne, by simp, nofun⟩
  obtain ⟨j, f1, f2, f3, f4⟩ := h.a8 rfl
  exact ⟨j, f1, Nat.lt_of_lt_of_le f2 hfr.size, f3, (hfr.block j fun e => h.ne rfl rfl (by rw [hk, f1, e])).trans f4⟩
theorem Mid3.store5 (h : Mid3 F Wr b1 b2 s1 s2 p q w true true true true true false u7 u8 u16 u17) {k : Nat} (hk : u8 = ptr k) (hfr : Fr (fun j => j ≠ k) w w') (hh : w'.heap[k]? = some (.cells (pcells true q) 44 (0, 0))) :
    Mid3 F Wr b1 b2 s1 s2 p q w' true true true true true true u7 u8 u16 u17 := by
  obtain ⟨k', e1, e2, e3, e4⟩ := h.a8 rfl
  rw [hk] at e1
  cases ptr_inj e1
  refine ⟨h.fr.trans (hfr.mono fun j hj e => e3 (e ▸ hj)), h.two.off hfr (.inr (.inr ⟨rfl, hk⟩)), h.l0, h.l1, h.d1, fun _ => ?_, fun _ => ⟨k, hk, Nat.lt_of_lt_of_le e2 hfr.size, e3, hh⟩, h.ne, by simp, fun _ => rfl⟩
  obtain ⟨j, f1, f2, f3, f4⟩ := h.a7 rfl
  exact ⟨j, f1, Nat.lt_of_lt_of_le f2 hfr.size, f3, (hfr.block j fun e => h.ne rfl rfl (by rw [hk, f1, e])).trans f4⟩
end

/-- a row of values in the blocks F, what it has lies below B -/
def RowX (w : World) (F : Nat → Prop) (B : Nat) (A : Option Addr) (l : List V) : Prop := ∃ ps : List (V × X), ps.map (·.1) = l ∧ Cells w F A (ps.map (·.2)) ∧ ∀ p ∈ ps, IsB w B p.1 p.2
theorem RowX.of {w : World} {F : Nat → Prop} {B : Nat} {A : Option Addr} {l : List V} (h : RowB w B A l) (hF : ∀ k, k < B → F k) : RowX w F B A l := by
  obtain ⟨ps, h1, h2, h3⟩ := row_pairs h
  exact ⟨ps, h1, h2.fr hF (Fr.refl _ w), h3⟩
theorem all_of_pairs {w : World} {B g : Nat} : ∀ (ps : List (V × X)) (o : Nat), (∀ i (h : i < (ps.map (·.2)).length), At w g (o + i * 5) (ps.map (·.2))[i]) → (∀ p ∈ ps, IsB w B p.1 p.2) → IsAllB w B g o (ps.map (·.1))
  | [], o, _, _ => by simp [IsAllB]
  | p :: r, o, h, hp => by
    rw [List.map_cons, IsAllB]
    refine ⟨⟨p.2, by simpa using h 0 (by simp), hp p (by simp)⟩, all_of_pairs r (o + 5) (fun i hi => ?_) fun q hq => hp q (by simp [hq])⟩
    have := h (i + 1) (by simpa using hi)
    rw [show o + 5 + i * 5 = o + (i + 1) * 5 by omega]
    simpa using this
theorem RowX.row {w w' : World} {F : Nat → Prop} {B : Nat} {A : Option Addr} {l : List V} (h : RowX w F B A l) (hfr : Fr F w w') (hF : ∀ k, F k → k < w.heap.size) (hB : ∀ k, k < B → F k) (hBw : B ≤ w.heap.size) : Row w' A l := by
  obtain ⟨ps, h1, h2, h3⟩ := h
  have hb : Below B w w' := (hfr.mono hB).below
  have h3' : ∀ p ∈ ps, IsB w' w'.heap.size p.1 p.2 := fun p hp => IsB.to hb (Nat.le_trans hBw hfr.size) _ _ (h3 p hp)
  rcases h2.fr (fun _ h => h) hfr with h | ⟨g, o, rfl, hg, hc⟩
  · left
    rw [← h1]
    simp at h
    simp [h]
  · exact .inr ⟨g, o, rfl, Nat.lt_of_lt_of_le (hF g hg) hfr.size, h1 ▸ all_of_pairs ps o hc h3'⟩

theorem kids_zip {w : World} {B B' : Nat} (d e : Nat) : ∀ (ps qs : List (V × X)), likes (ps.map (·.1)) (qs.map (·.1)) = true → (∀ p ∈ ps, IsB w B p.1 p.2) → (∀ p ∈ qs, IsB w B' p.1 p.2) →
    (kidsP d ps).length = (kidsP e qs).length ∧ ((ps.map (·.1) = qs.map (·.1)) ↔ ∀ z ∈ (kidsP d ps).zip (kidsP e qs), z.1.l = z.2.l)
  | [], [], _, _, _ => by simp [kidsP]
  | p :: r, q :: t, h, hp, hq => by
    simp only [List.map_cons, likes, Bool.and_eq_true] at h
    have ih := kids_zip d e r t h.2 (fun x hx => hp x (by simp [hx])) fun x hx => hq x (by simp [hx])
    have h1 := is_len (hp p (by simp))
    have h2 := is_len (hq q (by simp))
    have hl : p.1.l.length = q.1.l.length := by
      have := h.1
      unfold like at this
      exact (of_decide_eq_true this).2.2.2.2
    unfold kidsP at *
    by_cases h0 : 0 < p.2.ln
    · have h0' : 0 < q.2.ln := by omega
      simp only [List.filter_cons, h0, h0', decide_true, if_true, List.map_cons, List.length_cons, List.zip_cons_cons, List.mem_cons, forall_eq_or_imp, List.cons.injEq]
      refine ⟨by rw [ih.1], ?_⟩
      rw [← ih.2]
      constructor
      · rintro ⟨e1, e2⟩
        exact ⟨by rw [e1], e2⟩
      · rintro ⟨e1, e2⟩
        exact ⟨eq_of_like h.1 e1, e2⟩
    · have h0' : ¬ 0 < q.2.ln := by omega
      simp only [List.filter_cons, h0, h0', decide_false, Bool.false_eq_true, if_false, List.map_cons, List.cons.injEq]
      refine ⟨ih.1, ?_⟩
      rw [← ih.2]
      have e1 : p.1.l = [] := List.eq_nil_of_length_eq_zero (by omega)
      have e2 : q.1.l = [] := List.eq_nil_of_length_eq_zero (by omega)
      constructor
      · rintro ⟨_, e⟩
        exact e
      · intro e
        exact ⟨eq_of_like h.1 (by rw [e1, e2]), e⟩
  | [], _ :: _, h, _, _ => by cases h
  | _ :: _, [], h, _, _ => by cases h
abbrev PP := Pl × Pl
def fsts (st : List PP) : List Pl := st.map (·.1)
def snds (st : List PP) : List Pl := st.map (·.2)
/-- what lies on both stacks -/
def Pairs (w : World) (F : Nat → Prop) (B : Nat) (st : List PP) : Prop := ∀ z ∈ st, RowX w F B z.1.A z.1.l ∧ RowX w F B z.2.A z.2.l ∧ z.1.l ≠ []
theorem len_load {st : List Pl} (h : ∀ p ∈ st, p.l ≠ []) : st.length ≤ sumL V.bulks st := by
  induction st with
  | nil => simp
  | cons p r ih =>
    have h1 := ih fun q hq => h q (by simp [hq])
    have h2 : 1 ≤ p.l.length := by
      have := h p (by simp)
      cases hp : p.l with
      | nil => exact absurd hp this
      | cons _ _ => simp
    have h3 := length_le_bulks p.l
    simp only [List.length_cons, sumL]
    omega
theorem fsts_zip {a b : List Pl} (h : a.length = b.length) : fsts (a.zip b) = a := by
  unfold fsts
  exact List.map_fst_zip (by omega)
theorem snds_zip {a b : List Pl} (h : a.length = b.length) : snds (a.zip b) = b := by
  unfold snds
  exact List.map_snd_zip (by omega)
/-- a round -/
theorem pairs_round {w : World} {F : Nat → Prop} {B : Nat} {st : List PP} {z : PP} {q : Nat} {a b : V} (hF : ∀ k, k < B → F k) (h : Pairs w F B (st ++ [z])) (hl : likes z.1.l z.2.l = true) (heq : a = b ↔ ∀ y ∈ st ++ [z], y.1.l = y.2.l)
    (hload : sumL V.bulks (fsts (st ++ [z])) ≤ q) (hq : q ≤ 4194304) (hd : ∀ y ∈ st ++ [z], y.1.d + q ≤ 4194305 ∧ y.2.d + q ≤ 4194305) :
    ∃ (xs ys : List X) (kp : List PP), Cells w F z.1.A xs ∧ Cells w F z.2.A ys ∧ xs.length = z.1.l.length ∧ ys.length = z.2.l.length ∧ st.length + z.1.l.length ≤ 4194304 ∧ st.length + z.2.l.length ≤ 4194304 ∧ 1 ≤ q ∧
      (fsts kp).map Pl.pr = kids z.1.d xs ∧ (snds kp).map Pl.pr = kids z.2.d ys ∧ Pairs w F B (st ++ kp) ∧ (a = b ↔ ∀ y ∈ st ++ kp, y.1.l = y.2.l) ∧
      sumL V.bulks (fsts (st ++ kp)) ≤ q - 1 ∧ ∀ y ∈ st ++ kp, y.1.d + (q - 1) ≤ 4194305 ∧ y.2.d + (q - 1) ≤ 4194305 := by
  obtain ⟨⟨ps, p1, p2, p3⟩, ⟨qs, q1, q2, q3⟩, hne⟩ := h z (by simp)
  have hdz := hd z (by simp)
  rw [← p1, ← q1] at hl
  obtain ⟨k1, k2⟩ := kids_zip z.1.d z.2.d ps qs hl p3 q3
  have hll := likes_len hl
  have hpl : ps.length = z.1.l.length := by rw [← p1]; simp
  have hql : qs.length = z.2.l.length := by rw [← q1]; simp
  have hlp : 1 ≤ z.1.l.length := by
    cases hl : z.1.l with
    | nil => exact absurd hl hne
    | cons _ _ => simp
  have hb1 := length_le_bulks z.1.l
  have hs1 := sum_bulks z.1.l
  have hk2 := kidsP_sum V.bulks rfl z.1.d ps p3
  rw [p1] at hk2
  have hsum : sumL V.bulks (fsts (st ++ [z])) = sumL V.bulks (fsts st) + V.bulks z.1.l := by
    unfold fsts
    rw [List.map_append, sumL_append]
    simp [sumL]
  have hlen : st.length ≤ sumL V.bulks (fsts st) := by
    have := len_load (st := fsts st) fun p hp => by
      obtain ⟨y, hy, rfl⟩ := List.mem_map.1 hp
      exact (h y (by simp [hy])).2.2
    simpa [fsts] using this
  simp only [List.length_map] at hll
  refine ⟨ps.map (·.2), qs.map (·.2), (kidsP z.1.d ps).zip (kidsP z.2.d qs), p2, q2, by simpa using hpl, by simpa using hql, by omega, by omega, by omega, ?_, ?_, ?_, ?_, ?_, ?_⟩
  · rw [fsts_zip k1]
    exact kidsP_pr _ ps p3
  · rw [snds_zip k1]
    exact kidsP_pr _ qs q3
  · intro y hy
    rcases List.mem_append.1 hy with hy | hy
    · exact h y (by simp [hy])
    · have h1 := kidsP_rows z.1.d ps p3 y.1 (List.of_mem_zip hy).1
      have h2 := kidsP_rows z.2.d qs q3 y.2 (List.of_mem_zip hy).2
      exact ⟨.of h1.1 hF, .of h2.1 hF, h1.2⟩
  · rw [heq]
    constructor
    · intro hh y hy
      rcases List.mem_append.1 hy with hy | hy
      · exact hh y (by simp [hy])
      · exact k2.1 (by rw [p1, q1]; exact hh z (by simp)) y hy
    · intro hh y hy
      rcases List.mem_append.1 hy with hy | hy
      · exact hh y (by simp [hy])
      · simp at hy
        subst hy
        rw [← p1, ← q1]
        exact k2.2 fun x hx => hh x (by simp [hx])
  · unfold fsts at *
    rw [List.map_append, sumL_append]
    have := fsts_zip k1
    unfold fsts at this
    rw [this, hk2]
    omega
  · intro y hy
    rcases List.mem_append.1 hy with hy | hy
    · have := hd y (by simp [hy])
      omega
    · have h1 := (List.of_mem_zip hy).1
      have h2 := (List.of_mem_zip hy).2
      unfold kidsP at h1 h2
      obtain ⟨u, _, e1⟩ := List.mem_map.1 h1
      obtain ⟨v, _, e2⟩ := List.mem_map.1 h2
      rw [← e1, ← e2]
      show z.1.d + 1 + _ ≤ _ ∧ z.2.d + 1 + _ ≤ _
      omega
end Go.Proofs.YtnjcofjphneccaaDoor
