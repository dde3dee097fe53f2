/-
  THE STACK OF PLACES: what it is in memory; what is kept; leave, by contract.
-/
import Derived.Test.YtnjcofjphneccaaDoorMem
import Derived.Deep.AppendLies
namespace Go.Proofs.YtnjcofjphneccaaDoor
open Go.RowKit

/-- the blocks F are as they were; the streams are as they were -/
structure Fr (F : Nat → Prop) (w w' : World) : Prop where
  os : w'.os = w.os
  tape : w'.tape = w.tape
  output : w'.output = w.output
  size : w.heap.size ≤ w'.heap.size
  block : ∀ k, F k → w'.heap[k]? = w.heap[k]?
theorem Fr.refl (F : Nat → Prop) (w : World) : Fr F w w := ⟨rfl, rfl, rfl, Nat.le_refl _, fun _ _ => rfl⟩
theorem Fr.trans {F : Nat → Prop} {a b c : World} (h : Fr F a b) (k : Fr F b c) : Fr F a c :=
  ⟨k.os.trans h.os, k.tape.trans h.tape, k.output.trans h.output, Nat.le_trans h.size k.size, fun i hi => (k.block i hi).trans (h.block i hi)⟩
theorem Fr.mono {F F' : Nat → Prop} {a b : World} (h : Fr F a b) (hF : ∀ k, F' k → F k) : Fr F' a b := ⟨h.os, h.tape, h.output, h.size, fun k hk => h.block k (hF k hk)⟩
theorem Fr.below {B : Nat} {w w' : World} (h : Fr (· < B) w w') : Below B w w' := ⟨h.os, h.tape, h.output, h.size, h.block⟩
theorem Fr.of {B : Nat} {w w' : World} (h : Below B w w') {F : Nat → Prop} (hF : ∀ k, F k → k < B) : Fr F w w' := ⟨h.os, h.tape, h.output, h.size, fun k hk => h.block k (hF k hk)⟩
theorem Fr.alloc {F : Nat → Prop} {a w : World} (h : Fr F a w) (hF : ∀ k, F k → k < a.heap.size) (o : Obj) : Fr F a (w.alloc o) :=
  h.trans ⟨rfl, rfl, rfl, by simp, fun k hk => Below.heap_alloc _ _ _ (Nat.lt_of_lt_of_le (hF k hk) h.size)⟩
theorem Fr.setCell {F : Nat → Prop} {a w : World} (h : Fr F a w) {p : Addr} (hp : ¬ F p.block) (u : Value) : Fr F a (w.setCell p u) :=
  h.trans ⟨rfl, rfl, rfl, by simp [World.setCell], fun k hk => Below.heap_setCell _ _ _ _ (by rintro rfl; exact hp hk)⟩
theorem Fr.drew {F : Nat → Prop} {a w : World} (h : Fr F a w) : Fr F a w.drew := ⟨h.os, h.tape, h.output, h.size, h.block⟩
theorem Fr.drewN {F : Nat → Prop} {a w : World} (h : Fr F a w) (n : Nat) : Fr F a (w.drewN n) := h.trans ⟨rfl, rfl, rfl, Nat.le_refl _, fun _ _ => rfl⟩
theorem Fr.grown {F : Nat → Prop} {a w w' : World} {row : Option Nat} (h : Fr F a w) (hF : ∀ k, F k → k < a.heap.size) (hg : w.grownBy w' row) (hr : ∀ k, row = some k → ¬ F k) : Fr F a w' :=
  h.trans ⟨hg.os, hg.tape, hg.output, hg.size, fun k hk => hg.block k (Nat.lt_of_lt_of_le (hF k hk) h.size) (fun e => hr k e.symm hk)⟩
theorem Fr.cell {F : Nat → Prop} {w w' : World} (h : Fr F w w') {p : Addr} (hp : F p.block) : w'.cell? p = w.cell? p := World.cell?_of_block (w := w) (h.block p.block hp)

/-- a place as it lies in memory: a slice, a depth -/
structure Pr where
  A : Option Addr
  n : Nat
  c : Nat
  d : Int
def Pr.vals (p : Pr) : List Value := [.slice p.A p.n p.c, .int .i64 p.d]
def Pr.v (p : Pr) : Value := .agg #[.slice p.A p.n p.c, .int .i64 p.d]
/-- the variable in block b is a stack of the call's own that holds st, away from the blocks F -/
def Stk (w : World) (F : Nat → Prop) (b : Nat) (st : List Pr) : Prop :=
  ∃ v, w.cell? ⟨b, 0, none⟩ = some v ∧ w.frozen? ⟨b, 0, none⟩ = false ∧ b < w.heap.size ∧ ¬ F b ∧ w.ownsRow 0 44 2 v st.length (st.flatMap Pr.vals) ∧ ∀ k, v.ownBlock = some k → k ≠ b ∧ ¬ F k
theorem flat_len (st : List Pr) : (st.flatMap Pr.vals).length = st.length * 2 := by
  induction st with
  | nil => rfl
  | cons p r ih => simp only [List.flatMap_cons, List.length_append, ih, Pr.vals, List.length_cons, List.length_nil]; omega
theorem flat_last (st : List Pr) (p : Pr) : ((st ++ [p]).flatMap Pr.vals)[st.length * 2]? = some (.slice p.A p.n p.c) ∧ ((st ++ [p]).flatMap Pr.vals)[st.length * 2 + 1]? = some (.int .i64 p.d) := by
  rw [List.flatMap_append]
  have h := flat_len st
  constructor
  · rw [List.getElem?_append_right (by omega), h]; simp [Pr.vals]
  · rw [List.getElem?_append_right (by omega), h]; simp [Pr.vals]
theorem own_pop {w : World} {B : Nat} {e : TypeId} {st : List Pr} {p : Pr} {g cap : Nat} (h : w.ownsRow B e 2 (.slice (some ⟨g, 0, none⟩) (st.length + 1) cap) (st.length + 1) ((st ++ [p]).flatMap Pr.vals)) :
    w.ownsRow B e 2 (.slice (some ⟨g, 0, none⟩) st.length cap) st.length (st.flatMap Pr.vals) := by
  have hl := flat_len st
  refine ⟨hl, ?_⟩
  rcases h.2 with ⟨hv, _⟩ | ⟨g', cap', cur, hv, hb, hg, hn, hm, hs, ht⟩
  · cases hv
  · injection hv with h1 h2 h3
    injection h1 with h1
    injection h1 with h1
    subst h1 h3
    refine .inr ⟨g, cap, cur, rfl, hb, hg, by omega, hm, hs, ?_⟩
    rw [List.flatMap_append] at ht
    have := congrArg (List.take (st.length * 2)) ht
    rw [List.take_take, Nat.min_eq_left (by omega), List.take_left' hl] at this
    exact this
theorem own_push {w w' : World} {B : Nat} {e : TypeId} {n : Nat} {v : Value} {xs : List Value} (h : w.ownsRow B e 2 v n xs) (hb : ∀ k, v.ownBlock = some k → w'.heap[k]? = w.heap[k]?) : w'.ownsRow B e 2 v n xs := by
  refine ⟨h.1, ?_⟩
  rcases h.2 with h2 | ⟨g, cap, cur, rfl, hb', hg, r⟩
  · exact .inl h2
  · exact .inr ⟨g, cap, cur, rfl, hb', by rw [hb g rfl]; exact hg, r⟩
theorem Stk.below {w w' : World} {F : Nat → Prop} {b : Nat} {st : List Pr} (h : Stk w F b st) (hb : Below w.heap.size w w') : Stk w' F b st := by
  obtain ⟨v, hc, hf, hbs, hFb, hown, hk⟩ := h
  exact ⟨v, (hb.cell (p := ⟨b, 0, none⟩) hbs).trans hc, (hb.frozen (p := ⟨b, 0, none⟩) hbs).trans hf, Nat.lt_of_lt_of_le hbs hb.size, hFb, own_push hown fun k hk' => hb.block k (hown.lt k hk').2, hk⟩
theorem Stk.alloc {w : World} {F : Nat → Prop} {b : Nat} {st : List Pr} (h : Stk w F b st) (o : Obj) : Stk (w.alloc o) F b st := h.below (below_alloc w o)
theorem Stk.mono {w : World} {F F' : Nat → Prop} {b : Nat} {st : List Pr} (h : Stk w F b st) (hF : ∀ k, F' k → k < w.heap.size → F k ∨ (k ≠ b ∧ ∀ v, w.cell? ⟨b, 0, none⟩ = some v → v.ownBlock ≠ some k)) : Stk w F' b st := by
  obtain ⟨v, hc, hf, hbs, hFb, hown, hk⟩ := h
  refine ⟨v, hc, hf, hbs, fun h => ?_, hown, fun k hk' => ⟨(hk k hk').1, fun h => ?_⟩⟩
  · rcases hF b h hbs with h | h
    · exact hFb h
    · exact h.1 rfl
  · rcases hF k h (hown.lt k hk').2 with h | h
    · exact (hk k hk').2 h
    · exact h.2 v hc hk'
theorem stk_set {w : World} {F : Nat → Prop} {b : Nat} {st : List Pr} {v old : Value} (hc : w.cell? ⟨b, 0, none⟩ = some old) (hf : w.frozen? ⟨b, 0, none⟩ = false) (hbs : b < w.heap.size) (hFb : ¬ F b)
    (hown : w.ownsRow 0 44 2 v st.length (st.flatMap Pr.vals)) (hk : ∀ k, v.ownBlock = some k → k ≠ b ∧ ¬ F k) : Stk (w.setCell ⟨b, 0, none⟩ v) F b st :=
  ⟨v, World.cell?_setCell_same _ _ _ hc, by rw [← hf]; simp, by simpa [World.setCell] using hbs, hFb, own_push hown fun k hk' => Below.heap_setCell _ _ _ _ (hk k hk').1, hk⟩

set_option maxRecDepth 4000 in
set_option maxHeartbeats 400000 in
theorem leave_any (F : Nat → Prop) (b : Nat) (st : List Pr) (p : Pr) (w : World) (hF : ∀ k, F k → k < w.heap.size) (h : Stk w F b (st ++ [p])) (hl : st.length ≤ 4194304) :
    Calls Tryd.prog 25 #[.pointer (some ⟨b, 0, none⟩)] w fun e w' => e = .returned p.v ∧ Stk w' F b st ∧ Fr F w w' := by
  obtain ⟨v, hc, hf, hbs, hFb, hown, hk⟩ := h
  rw [List.length_append, List.length_singleton] at hown
  obtain ⟨g, cap, rfl, -, hgs⟩ := hown.form (by omega)
  obtain ⟨hgb, hFg⟩ := hk g rfl
  have hcells := hown.cells (g := g) rfl
  have h0 := hcells _ _ (flat_last st p).1
  have h1 := hcells _ _ (flat_last st p).2
  have hadd : ∀ j, (⟨g, 0, none⟩ : Addr).add j = ⟨g, j, none⟩ := fun j => by unfold Addr.add; split <;> simp_all
  rw [hadd] at h0 h1
  have hcap : st.length + 1 ≤ cap := by
    rcases hown.2 with ⟨hv, _⟩ | ⟨g', cap', cur, hv, hb, hg, hn, hm, hs, ht⟩
    · cases hv
    · injection hv with h1 h2 h3
      omega
  obtain ⟨n, hn⟩ : ∃ n, n = st.length := ⟨_, rfl⟩
  have HO := Lib.hid (own_pop hown)
  rw [← hn] at h0 h1 hcap hc hl
  have HN := Lib.hid hn
  clear hcells hown hadd hk hn
  unfold Pr.v
  go_enter Tryd.func25, Tryd.ntmps25
  go_wp2_with fail
  have HO := HO.out
  have hN := HN.out
  subst hN
  have hS := stk_set (b := b) hc hf hbs hFb HO (fun k hk' => by
    have : g = k := by simpa [Value.ownBlock] using hk'
    subst this
    exact ⟨hgb, hFg⟩)
  exact bodyPost_ret (v := .agg #[.slice p.A p.n p.c, .int .i64 p.d]) (by simp [results, Tryd.results25, go_sem]) rfl
    ⟨rfl, (hS.alloc _).alloc _, (((Fr.refl F w).setCell hFb _).alloc hF _).alloc hF _⟩
end Go.Proofs.YtnjcofjphneccaaDoor
