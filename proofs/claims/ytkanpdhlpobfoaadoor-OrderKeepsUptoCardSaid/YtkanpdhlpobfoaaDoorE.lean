/-
  ROWS OF BYTES that a call appends to, away from other blocks.
-/
import Derived.Test.YtkanpdhlpobfoaaDoorB
import Derived.Lib.AppendStr
import Derived.Maps.AppendAt
import Derived.Sort.Grow
namespace Go.Proofs.YtkanpdhlpobfoaaDoor
open Go.RowKit
open K (Pt)

/-- the blocks F are as they were; the streams are as they were -/
structure Fr (F : Nat → Prop) (w w' : World) : Prop where
  os : w'.os = w.os
  tape : w'.tape = w.tape
  output : w'.output = w.output
  size : w.heap.size ≤ w'.heap.size
  block : ∀ k, F k → w'.heap[k]? = w.heap[k]?
theorem Fr.refl (F : Nat → Prop) (w : World) : Fr F w w := ⟨rfl, rfl, rfl, Nat.le_refl _, fun _ _ => rfl⟩
theorem Fr.trans {F : Nat → Prop} {a b c : World} (h : Fr F a b) (k : Fr F b c) : Fr F a c :=
  ⟨k.os.trans h.os, k.tape.trans h.tape, k.output.trans h.output, Nat.le_trans h.size k.size, fun i hi => (k.block i hi).trans (h.block i hi)⟩
theorem Fr.mono {F F' : Nat → Prop} {a b : World} (h : Fr F a b) (hF : ∀ k, F' k → F k) : Fr F' a b := ⟨h.os, h.tape, h.output, h.size, fun k hk => h.block k (hF k hk)⟩
theorem Fr.below {B : Nat} {w w' : World} (h : Fr (· < B) w w') : Below B w w' := ⟨h.os, h.tape, h.output, h.size, h.block⟩
theorem Fr.of {B : Nat} {w w' : World} (h : Below B w w') {F : Nat → Prop} (hF : ∀ k, F k → k < B) : Fr F w w' := ⟨h.os, h.tape, h.output, h.size, fun k hk => h.block k (hF k hk)⟩
theorem Fr.alloc {F : Nat → Prop} {a w : World} (h : Fr F a w) (hF : ∀ k, F k → k < a.heap.size) (o : Obj) : Fr F a (w.alloc o) :=
  h.trans ⟨rfl, rfl, rfl, by simp, fun k hk => Below.heap_alloc _ _ _ (Nat.lt_of_lt_of_le (hF k hk) h.size)⟩
theorem Fr.setCell {F : Nat → Prop} {a w : World} (h : Fr F a w) {p : Addr} (hp : ¬ F p.block) (u : Value) : Fr F a (w.setCell p u) :=
  h.trans ⟨rfl, rfl, rfl, by simp [World.setCell], fun k hk => Below.heap_setCell _ _ _ _ (by rintro rfl; exact hp hk)⟩
theorem Fr.drew {F : Nat → Prop} {a w : World} (h : Fr F a w) : Fr F a w.drew := ⟨h.os, h.tape, h.output, h.size, h.block⟩
theorem Fr.drewN {F : Nat → Prop} {a w : World} (h : Fr F a w) (n : Nat) : Fr F a (w.drewN n) := h.trans ⟨rfl, rfl, rfl, Nat.le_refl _, fun _ _ => rfl⟩
theorem Fr.grown {F : Nat → Prop} {a w w' : World} {row : Option Nat} (h : Fr F a w) (hF : ∀ k, F k → k < a.heap.size) (hg : w.grownBy w' row) (hr : ∀ k, row = some k → ¬ F k) : Fr F a w' :=
  h.trans ⟨hg.os, hg.tape, hg.output, hg.size, fun k hk => hg.block k (Nat.lt_of_lt_of_le (hF k hk) h.size) (fun e => hr k e.symm hk)⟩
theorem Fr.cell {F : Nat → Prop} {w w' : World} (h : Fr F w w') {p : Addr} (hp : F p.block) : w'.cell? p = w.cell? p := World.cell?_of_block (w := w) (h.block p.block hp)
/-- a row of bytes that reads as l, away from the blocks F -/
def Own (w : World) (F : Nat → Prop) (v : Value) (l : Bs) : Prop := w.ownsRow 0 5 1 v l.length (l.map bv) ∧ ∀ k, v.ownBlock = some k → ¬ F k
theorem Own.nil (w : World) (F : Nat → Prop) : Own w F (.slice none 0 0) [] := ⟨World.ownsRow_nil _ _ _ _, fun k hk => by simp [Value.ownBlock] at hk⟩
theorem own_keep {w w' : World} {B size n : Nat} {e : TypeId} {v : Value} {xs : List Value} (h : w.ownsRow B e size v n xs) (hb : ∀ k, v.ownBlock = some k → w'.heap[k]? = w.heap[k]?) : w'.ownsRow B e size v n xs := by
  refine ⟨h.1, ?_⟩
  rcases h.2 with h2 | ⟨g, cap, cur, rfl, hb', hg, r⟩
  · exact .inl h2
  · exact .inr ⟨g, cap, cur, rfl, hb', by rw [hb g rfl]; exact hg, r⟩
theorem Own.below {w w' : World} {F : Nat → Prop} {v : Value} {l : Bs} (h : Own w F v l) (hb : Below w.heap.size w w') : Own w' F v l :=
  ⟨own_keep h.1 fun k hk => hb.block k (h.1.lt k hk).2, h.2⟩
theorem Own.more {w : World} {F F' : Nat → Prop} {v : Value} {l : Bs} (h : Own w F v l) (hF : ∀ k, k < w.heap.size → F' k → F k) : Own w F' v l :=
  ⟨h.1, fun k hk h' => h.2 k hk (hF k (h.1.lt k hk).2 h')⟩
theorem bv_cells (s : ByteArray) : Lib.strCells s = s.data.toList.map bv := rfl
/-- append of a string, and where the new row lies -/
theorem run_app_str (w : World) (ty : TypeId) (F : Nat → Prop) (hF : ∀ k, F k → k < w.heap.size) (v : Value) (l : Bs) (h : Own w F v l) (s : ByteArray) (hlim : l.length + s.size ≤ 140737488355320) :
    ∃ v' w', (Builtin.append_ #[37, 9] ty #[v, .string s]).run Tryd.prog w = .ok v' w' ∧ Own w' F v' (l ++ s.data.toList) ∧ Fr F w w' := by
  obtain ⟨i0, hi, hz0, hz1, hz2⟩ := info_parts info5
  obtain ⟨hown, hk⟩ := h
  obtain ⟨v', w', hr, h2, h3, h4⟩ := Lib.run_append_own_string (P := Tryd.prog) w 0 37 9 ty 5 i0 Tryd.underlying37 Tryd.underlying9 hi hz0 hz1 hz2 v l.length (l.map bv) hown s (by unfold maxLen; omega) (by omega) (Nat.zero_le _)
  have hat : v'.ownBlock = v.ownBlock ∨ v'.ownBlock = some w.heap.size := by
    rcases hown.2 with ⟨rfl, h0⟩ | ⟨g, cap, cur, rfl, hbg, hg, hnc, hcm, hcs, htake⟩
    · by_cases hm : s.size = 0
      · left
        rw [h4.2 ⟨rfl, hm⟩]
      · have hr2 := run_append_nil_string (P := Tryd.prog) w 37 9 ty 5 i0 (.int .u8 0) Tryd.underlying37 Tryd.underlying9 hi hz0 s (by omega) (by omega) (by rw [hz2]; omega)
        rw [hr] at hr2
        injection hr2 with hr2 _
        right
        rw [hr2]
        rfl
    · by_cases hroom : l.length + s.size ≤ cap
      · have hr2 := Lib.run_append_room_string (P := Tryd.prog) w 37 9 ty 5 i0 Tryd.underlying37 Tryd.underlying9 hi hz1 g l.length cap cur hg s hroom (by omega)
        rw [hr] at hr2
        injection hr2 with hr2 _
        left
        rw [hr2]
        rfl
      · have holds : ∀ j u, (l.map bv)[j]? = some u → w.cell? ((⟨g, 0, none⟩ : Addr).add j) = some u := hown.cells (g := g) rfl
        have hr2 := Lib.run_append_grow_string (P := Tryd.prog) w 37 9 ty 5 i0 (.int .u8 0) Tryd.underlying37 Tryd.underlying9 hi hz0 ⟨g, 0, none⟩ l.length cap (l.map bv) (by rw [hz1]; simp) holds s (by omega) (by omega) (by rw [hz2]; exact growslice_fits (by omega) (by omega))
        rw [hr] at hr2
        injection hr2 with hr2 _
        right
        rw [hr2]
        rfl
  refine ⟨v', w', hr, ⟨?_, fun k hk' hFk => ?_⟩, (Fr.refl F w).grown hF h3 hk⟩
  · rw [List.length_append, List.map_append, size_list, ← bv_cells]
    exact h2
  · rcases hat with hat | hat
    · rw [hat] at hk'
      exact hk k hk' hFk
    · rw [hat] at hk'
      cases hk'
      exact Nat.lt_irrefl _ (hF _ hFk)
theorem app_str_own {w : World} {ops : Array Oper} {rest : List Oper} {o : Oper} {a : Act} {Q : Exit → Act → World → Prop} (hgd : o.guard = none) (sl x : Operand)
    (ho : o.op = .call { callee := .builtin .append, args := #[sl, x], argTypes := #[37, 9] })
    (F : Nat → Prop) (hF : ∀ k, F k → k < w.heap.size) (v : Value) (l : Bs) (hs : a.eval sl = v) (h0 : Own w F v l) (s : ByteArray) (hx : a.eval x = .string s) (hlim : l.length + s.size ≤ 140737488355320)
    (h : ∀ v' w', Own w' F v' (l ++ s.data.toList) → Fr F w w' → wpList Tryd.prog ops Q rest (a.put o.dst v') w') : wpList Tryd.prog ops Q (o :: rest) a w := by
  refine wpList_plain hgd fun K hK => ?_
  obtain ⟨v', w', hr, h2, h3⟩ := run_app_str w o.type F hF v l h0 s hlim
  unfold Oper.wp execOp
  simp only [ho, resolve, invoke, builtin, Sem.run_bind, Sem.run_pure, Result.andThen_ok, List.map_toArray, List.map_cons, List.map_nil, hs, hx, hr]
  exact hK _ _ (h v' w' h2 h3)


/-- what a call that appends bytes leaves -/
def App (w : World) (F : Nat → Prop) (l : Bs) (e : Ending) (w' : World) : Prop := ∃ v', e = .returned v' ∧ Own w' F v' l ∧ Fr F w w'


/-- F, and what lies from B on -/
def Or (F : Nat → Prop) (B k : Nat) : Prop := F k ∨ k = B

theorem Own.up {w w' : World} {F F' : Nat → Prop} {v : Value} {l : Bs} (h : Own w F v l) (hb : Below w.heap.size w w') (hF : ∀ k, F' k → F k ∨ w.heap.size ≤ k) : Own w' F' v l :=
  ⟨own_keep h.1 fun k hk => hb.block k (h.1.lt k hk).2, fun k hk h' => by
    rcases hF k h' with h2 | h2
    · exact h.2 k hk h2
    · have := (h.1.lt k hk).2
      omega⟩
theorem Own.less {w : World} {F F' : Nat → Prop} {v : Value} {l : Bs} (h : Own w F v l) (hF : ∀ k, F' k → F k) : Own w F' v l := ⟨h.1, fun k hk h' => h.2 k hk (hF k h')⟩

/-- append of a literal -/
theorem app_lit_own {w : World} {ops : Array Oper} {rest : List Oper} {o : Oper} {a : Act} {Q : Exit → Act → World → Prop} (hgd : o.guard = none) (sl x : Operand)
    (ho : o.op = .call { callee := .builtin .append, args := #[sl, x], argTypes := #[37, 37] })
    (F : Nat → Prop) (hF : ∀ k, F k → k < w.heap.size) (v : Value) (l : Bs) (hs : a.eval sl = v) (h0 : Own w F v l) (arr : Array Value) (m : Nat) (news : Bs) (g : Nat) (hx : a.eval x = .slice (some ⟨g, 0, none⟩) m m) (hg : g = w.heap.size) (hm : m = news.length) (harr : arr = (news.map bv).toArray) (hlim : l.length + news.length ≤ 140737488355320)
    (h : ∀ v' w', Own w' F v' (l ++ news) → Fr F w w' → wpList Tryd.prog ops Q rest (a.put o.dst v') w') : wpList Tryd.prog ops Q (o :: rest) a (w.alloc (.cells arr 5)) := by
  obtain ⟨i0, hi, hz0, hz1, hz2⟩ := info_parts info5
  subst hg
  subst hm
  subst harr
  obtain ⟨hown, hk⟩ := h0.below (below_alloc w (.cells (news.map bv).toArray 5))
  refine wpList_append_own_at _ hgd sl x 37 ho 0 5 i0 _ 1 1 Tryd.underlying37 hi hz0 hz1 hz2 rfl (by decide) v l.length (l.map bv) hs hown ⟨w.heap.size, 0, none⟩ news.length news.length (news.map bv) hx (by simp) ?_ (bv_one news) (by unfold maxLen; omega) (by omega) (Nat.zero_le _) ?_
  · intro j u hj
    rw [add_lit, World.cell?_alloc_at _ _ _ _ rfl]
    simpa using hj
  · intro v' w' hown' hg _ hat
    refine h v' w' ⟨?_, fun k hk' hFk => ?_⟩ (((Fr.refl F w).alloc hF _).grown hF hg hk)
    · rw [List.length_append, List.map_append]
      exact hown'
    · rcases hat with hat | hat
      · rw [hat] at hk'
        exact hk k hk' hFk
      · rw [hat] at hk'
        cases hk'
        have := hF _ hFk
        simp at this
        omega
/-- a row of the call's own bytes, as a slice -/
theorem Own.open {w : World} {F : Nat → Prop} {v : Value} {l : Bs} (h : Own w F v l) : ∃ A c, v = .slice A l.length c ∧ l.length ≤ c ∧ Byt w A l := (Byt.of_own h.1).2
/-- behind a box that was made -/
theorem Own.boxed {w : World} {F : Nat → Prop} {v : Value} {l : Bs} (h : Own w F v l) (o : Obj) : Own (w.alloc o) (Or F w.heap.size) v l :=
  ⟨(h.below (below_alloc w o)).1, fun k hk h' => by
    rcases h' with h' | rfl
    · exact h.2 k hk h'
    · exact Nat.lt_irrefl _ (h.1.lt _ hk).2⟩
theorem Or.lt {w : World} {F : Nat → Prop} (hF : ∀ k, F k → k < w.heap.size) (o : Obj) : ∀ k, Or F w.heap.size k → k < (w.alloc o).heap.size := fun k hk => by
  rcases hk with hk | rfl
  · have := hF k hk
    simp
    omega
  · simp
/-- what was done away from F and a box, from a world ahead of the box -/
theorem Fr.unbox {w w' : World} {F : Nat → Prop} (hF : ∀ k, F k → k < w.heap.size) {o : Obj} (h : Fr (Or F w.heap.size) (w.alloc o) w') : Fr F w w' := ((Fr.refl F w).alloc hF o).trans (h.mono fun _ hk => .inl hk)
end Go.Proofs.YtkanpdhlpobfoaaDoor
