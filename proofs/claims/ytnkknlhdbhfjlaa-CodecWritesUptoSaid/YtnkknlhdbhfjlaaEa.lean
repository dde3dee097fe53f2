/-
  ROWS OF BYTES that a call appends to, away from other blocks: append of bytes; appendNum, appendText, appendCount, by contract.
-/
import Derived.Test.YtnkknlhdbhfjlaaP
import Derived.Test.YtnkknlhdbhfjlaaOC
import Derived.Test.YtnkknlhdbhfjlaaE
import Derived.Deep.AppendLies
import Derived.Deep.RegionHeld3
namespace Go.Proofs.Ytnkknlhdbhfjlaa
open Go.RowKit

theorem run_app_none {w : World} (ty : TypeId) {v : Value} {n : Nat} {xs : List Value} (hown : w.ownsRow 0 5 1 v n xs) (A : Option Addr) (c : Nat) :
    (Builtin.append_ #[27, 27] ty #[v, .slice A 0 c]).run Try.prog w = .ok v w := by
  obtain ⟨i0, hi, hz0, hz1, hz2⟩ := info_parts info5
  rcases hown.2 with ⟨rfl, rfl⟩ | ⟨g, cap, cur, rfl, _, _, hnc, _⟩
  · cases A <;> simp [Builtin.append_, run_underlying Try.underlying27, sizeOf, typeInfo, hi, Builtin.lenOf, Builtin.firstCells, loadCells, loadCellsFrom]
  · cases A <;> simp [Builtin.append_, run_underlying Try.underlying27, sizeOf, typeInfo, hi, Builtin.lenOf, Builtin.firstCells, hnc, storeCells, loadCells, loadCellsFrom]
/-- append of bytes, and where the new row lies -/
theorem run_app_row (w : World) (ty : TypeId) (F : Nat → Prop) (hF : ∀ k, F k → k < w.heap.size) (v : Value) (l : Bs) (h : Own w F v l) (A : Option Addr) (c : Nat) (t : Bs) (hB : O.Byt w A t) (hlim : l.length + t.length ≤ 140737488355320) :
    ∃ v' w', (Builtin.append_ #[27, 27] ty #[v, .slice A t.length c]).run Try.prog w = .ok v' w' ∧ Own w' F v' (l ++ t) ∧ Fr F w w' := by
  obtain ⟨i0, hi, hz0, hz1, hz2⟩ := info_parts info5
  obtain ⟨hown, hk⟩ := h
  by_cases ht : t = []
  · subst ht
    exact ⟨v, w, run_app_none ty hown A c, by simpa using ⟨hown, hk⟩, Fr.refl F w⟩
  · obtain ⟨ad, rfl⟩ : ∃ ad, A = some ad := by
      rcases hB with h | ⟨g, o, h, _⟩
      · exact absurd h ht
      · exact ⟨_, h⟩
    obtain ⟨v', w', hr, h2, h3, _, hat⟩ := run_append_own_at (P := Try.prog) w 0 27 ty 5 i0 _ 1 1 Try.underlying27 hi hz0 hz1 hz2 rfl (by decide) v l.length (l.map bv) hown ad t.length c (t.map bv) (by simp) hB.cells (O.bv_one t) (by unfold maxLen; omega) (by omega) (Nat.zero_le _)
    refine ⟨v', w', hr, ⟨?_, fun k hk' hFk => ?_⟩, (Fr.refl F w).grown hF h3 hk⟩
    · rw [List.length_append, List.map_append]
      exact h2
    · rcases hat with hat | hat
      · rw [hat] at hk'
        exact hk k hk' hFk
      · rw [hat] at hk'
        injection hk' with hk'
        have := hF k hFk
        omega
theorem wp_app_row {w : World} {o : Oper} {a : Act} {K : Act → World → Prop} {Q : Exit → Act → World → Prop} (s x : Operand)
    (ho : o.op = .call { callee := .builtin .append, args := #[s, x], argTypes := #[27, 27] })
    (F : Nat → Prop) (hF : ∀ k, F k → k < w.heap.size) (v : Value) (l : Bs) (hs : a.eval s = v) (h0 : Own w F v l) (A : Option Addr) (m c : Nat) (t : Bs) (hx : a.eval x = .slice A m c) (hm : m = t.length) (hB : O.Byt w A t) (hlim : l.length + t.length ≤ 140737488355320)
    (h : ∀ v' w', Own w' F v' (l ++ t) → Fr F w w' → K (a.put o.dst v') w') : o.wp Try.prog a w K Q := by
  subst hm
  obtain ⟨v', w', hr, h2, h3⟩ := run_app_row w o.type F hF v l h0 A c t hB hlim
  unfold Oper.wp execOp
  simp only [ho, resolve, invoke, builtin, Sem.run_bind, Sem.run_pure, Result.andThen_ok, List.map_toArray, List.map_cons, List.map_nil, hs, hx, hr]
  exact h v' w' h2 h3
theorem app_row {w : World} {ops : Array Oper} {rest : List Oper} {o : Oper} {a : Act} {Q : Exit → Act → World → Prop} (hgd : o.guard = none) (s x : Operand)
    (ho : o.op = .call { callee := .builtin .append, args := #[s, x], argTypes := #[27, 27] })
    (F : Nat → Prop) (hF : ∀ k, F k → k < w.heap.size) (v : Value) (l : Bs) (hs : a.eval s = v) (h0 : Own w F v l) (A : Option Addr) (m c : Nat) (t : Bs) (hx : a.eval x = .slice A m c) (hm : m = t.length) (hB : O.Byt w A t) (hlim : l.length + t.length ≤ 140737488355320)
    (h : ∀ v' w', Own w' F v' (l ++ t) → Fr F w w' → wpList Try.prog ops Q rest (a.put o.dst v') w') : wpList Try.prog ops Q (o :: rest) a w :=
  wpList_plain hgd fun _ hK => wp_app_row s x ho F hF v l hs h0 A m c t hx hm hB hlim fun v' w' h1 h2 => hK _ _ (h v' w' h1 h2)
theorem step_app_row {w : World} {ops : Array Oper} {o : Oper} {a : Act} {K : Act → World → Prop} {Q : Exit → Act → World → Prop} {E : Prop} (hgd : o.guard = none) (s x : Operand)
    (ho : o.op = .call { callee := .builtin .append, args := #[s, x], argTypes := #[27, 27] })
    (F : Nat → Prop) (hF : ∀ k, F k → k < w.heap.size) (v : Value) (l : Bs) (hs : a.eval s = v) (h0 : Own w F v l) (A : Option Addr) (m c : Nat) (t : Bs) (hx : a.eval x = .slice A m c) (hm : m = t.length) (hB : O.Byt w A t) (hlim : l.length + t.length ≤ 140737488355320)
    (h : ∀ v' w', Own w' F v' (l ++ t) → Fr F w w' → K (a.put o.dst v') w') :
    if Region.wanted o (yielded ops a.tmps) = true then Oper.wp Try.prog o a w K Q else E := by
  have hw : Region.wanted o (yielded ops a.tmps) = true := by simp [Region.wanted, hgd]
  rw [if_pos hw]
  exact wp_app_row s x ho F hF v l hs h0 A m c t hx hm hB hlim h
/-- a block that holds these bytes -/
theorem byt_new {w : World} {g : Nat} {arr : Array Value} {t : TypeId} {l : Bs} (h : w.heap[g]? = some (.cells arr t (0, 0))) (ha : arr = (l.map bv).toArray) : O.Byt w (some ⟨g, 0, none⟩) l := by
  subst ha
  refine .inr ⟨g, 0, rfl, (Array.getElem?_eq_some_iff.1 h).1, fun j hj => ?_⟩
  rw [Nat.zero_add, cell_of_row w g j _ _ _ h]
  simp [hj]
/-- what a call that appends bytes leaves -/
def App (w : World) (F : Nat → Prop) (l : Bs) (e : Ending) (w' : World) : Prop := ∃ v', e = .returned v' ∧ Own w' F v' l ∧ Fr F w w'
theorem Own.fr {w w' : World} {F : Nat → Prop} {v : Value} {l : Bs} (h : Own w F v l) (hb : Below w.heap.size w w') : Own w' F v l := h.below hb
theorem Own.up {w w' : World} {F F' : Nat → Prop} {v : Value} {l : Bs} (h : Own w F v l) (hb : Below w.heap.size w w') (hF : ∀ k, F' k → F k ∨ w.heap.size ≤ k) : Own w' F' v l :=
  ⟨own_keep h.1 fun k hk => hb.block k (h.1.lt k hk).2, fun k hk h' => by
    rcases hF k h' with h2 | h2
    · exact h.2 k hk h2
    · have := (h.1.lt k hk).2
      omega⟩
theorem Own.less {w : World} {F F' : Nat → Prop} {v : Value} {l : Bs} (h : Own w F v l) (hF : ∀ k, F' k → F k) : Own w F' v l := ⟨h.1, fun k hk h' => h.2 k hk (hF k h')⟩
/-- F, and block B -/
def Or (F : Nat → Prop) (B k : Nat) : Prop := F k ∨ k = B
theorem gives_byt {w w' : World} {l : Bs} {v : Value} (h : w'.ownsRow w.heap.size 5 1 v l.length (l.map bv)) : ∃ A c, v = .slice A l.length c ∧ O.Byt w' A l := by
  obtain ⟨_, A, c, h1, _, h2⟩ := O.Byt.of_own h
  exact ⟨A, c, h1, h2⟩

set_option maxRecDepth 4000 in
theorem appendText_any (F : Nat → Prop) (val : Value) (l : Bs) (s : ByteArray) (w : World) (hF : ∀ k, F k → k < w.heap.size) (h0 : Own w F val l) (hs : s.size ≤ 4194304) (hlim : l.length + s.size ≤ 140737488355000) :
    Calls Try.prog 30 #[val, .string s] w (App w F (l ++ O.text s.data.toList)) := by
  have HT := Lib.hid (O.text_any s w (by omega))
  have hlen : (O.text s.data.toList).length ≤ 10 + s.size := by
    unfold O.text
    have := O.num_length s.data.toList.length
    rw [List.length_append, size_list] at *
    omega
  generalize O.text s.data.toList = t at *
  go_enter Try.func30, Try.ntmps30
  go_wp2_with fail
  refine HT.out.mono ?_
  rintro e w1 ⟨v1, rfl, h1, hb⟩
  obtain ⟨A, c, rfl, hB⟩ := gives_byt h1
  have HO := h0.below hb
  have HFR := Lib.hid (Fr.of hb hF)
  have hF1 : ∀ k, F k → k < w1.heap.size := fun k hk => Nat.lt_of_lt_of_le (hF k hk) hb.size
  clear h1 h0 HT hb
  go_wp2_with (refine app_row rfl _ _ (by rfl) F hF1 _ l (by rfl) HO A _ c t (by rfl) rfl hB (by omega) ?_; intro v' w' h1 h2)
  go_ret
  exact ⟨_, rfl, h1, HFR.out.trans h2⟩

set_option maxRecDepth 4000 in
theorem appendCount_any (F : Nat → Prop) (val : Value) (l : Bs) (n : Nat) (w : World) (hF : ∀ k, F k → k < w.heap.size) (h0 : Own w F val l) (hn : n ≤ 4194304) (hlim : l.length ≤ 140737488355000) :
    Calls Try.prog 31 #[val, .int .i64 n] w (App w F (l ++ O.num n)) := by
  have hw : IntKind.u64.wrap (n : Int) = (n : Int) := O.wrap_len (by omega)
  have HT := Lib.hid (O.num_any n w (O.len_lim (by omega)))
  have hlen := O.num_length n
  generalize O.num n = t at *
  go_enter Try.func31, Try.ntmps31
  go_wp2_with fail
  refine HT.out.mono ?_
  rintro e w1 ⟨v1, rfl, h1, hb⟩
  obtain ⟨A, c, rfl, hB⟩ := gives_byt h1
  have HO := h0.below hb
  have HFR := Lib.hid (Fr.of hb hF)
  have hF1 : ∀ k, F k → k < w1.heap.size := fun k hk => Nat.lt_of_lt_of_le (hF k hk) hb.size
  clear h1 h0 HT hb
  go_wp2_with (refine app_row rfl _ _ (by rfl) F hF1 _ l (by rfl) HO A _ c t (by rfl) rfl hB (by omega) ?_; intro v' w' h1 h2)
  go_ret
  exact ⟨_, rfl, h1, HFR.out.trans h2⟩
end Go.Proofs.Ytnkknlhdbhfjlaa
