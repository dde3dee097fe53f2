/-
  within, strings.Clone, by contract; a set of names; a row of names that is gathered.
-/
import Derived.Test.YtgehgccgologpaaZi
import Derived.Maps.OwnSet
import Derived.Maps.OwnIn
namespace Go.Proofs.Ytgehgccgologpaa.Z
open Go.RowKit Go.Shelf Go.Maps Go.WideMaps Go.Proofs.Ytgehgccgologpaa Go.Proofs.Ytgehgccgologpaa.R Go.Proofs.Ytgehgccgologpaa.T

theorem within_any (A : Option Addr) (n c : Nat) (w : World) :
    Calls Try.prog 25 #[.slice A n c] w fun e w' => e = .returned (.func (.func 41) #[] #[.pointer (some ⟨w.heap.size, 0, none⟩)]) ∧ w' = w.alloc (.cells #[.slice A n c] 23) := by
  go_enter Try.func25, Try.ntmps25
  go_wp2_with fail
  go_ret
  exact ⟨rfl, rfl⟩
theorem strClone_any (s : ByteArray) (w : World) (h : s.size ≤ 4194304) : Calls Try.prog 31 #[.string s] w fun e w' => e = .returned (.string s) ∧ Below w.heap.size w w' := by
  have HC := Lib.hid (Try.stringslite_Clone s w (by omega))
  clear h
  go_enter Try.func31, Try.ntmps31
  go_wp2_with fail
  refine HC.out.mono ?_
  rintro e w1 ⟨rfl, hb⟩
  go_wp2_with fail
  go_ret
  exact ⟨rfl, hb⟩
/-! a set of names -/
def keyL (s : ByteArray) : Lit := .string s.data.toList
theorem keyL_lit (s : ByteArray) : WideAt.IsKeyLit (keyL s) := by
  unfold keyL
  trivial
theorem keyL_inj {a b : ByteArray} (h : keyL a = keyL b) : a = b := by
  unfold keyL at h
  injection h with h
  apply ByteArray.ext
  exact Array.toList_inj.1 h
theorem any_keyL (x : ByteArray) : ∀ L : List ByteArray, (L.map keyL).any (fun y => y.sameKey (keyL x)) = hasB L x
  | [] => rfl
  | y :: r => by
    have ih := any_keyL x r
    rw [List.map_cons, List.any_cons, ih]
    unfold hasB
    rw [List.any_cons]
    congr 1
    by_cases h : y = x
    · subst h
      rw [WideAt.sameKey_self (keyL_lit y)]
      simp
    · rw [sameKey_ne (fun e => h (keyL_inj e)), decide_eq_false h]
def setB (L : List ByteArray) : DataW Unit := setOf (.agg []) (L.map keyL)
theorem setB_has (L : List ByteArray) (s : ByteArray) : Maps.has (setB L) (keyL s) = hasB L s := by
  unfold setB
  rw [has_setOf _ _ _ (fun x hx => by obtain ⟨y, _, rfl⟩ := List.mem_map.1 hx; exact keyL_lit y), any_keyL]
theorem setB_put (L : List ByteArray) (s : ByteArray) : (setB L).put (keyL s) (.agg []) = setB (L ++ [s]) := by
  unfold setB
  rw [List.map_append, List.map_singleton, setOf_snoc]
theorem lawS : Keyed Try.prog 9 := string_keyed Try.underlying9
theorem key_of (s : ByteArray) (h : s.size ≤ 4194304) : keyOf Try.prog 9 (.string s) = some (keyL s) := keyOf_string_mk Try.underlying9 (by unfold maxLen; omega)
/-! a row of names -/
abbrev strV (L : List ByteArray) : List Value := L.map Value.string
def OwnT (w : World) (b : Nat) (v : Value) (L : List ByteArray) : Prop := w.ownsRow b 9 1 v L.length (strV L)
theorem infoSt : (Try.prog.info? 9).map (fun i => (i.zero, i.size, i.bytes)) = some (some (.string ⟨#[]⟩), 1, 16) := by kernel_rfl
theorem step_appS {ops : Array Oper} {o : Oper} {a : Act} {w : World} {K : Act → World → Prop} {Q : Exit → Act → World → Prop} {E : Prop} (hgd : o.guard = none) (s x : Operand)
    (ho : o.op = .call { callee := .builtin .append, args := #[s, x], argTypes := #[22, 22] })
    (C : Nat) (nv : Value) (L : List ByteArray) (hs : a.eval s = nv) (hown : OwnT w C nv L) (g : Nat) (y : ByteArray) (hx : a.eval x = .slice (some ⟨g, 0, none⟩) 1 1) (hc : w.cell? ⟨g, 0, none⟩ = some (.string y)) (hl : L.length ≤ 4194304) (hb : C ≤ w.heap.size)
    (h : ∀ nv' w', OwnT w' C nv' (L ++ [y]) → w.grownBy w' nv.ownBlock → (nv'.ownBlock = nv.ownBlock ∨ nv'.ownBlock = some w.heap.size) → K (a.put o.dst nv') w') :
    if Region.wanted o (yielded ops a.tmps) = true then Oper.wp Try.prog o a w K Q else E := by
  have hw : Region.wanted o (yielded ops a.tmps) = true := by simp [Region.wanted, hgd]
  rw [if_pos hw]
  obtain ⟨i0, hi0, hz0, hz1, hz2⟩ := info_parts infoSt
  obtain ⟨nv', w', hr, q2, q3, -, q5⟩ := run_append_own_at (P := Try.prog) w C 22 o.type 9 i0 _ 1 16 (by kernel_rfl) hi0 hz0 hz1 hz2 rfl (by decide) nv L.length (strV L) hown ⟨g, 0, none⟩ 1 1 [.string y] rfl
    (fun j u hj => by
      match j with
      | 0 => rw [add_lit]; simp at hj; subst hj; exact hc
      | j + 1 => simp at hj) (fun u hu => by simp at hu; subst hu; rfl) (by unfold maxLen; omega) (by omega) hb
  unfold Oper.wp execOp
  simp only [ho, resolve, invoke, builtin, Sem.run_bind, Sem.run_pure, Result.andThen_ok, List.map_toArray, List.map_cons, List.map_nil, hs, hx, hr]
  refine h nv' w' ?_ q3 q5
  show World.ownsRow _ _ _ _ _ _ _
  rw [List.length_append, strV, List.map_append]
  exact q2
theorem OwnT.form {w : World} {b : Nat} {v : Value} {L : List ByteArray} (h : OwnT w b v L) : ∃ A c, v = .slice A L.length c ∧ L.length ≤ c ∧ StrsB w w.heap.size A L := by
  have hl := h.1
  rcases h.2 with ⟨rfl, h0⟩ | ⟨g, cap, cur, rfl, _, hg, hnc, _, _, htk⟩
  · exact ⟨none, 0, by rw [h0], by omega, .inl (List.eq_nil_of_length_eq_zero h0)⟩
  · refine ⟨_, cap, rfl, hnc, .inr ⟨g, 0, rfl, (Array.getElem?_eq_some_iff.1 hg).1, fun j hj => ?_⟩⟩
    have hj2 : (strV L)[j]? = some (.string L[j]) := by rw [List.getElem?_map, List.getElem?_eq_getElem hj]; rfl
    rw [← htk, List.getElem?_take_of_lt (by omega), Array.getElem?_toList] at hj2
    rw [Nat.zero_add]
    simp [World.cell?, hg, hj2]
theorem OwnT.cells {w : World} {b : Nat} {v : Value} {L : List ByteArray} (h : OwnT w b v L) {k : Nat} (hk : v.ownBlock = some k) : b ≤ k ∧ ∃ o, w.heap[k]? = some o ∧ o.isCells = true := by
  rcases h.2 with ⟨rfl, h0⟩ | ⟨g, cap, cur, rfl, hb, hg, _⟩
  · cases hk
  · cases hk
    exact ⟨hb, _, hg, rfl⟩
/-- what Vars' loop keeps: w the world ahead of all -/
structure Iv (w : World) (pre : List It) (W : World) : Prop where
  cel : ∃ nv, W.cell? ⟨w.heap.size, 0, none⟩ = some nv ∧ OwnT W w.heap.size nv (vrs pre) ∧ nv.ownBlock ≠ some w.heap.size ∧ nv.ownBlock ≠ some (w.heap.size + 2)
  fz : W.frozen? ⟨w.heap.size, 0, none⟩ = false
  mp : W.cell? ⟨w.heap.size + 2, 0, none⟩ = some (.map (some (w.heap.size + 1)))
  om : W.ownsMap Try.prog 9 (unitElem (H := Unit)) (w.heap.size + 1) (vrs pre).length (setB (vrs pre))
  bl : Below w.heap.size w W
theorem Iv.lowD {w : World} {C : Nat} (hC : w.heap.size + 3 ≤ C) {pre : List It} {W W' : World} (h : Iv w pre W) (hf : Fr (fun k => k < C ∨ Dd w.heap.size W k) W W') : Iv w pre W' := by
  obtain ⟨⟨nv, h1, h2, h3, h4⟩, hz, hm, ho, hb⟩ := h
  refine ⟨⟨nv, (hf.cell (p := ⟨w.heap.size, 0, none⟩) (.inl (by show w.heap.size < C; omega))).trans h1, own_sameB h2 fun k hk => hf.block k (.inr (.inr ⟨nv, h1, hk⟩)), h3, h4⟩, ?_, (hf.cell (p := ⟨w.heap.size + 2, 0, none⟩) (.inl (by show w.heap.size + 2 < C; omega))).trans hm, ?_, hb.trans (hf.mono fun k hk => .inl (by omega)).below⟩
  · exact (World.frozen?_of_block (hf.block w.heap.size (.inl (by omega)))).trans hz
  · obtain ⟨es, clock, h5, F, h6, hD⟩ := ho
    exact ⟨es, clock, (hf.block (w.heap.size + 1) (.inl (by omega))).trans h5, F, h6, hD⟩
theorem Iv.cel' {w : World} {pre : List It} {W : World} (h : Iv w pre W) : ∀ k, Dd w.heap.size W k → ∃ o, W.heap[k]? = some o ∧ o.isCells = true := by
  obtain ⟨⟨nv, h1, h2, h3, h4⟩, hz, hm, ho, hb⟩ := h
  intro k hk
  rcases hk with rfl | ⟨u, hu, hk⟩
  · exact cells_of_cell h1
  · rw [h1] at hu
    cases hu
    exact (h2.cells hk).2
end Go.Proofs.Ytgehgccgologpaa.Z
