/-
  Rows of nodes that are appended; a node that is stored.
-/
import Derived.Test.YtllpgoaanbiodaaGreatDoorMLb
import Derived.Test.YtllpgoaanbiodaaGreatDoorMPk
import Derived.Maps.AppendAt
import Derived.Laws.Tables
namespace Go.Proofs.YtllpgoaanbiodaaGreatDoor.R
open Go.RowKit Go.Proofs.YtllpgoaanbiodaaGreatDoor Go.Proofs.YtllpgoaanbiodaaGreatDoor.T

abbrev flatX (xs : List X) : List Value := xs.flatMap fun y => y.cells.toList
theorem flatX_len : ∀ xs : List X, (flatX xs).length = xs.length * 6
  | [] => rfl
  | x :: xs => by
    have h := flatX_len xs
    have hl : x.cells.toList.length = 6 := rfl
    show (x.cells.toList ++ flatX xs).length = _
    rw [List.length_append, h, hl, List.length_cons]
    omega
theorem flatX_get : ∀ (xs : List X) (i r : Nat) (y : X) (u : Value), xs[i]? = some y → y.cells.toList[r]? = some u → (flatX xs)[i * 6 + r]? = some u
  | [], i, r, y, u, h, _ => by simp at h
  | x :: xs, 0, r, y, u, h, hu => by
    obtain rfl : x = y := by simpa using h
    show (x.cells.toList ++ flatX xs)[0 * 6 + r]? = some u
    rw [Nat.zero_mul, Nat.zero_add, List.getElem?_append_left (List.getElem?_eq_some_iff.1 hu).1]
    exact hu
  | x :: xs, i + 1, r, y, u, h, hu => by
    show (x.cells.toList ++ flatX xs)[(i + 1) * 6 + r]? = some u
    have hl : x.cells.toList.length = 6 := rfl
    rw [List.getElem?_append_right (by omega), hl, show (i + 1) * 6 + r - 6 = i * 6 + r by omega]
    exact flatX_get xs i r y u (by simpa using h) hu
theorem flatX_one (xs : List X) : ∀ u ∈ flatX xs, u.oneCell' = true := fun u hu => by
  obtain ⟨y, -, hy⟩ := List.mem_flatMap.1 hu
  simp only [X.cells, List.mem_cons, List.not_mem_nil, or_false] at hy
  rcases hy with rfl | rfl | rfl | rfl | rfl | rfl <;> rfl
def XsIs (w : World) (n0 : Nat) (xs : List X) (l : List V) : Prop := xs.length = l.length ∧ ∀ i (h : i < l.length), ∃ y, xs[i]? = some y ∧ IsB w n0 l[i] y
theorem XsIs.low {w w' : World} {n0 : Nat} {xs : List X} {l : List V} (h : XsIs w n0 xs l) (hb : Below n0 w w') : XsIs w' n0 xs l := ⟨h.1, fun i hi => by
  obtain ⟨y, h1, h2⟩ := h.2 i hi
  exact ⟨y, h1, IsB.to hb (Nat.le_refl _) _ _ h2⟩⟩
theorem XsIs.app {w : World} {n0 : Nat} {xs ys : List X} {l m : List V} (h : XsIs w n0 xs l) (k : XsIs w n0 ys m) : XsIs w n0 (xs ++ ys) (l ++ m) := by
  refine ⟨by rw [List.length_append, List.length_append, h.1, k.1], fun i hi => ?_⟩
  by_cases hl : i < l.length
  · obtain ⟨y, h1, h2⟩ := h.2 i hl
    refine ⟨y, ?_, ?_⟩
    · rw [List.getElem?_append_left (by rw [h.1]; exact hl)]
      exact h1
    · rw [List.getElem_append_left hl]
      exact h2
  · have hm : i - l.length < m.length := by rw [List.length_append] at hi; omega
    obtain ⟨y, h1, h2⟩ := k.2 (i - l.length) hm
    refine ⟨y, ?_, ?_⟩
    · rw [List.getElem?_append_right (by rw [h.1]; omega), h.1]
      exact h1
    · rw [List.getElem_append_right (by omega)]
      exact h2
theorem xs_of {w : World} {n0 g : Nat} : ∀ (o : Nat) (l : List V), IsAllB w n0 g o l → ∃ xs, XsIs w n0 xs l ∧ ∀ j u, (flatX xs)[j]? = some u → w.cell? ⟨g, o + j, none⟩ = some u
  | _, [], _ => ⟨[], ⟨rfl, fun i h => absurd h (Nat.not_lt_zero _)⟩, fun j u h => by simp at h⟩
  | o, v :: r, h => by
    rw [IsAllB] at h
    obtain ⟨⟨y, ha, hy⟩, hr⟩ := h
    obtain ⟨ys, h1, h2⟩ := xs_of (o + 6) r hr
    refine ⟨y :: ys, ⟨by rw [List.length_cons, List.length_cons, h1.1], fun i hi => ?_⟩, fun j u hu => ?_⟩
    · cases i with
      | zero => exact ⟨y, rfl, hy⟩
      | succ i => exact h1.2 i (by simpa using hi)
    · have e : flatX (y :: ys) = y.cells.toList ++ flatX ys := rfl
      have hl : y.cells.toList.length = 6 := rfl
      rw [e] at hu
      by_cases hj : j < 6
      · rw [List.getElem?_append_left (by omega)] at hu
        obtain ⟨a0, a1, a2, a3, a4, a5⟩ := ha
        match j, hj, hu with
        | 0, _, hu => rw [← hu]; exact a0
        | 1, _, hu => rw [← hu]; exact a1
        | 2, _, hu => rw [← hu]; exact a2
        | 3, _, hu => rw [← hu]; exact a3
        | 4, _, hu => rw [← hu]; exact a4
        | 5, _, hu => rw [← hu]; exact a5
      · rw [List.getElem?_append_right (by omega), hl] at hu
        have := h2 _ _ hu
        rw [show o + 6 + (j - 6) = o + j by omega] at this
        exact this
/-- a row of nodes that the call owns -/
def OwnN (w : World) (b n0 : Nat) (v : Value) (l : List V) : Prop := ∃ xs, XsIs w n0 xs l ∧ w.ownsRow b 25 6 v l.length (flatX xs)
theorem ownN_nil (w : World) (b n0 : Nat) : OwnN w b n0 (.slice none 0 0) [] := ⟨[], ⟨rfl, fun _ h => absurd h (Nat.not_lt_zero _)⟩, rfl, .inl ⟨rfl, rfl⟩⟩
theorem OwnN.push {w w' : World} {b n0 : Nat} {v : Value} {l : List V} (h : OwnN w b n0 v l) (hb : Below n0 w w') (hk : ∀ k, v.ownBlock = some k → w'.heap[k]? = w.heap[k]?) : OwnN w' b n0 v l := by
  obtain ⟨xs, h1, h2⟩ := h
  exact ⟨xs, h1.low hb, own_push h2 hk⟩
theorem OwnN.lt {w : World} {b n0 : Nat} {v : Value} {l : List V} (h : OwnN w b n0 v l) : ∀ k, v.ownBlock = some k → b ≤ k ∧ k < w.heap.size := by
  obtain ⟨xs, _, h2⟩ := h
  exact h2.lt
theorem OwnN.row {w : World} {b n0 : Nat} {v : Value} {l : List V} (h : OwnN w b n0 v l) (hn : n0 ≤ w.heap.size) : ∃ A c, v = .slice A l.length c ∧ l.length ≤ c ∧ Row w A l := by
  obtain ⟨xs, h1, hl, h2⟩ := h
  rcases h2 with ⟨rfl, h0⟩ | ⟨g, cap, cur, rfl, _, hg, hnc, _, _, htk⟩
  · exact ⟨none, 0, by rw [h0], by omega, .inl (List.eq_nil_of_length_eq_zero h0)⟩
  · refine ⟨_, cap, rfl, hnc, .inr ⟨g, 0, rfl, (Array.getElem?_eq_some_iff.1 hg).1, (isAll_iff _ _ _ _ _).2 fun i hi => ?_⟩⟩
    obtain ⟨y, e1, e2⟩ := h1.2 i hi
    have gc : ∀ (r : Nat) (u : Value), y.cells.toList[r]? = some u → w.cell? ⟨g, 0 + i * 6 + r, none⟩ = some u := by
      intro r u hr
      have hj := flatX_get xs i r y u e1 hr
      have hr6 : r < 6 := (List.getElem?_eq_some_iff.1 hr).1
      rw [← htk, List.getElem?_take_of_lt (by omega), Array.getElem?_toList] at hj
      rw [Nat.zero_add]
      simp [World.cell?, hg, hj]
    exact ⟨y, ⟨gc 0 _ rfl, gc 1 _ rfl, gc 2 _ rfl, gc 3 _ rfl, gc 4 _ rfl, gc 5 _ rfl⟩, IsB.to (Below.refl _ _) hn _ _ e2⟩
theorem run_zero_none {P : Program} {w : World} (t ty e : TypeId) (i : TypeInfo) (ht : P.underlying t = some (.slice e)) (hi : P.info? e = some i) (A : Option Addr) (n c c' : Nat) (hc : n ≤ c) :
    (Builtin.append_ #[t, t] ty #[.slice A n c, .slice none 0 c']).run P w = .ok (.slice A n c) w := by
  cases A <;> simp [Builtin.append_, run_underlying ht, sizeOf, typeInfo, hi, Builtin.lenOf, Builtin.firstCells, loadCells, hc, storeCells]
theorem infoNode' : (Tryz.prog.info? 25).map (fun i => (i.zero, i.size, i.bytes)) = some (some (.agg #[.int .i64 0, .string ⟨#[]⟩, .int .i64 0, .string ⟨#[]⟩, .slice none 0 0, .slice none 0 0]), 6, 96) := by kernel_rfl
/-- a row of nodes is appended, as a step of a statement that draws its order -/
theorem step_nodes {ops : Array Oper} {o : Oper} {a : Act} {w : World} {K : Act → World → Prop} {Q : Exit → Act → World → Prop} {E : Prop} (hgd : o.guard = none) (s x : Operand)
    (ho : o.op = .call { callee := .builtin .append, args := #[s, x], argTypes := #[23, 23] })
    (b n0 : Nat) (v : Value) (l m r : List V) (hs : a.eval s = v) (hown : OwnN w b n0 v l) (A : Option Addr) (c : Nat) (hx : a.eval x = .slice A m.length c) (hrow : RowB w n0 A m) (hr : l ++ m = r) (hn : n0 ≤ b) (hb : b ≤ w.heap.size)
    (hl : l.length ≤ 4194304) (hm : m.length ≤ 4194304)
    (h : ∀ A' c' w', OwnN w' b n0 (.slice A' r.length c') r → w.grownBy w' v.ownBlock → ((Value.slice A' r.length c').ownBlock = v.ownBlock ∨ (Value.slice A' r.length c').ownBlock = some w.heap.size) → Below b w w' → K (a.put o.dst (.slice A' r.length c')) w') :
    if Region.wanted o (yielded ops a.tmps) = true then Oper.wp Tryz.prog o a w K Q else E := by
  have hw : Region.wanted o (yielded ops a.tmps) = true := by simp [Region.wanted, hgd]
  rw [if_pos hw]
  obtain ⟨i0, hi0, hz0, hz1, hz2⟩ := info_parts infoNode'
  subst hr
  have hlt := hown.lt
  rcases A with _ | ad
  · obtain rfl : m = [] := by
      rcases hrow with h | ⟨g, o, e, _⟩
      · exact h
      · cases e
    rw [List.append_nil] at h
    obtain ⟨xs, h1, h2⟩ := hown
    have hv : ∃ A' c', v = .slice A' l.length c' ∧ l.length ≤ c' := by
      rcases h2.2 with ⟨rfl, h0⟩ | ⟨g, cap, cur, rfl, _, hg, hnc, _, _, htk⟩
      · exact ⟨none, 0, by rw [h0], by omega⟩
      · exact ⟨_, _, rfl, hnc⟩
    obtain ⟨A', c', rfl, hc⟩ := hv
    have hrun := run_zero_none (P := Tryz.prog) (w := w) 23 o.type 25 i0 (by kernel_rfl) hi0 A' l.length c' c hc
    unfold Oper.wp execOp
    simp only [ho, resolve, invoke, builtin, Sem.run_bind, Sem.run_pure, Result.andThen_ok, List.map_toArray, List.map_cons, List.map_nil, hs, hx, List.length_nil, hrun]
    exact h _ _ w ⟨xs, h1, h2⟩ ⟨rfl, rfl, rfl, Nat.le_refl _, fun _ _ _ => rfl⟩ (.inl rfl) (Below.refl _ _)
  · obtain ⟨xs, h1, h2⟩ := hown
    obtain ⟨ys, k1, k2⟩ : ∃ ys, XsIs w n0 ys m ∧ ∀ j u, (flatX ys)[j]? = some u → w.cell? (ad.add j) = some u := by
      rcases hrow with rfl | ⟨g, o, e, _, h⟩
      · exact ⟨[], ⟨rfl, fun i h => absurd h (Nat.not_lt_zero _)⟩, fun j u h => by simp at h⟩
      · injection e with e
        subst e
        obtain ⟨ys, k1, k2⟩ := xs_of o m h
        exact ⟨ys, k1, fun j u hj => by rw [Addr.add_lit]; exact k2 j u hj⟩
    have hfl : (flatX ys).length = m.length * 6 := by rw [flatX_len, k1.1]
    obtain ⟨v', w', hr, q2, q3, q4, q5⟩ := run_append_own_at (P := Tryz.prog) w b 23 o.type 25 i0 _ 6 96 (by kernel_rfl) hi0 hz0 hz1 hz2 rfl (by decide) v l.length (flatX xs) h2 ad m.length c (flatX ys) hfl k2 (flatX_one ys) (by unfold maxLen; omega) (by omega) hb
    have hbel : Below b w w' := (Below.refl b w).grown q3 hb (fun k hk => (hlt k hk).1)
    have hown' : OwnN w' b n0 v' (l ++ m) := by
      refine ⟨xs ++ ys, (h1.app k1).low (hbel.mono hn), ?_⟩
      rw [List.length_append, show flatX (xs ++ ys) = flatX xs ++ flatX ys from List.flatMap_append]
      exact q2
    have hv : ∃ A' c', v' = .slice A' (l ++ m).length c' := by
      rw [List.length_append]
      rcases q2.2 with ⟨rfl, h0⟩ | ⟨g, cap, cur, rfl, _⟩
      · exact ⟨none, 0, by rw [h0]⟩
      · exact ⟨_, _, rfl⟩
    obtain ⟨A', c', rfl⟩ := hv
    unfold Oper.wp execOp
    simp only [ho, resolve, invoke, builtin, Sem.run_bind, Sem.run_pure, Result.andThen_ok, List.map_toArray, List.map_cons, List.map_nil, hs, hx, hr]
    exact h _ _ w' hown' q3 q5 hbel
abbrev zN : Obj := .cells #[.int .i64 0, .string ⟨#[]⟩, .int .i64 0, .string ⟨#[]⟩, .slice none 0 0, .slice none 0 0] 25
/-- a new node, as a step of a statement that draws its order -/
theorem step_alloc {ops : Array Oper} {o : Oper} {a : Act} {w : World} {K : Act → World → Prop} {Q : Exit → Act → World → Prop} {E : Prop} (hgd : o.guard = none) (ho : o.op = .alloc 25)
    (h : K (a.put o.dst (.pointer (some ⟨w.heap.size, 0, none⟩))) (w.alloc zN)) :
    if Region.wanted o (yielded ops a.tmps) = true then Oper.wp Tryz.prog o a w K Q else E := by
  have hw : Region.wanted o (yielded ops a.tmps) = true := by simp [Region.wanted, hgd]
  rw [if_pos hw]
  obtain ⟨i0, hi0, hz0, hz1, hz2⟩ := info_parts infoNode'
  unfold Oper.wp
  have hq : (Instr.alloc 25 true (.tuple #[])).run Tryz.prog w = .ok (.pointer (some ⟨w.heap.size, 0, none⟩)) (w.alloc zN) := by
    simp [Instr.alloc, zeroValue, typeInfo, hi0, hz0, newVar, Value.cells, newRow]
  unfold execOp
  simp only [ho, Sem.run_bind, hq, Result.andThen_ok, Sem.run_pure]
  exact h
/-- .. is stored -/
theorem step_store {ops : Array Oper} {o : Oper} {a : Act} {w : World} {K : Act → World → Prop} {Q : Exit → Act → World → Prop} {E : Prop} (hgd : o.guard = none) (x y : Operand) (ho : o.op = .store 25 x y) (g : Nat) (cells old : Array Value)
    (hx : a.eval x = .pointer (some ⟨g, 0, none⟩)) (hy : a.eval y = .agg cells) (hg : w.heap[g]? = some (.cells old 25)) (hold : old.size = 6) (hc : cells.size = 6) (h1 : cells.toList.all (·.oneCell') = true)
    (h : K (a.put o.dst undef) (w.setRow g cells)) : if Region.wanted o (yielded ops a.tmps) = true then Oper.wp Tryz.prog o a w K Q else E := by
  have hw : Region.wanted o (yielded ops a.tmps) = true := by simp [Region.wanted, hgd]
  rw [if_pos hw]
  obtain ⟨i0, hi0, hz0, hz1, hz2⟩ := info_parts infoNode'
  exact wp_store_row 25 x y ho g cells hx hy 25 old hg (by rw [hi0, hc]; exact congrArg some hz1) (by rw [hold, hc]) (by rw [← Array.all_toList]; exact h1) h
/-- the node behind the store -/
theorem join_end {w : World} {b n0 bn : Nat} {A : Option Addr} {c : Nat} {l : List V} {old : Array Value} (h : OwnN w b n0 (.slice A l.length c) l) (hz : w.heap[bn]? = some (.cells old 25)) (hne : ∀ k, (Value.slice A l.length c).ownBlock = some k → k ≠ bn) (hb : b ≤ bn) (hn : n0 ≤ b) :
    Is (w.setRow bn #[.int .i64 41, .string ⟨#[]⟩, .int .i64 0, .string ⟨#[]⟩, .slice none 0 0, .slice A l.length c]) (prgV l) ⟨41, ⟨#[]⟩, 0, ⟨#[]⟩, none, 0, 0, A, l.length, c⟩ ∧
    At (w.setRow bn #[.int .i64 41, .string ⟨#[]⟩, .int .i64 0, .string ⟨#[]⟩, .slice none 0 0, .slice A l.length c]) bn 0 ⟨41, ⟨#[]⟩, 0, ⟨#[]⟩, none, 0, 0, A, l.length, c⟩ ∧
    Below b w (w.setRow bn #[.int .i64 41, .string ⟨#[]⟩, .int .i64 0, .string ⟨#[]⟩, .slice none 0 0, .slice A l.length c]) ∧
    bn < (w.setRow bn #[.int .i64 41, .string ⟨#[]⟩, .int .i64 0, .string ⟨#[]⟩, .slice none 0 0, .slice A l.length c]).heap.size := by
  have hlt : bn < w.heap.size := (Array.getElem?_eq_some_iff.1 hz).1
  generalize hcs : (#[.int .i64 41, .string ⟨#[]⟩, .int .i64 0, .string ⟨#[]⟩, .slice none 0 0, .slice A l.length c] : Array Value) = cs
  have hrow := setRow_heap w bn old cs 25 _ hz
  have hoth : ∀ k, k ≠ bn → (w.setRow bn cs).heap[k]? = w.heap[k]? := fun k hk => setRow_other w bn k cs hk
  have hbel : Below b w (w.setRow bn cs) := ⟨rfl, rfl, rfl, by simp, fun k hk => hoth k (by omega)⟩
  have hsz : bn < (w.setRow bn cs).heap.size := by simpa using hlt
  subst hcs
  refine ⟨?_, at_row hrow rfl rfl rfl rfl rfl rfl, hbel, hsz⟩
  obtain ⟨A', c', e, hc, hr⟩ := (h.push (hbel.mono hn) fun k hk => hoth k (hne k hk)).row (by omega)
  injection e with e1 e2 e3
  subst e1 e3
  exact (isB_iff _ _ _ _).2 ⟨⟨rfl, rfl, rfl, rfl⟩, ⟨rfl, Nat.le_refl _, .inl rfl⟩, rfl, hc, hr⟩
end Go.Proofs.YtllpgoaanbiodaaGreatDoor.R
