/-
  append to a list of nothing: what is new.
-/
import Derived.Test.YtnjcofjphneccaaDoorEnt
import Derived.Maps.AppendAt
import Derived.Laws.OwnMore
namespace Go.Proofs.YtnjcofjphneccaaDoor
open Go.RowKit

/-- the slice is new: its cells are news -/
def Fresh (w w' : World) (e : TypeId) (A : Option Addr) (m c : Nat) (news : List Value) : Prop :=
  (m = 0 ∧ A = none ∧ c = 0) ∨ (0 < m ∧ ∃ n cur, A = some ⟨n, 0, none⟩ ∧ w.heap.size ≤ n ∧ n < w'.heap.size ∧ m ≤ c ∧ w'.heap[n]? = some (.cells cur e (0, 0)) ∧ ∀ j u, news[j]? = some u → w'.cell? ⟨n, j, none⟩ = some u)
theorem Fresh.lt {w w' : World} {e : TypeId} {A : Option Addr} {m c : Nat} {news : List Value} (h : Fresh w w' e A m c news) : m ≤ c := by
  rcases h with ⟨h1, _, h2⟩ | ⟨_, _, _, _, _, _, h, _⟩ <;> omega
theorem run_nil_zero {P : Program} {w : World} (t ty e : TypeId) (i : TypeInfo) (ht : P.underlying t = some (.slice e)) (hi : P.info? e = some i) (A : Option Addr) (c : Nat) :
    (Builtin.append_ #[t, t] ty #[.slice none 0 0, .slice A 0 c]).run P w = .ok (.slice none 0 0) w := by
  cases A <;> simp [Builtin.append_, run_underlying ht, sizeOf, typeInfo, hi, Builtin.lenOf, Builtin.firstCells, loadCells, loadCellsFrom]
theorem wpList_fresh {P : Program} {w : World} {ops : Array Oper} {rest : List Oper} {o : Oper} {a : Act} {Q : Exit → Act → World → Prop} (hgd : o.guard = none) (s x : Operand) (t : TypeId)
    (ho : o.op = .call { callee := .builtin .append, args := #[s, x], argTypes := #[t, t] })
    (e : TypeId) (i : TypeInfo) (z : Value) (size bytes : Nat) (ht : P.underlying t = some (.slice e)) (hi : P.info? e = some i) (hz : i.zero = some z)
    (hsize : i.size = size) (hby : i.bytes = bytes) (hzs : z.cells.size = size) (hsz : 0 < size) (hs : a.eval s = .slice none 0 0)
    (A : Option Addr) (m c : Nat) (hx : a.eval x = .slice A m c) (news : List Value) (hl : news.length = m * size) (hnews : m = 0 ∨ ∃ ad, A = some ad ∧ ∀ j u, news[j]? = some u → w.cell? (ad.add j) = some u) (h1 : ∀ u ∈ news, u.oneCell' = true)
    (hm : m ≤ 4194304) (hb : bytes ≤ 1048576)
    (h : ∀ A' c' w', Below w.heap.size w w' → Hid (Fresh w w' e A' m c' news) → wpList P ops Q rest (a.put o.dst (.slice A' m c')) w') : wpList P ops Q (o :: rest) a w := by
  rcases Nat.eq_zero_or_pos m with rfl | hm0
  · refine wpList_plain hgd fun K hK => ?_
    have hrun := run_nil_zero (P := P) (w := w) t o.type e i ht hi A c
    unfold Oper.wp
    simp [execOp, ho, resolve, invoke, builtin, hs, hx, hrun, Result.andThen]
    exact hK _ _ (h none 0 w (Below.refl _ _) (.inl ⟨rfl, rfl, rfl⟩))
  · obtain ⟨ad, rfl, hn⟩ : ∃ ad, A = some ad ∧ ∀ j u, news[j]? = some u → w.cell? (ad.add j) = some u := hnews.resolve_left (by omega)
    refine wpList_append_own_at (P := P) w hgd s x t ho 0 e i z size bytes ht hi hz hsize hby hzs hsz (.slice none 0 0) 0 [] hs ⟨by simp, .inl ⟨rfl, rfl⟩⟩ ad m c news hx hl hn h1 (by unfold maxLen; omega) ?_ (Nat.zero_le _) ?_
    · have : (0 + m) * bytes ≤ 4194304 * 1048576 := Nat.mul_le_mul (by omega) hb
      omega
    · intro v' w' hown hg _ hat
      rcases hown.2 with ⟨rfl, h0⟩ | ⟨n, cap, cur, rfl, _, hgs, hnc, _, hcs, htk⟩
      · omega
      · have hn' : n = w.heap.size := by
          rcases hat with h | h
          · simp [Value.ownBlock] at h
          · simpa [Value.ownBlock] using h
        subst hn'
        have hbel : Below w.heap.size w w' := ⟨hg.os, hg.tape, hg.output, hg.size, fun k hk => hg.block k hk (by simp [Value.ownBlock])⟩
        rw [Nat.zero_add] at hnc ⊢
        refine h _ cap w' hbel (.inr ⟨hm0, w.heap.size, cur, rfl, Nat.le_refl _, (Array.getElem?_eq_some_iff.1 hgs).1, hnc, hgs, fun j u hu => ?_⟩)
        rw [cell_of_row w' _ j cur e (0, 0) hgs]
        have hj : j < news.length := (List.getElem?_eq_some_iff.1 hu).1
        rw [List.nil_append, Nat.zero_add] at htk
        rw [← htk, List.getElem?_take, if_pos (by omega)] at hu
        rw [← hu, Array.getElem?_toList]
end Go.Proofs.YtnjcofjphneccaaDoor
