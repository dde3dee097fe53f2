/-
  Laid by wip/prune.py out of wip/data: UB UF UQ Tx UE UH App At Att Text Inj.
-/
import Derived.Test.YtnkknlhdbhfjlaaA
import Derived.Deep.RegionLaw
import Derived.Maps.AppendAt
import Derived.Lib.ItoaNum
import Derived.Lib.ItoaLen
import Derived.Lib.Small
import Derived.Deep.DeepCutAuto
import Derived.Lib.AppendStr
import Derived.Sort.Grow
import Derived.Deep.RegionHeld3
namespace Go.Proofs.Ytnkknlhdbhfjlaa
open Go.RowKit

theorem info5 : (Try.prog.info? 5).map (fun i => (i.zero, i.size, i.bytes)) = some (some (.int .u8 0), 1, 1) := by kernel_rfl
/-- a byte, a number as values -/
def bv (b : UInt8) : Value := .int .u8 b.toNat
/-- a row of bytes that reads as l, away from the blocks F -/
def Own (w : World) (F : Nat → Prop) (v : Value) (l : Bs) : Prop := w.ownsRow 0 5 1 v l.length (l.map bv) ∧ ∀ k, v.ownBlock = some k → ¬ F k
theorem Own.nil (w : World) (F : Nat → Prop) : Own w F (.slice none 0 0) [] := ⟨World.ownsRow_nil _ _ _ _, fun k hk => by simp [Value.ownBlock] at hk⟩
theorem own_keep {w w' : World} {B size n : Nat} {e : TypeId} {v : Value} {xs : List Value} (h : w.ownsRow B e size v n xs) (hb : ∀ k, v.ownBlock = some k → w'.heap[k]? = w.heap[k]?) : w'.ownsRow B e size v n xs := by
  refine ⟨h.1, ?_⟩
  rcases h.2 with h2 | ⟨g, cap, cur, rfl, hb', hg, r⟩
  · exact .inl h2
  · exact .inr ⟨g, cap, cur, rfl, hb', by rw [hb g rfl]; exact hg, r⟩
theorem Own.below {w w' : World} {F : Nat → Prop} {v : Value} {l : Bs} (h : Own w F v l) (hb : Below w.heap.size w w') : Own w' F v l :=
  ⟨own_keep h.1 fun k hk => hb.block k (h.1.lt k hk).2, h.2⟩
theorem bv_cells (s : ByteArray) : Lib.strCells s = s.data.toList.map bv := rfl
/-- append of a string, and where the new row lies -/
theorem run_app_str (w : World) (ty : TypeId) (F : Nat → Prop) (hF : ∀ k, F k → k < w.heap.size) (v : Value) (l : Bs) (h : Own w F v l) (s : ByteArray) (hlim : l.length + s.size ≤ 140737488355320) :
    ∃ v' w', (Builtin.append_ #[27, 9] ty #[v, .string s]).run Try.prog w = .ok v' w' ∧ Own w' F v' (l ++ s.data.toList) ∧ Fr F w w' := by
  obtain ⟨i0, hi, hz0, hz1, hz2⟩ := info_parts info5
  obtain ⟨hown, hk⟩ := h
  obtain ⟨v', w', hr, h2, h3, h4⟩ := Lib.run_append_own_string (P := Try.prog) w 0 27 9 ty 5 i0 Try.underlying27 Try.underlying9 hi hz0 hz1 hz2 v l.length (l.map bv) hown s (by unfold maxLen; omega) (by omega) (Nat.zero_le _)
  have hat : v'.ownBlock = v.ownBlock ∨ v'.ownBlock = some w.heap.size := by
    rcases hown.2 with ⟨rfl, h0⟩ | ⟨g, cap, cur, rfl, hbg, hg, hnc, hcm, hcs, htake⟩
    · by_cases hm : s.size = 0
      · left
        rw [h4.2 ⟨rfl, hm⟩]
      · have hr2 := run_append_nil_string (P := Try.prog) w 27 9 ty 5 i0 (.int .u8 0) Try.underlying27 Try.underlying9 hi hz0 s (by omega) (by omega) (by rw [hz2]; omega)
        rw [hr] at hr2
        injection hr2 with hr2 _
        right
        rw [hr2]
        rfl
    · by_cases hroom : l.length + s.size ≤ cap
      · have hr2 := Lib.run_append_room_string (P := Try.prog) w 27 9 ty 5 i0 Try.underlying27 Try.underlying9 hi hz1 g l.length cap cur hg s hroom (by omega)
        rw [hr] at hr2
        injection hr2 with hr2 _
        left
        rw [hr2]
        rfl
      · have holds : ∀ j u, (l.map bv)[j]? = some u → w.cell? ((⟨g, 0, none⟩ : Addr).add j) = some u := hown.cells (g := g) rfl
        have hr2 := Lib.run_append_grow_string (P := Try.prog) w 27 9 ty 5 i0 (.int .u8 0) Try.underlying27 Try.underlying9 hi hz0 ⟨g, 0, none⟩ l.length cap (l.map bv) (by rw [hz1]; simp) holds s (by omega) (by omega) (by rw [hz2]; exact growslice_fits (by omega) (by omega))
        rw [hr] at hr2
        injection hr2 with hr2 _
        right
        rw [hr2]
        rfl
  refine ⟨v', w', hr, ⟨?_, fun k hk' hFk => ?_⟩, (Fr.refl F w).grown hF h3 hk⟩
  · rw [List.length_append, List.map_append, size_list, ← bv_cells]
    exact h2
  · rcases hat with hat | hat
    · rw [hat] at hk'
      exact hk k hk' hFk
    · rw [hat] at hk'
      cases hk'
      exact Nat.lt_irrefl _ (hF _ hFk)
theorem app_str_own {w : World} {ops : Array Oper} {rest : List Oper} {o : Oper} {a : Act} {Q : Exit → Act → World → Prop} (hgd : o.guard = none) (sl x : Operand)
    (ho : o.op = .call { callee := .builtin .append, args := #[sl, x], argTypes := #[27, 9] })
    (F : Nat → Prop) (hF : ∀ k, F k → k < w.heap.size) (v : Value) (l : Bs) (hs : a.eval sl = v) (h0 : Own w F v l) (s : ByteArray) (hx : a.eval x = .string s) (hlim : l.length + s.size ≤ 140737488355320)
    (h : ∀ v' w', Own w' F v' (l ++ s.data.toList) → Fr F w w' → wpList Try.prog ops Q rest (a.put o.dst v') w') : wpList Try.prog ops Q (o :: rest) a w := by
  refine wpList_plain hgd fun K hK => ?_
  obtain ⟨v', w', hr, h2, h3⟩ := run_app_str w o.type F hF v l h0 s hlim
  unfold Oper.wp execOp
  simp only [ho, resolve, invoke, builtin, Sem.run_bind, Sem.run_pure, Result.andThen_ok, List.map_toArray, List.map_cons, List.map_nil, hs, hx, hr]
  exact hK _ _ (h v' w' h2 h3)
theorem bytes_nil {s : ByteArray} (h : s.size = 0) : s = ⟨#[]⟩ := by
  refine ByteArray.ext ?_
  exact Array.eq_empty_of_size_eq_zero h
/-- what must be empty in a value that may be -/
theorem own_rest {v : V} (h : v.own = true) : (v.k = 0 ∨ v.k = 1 → v = .mk v.k 0 ⟨#[]⟩ [] []) ∧ (v.k = 2 ∨ v.k = 3 → v = .mk v.k v.n ⟨#[]⟩ [] []) ∧ (v.k = 4 → v = .mk 4 0 v.s [] []) ∧ (v.k = 5 → v = .mk 5 0 ⟨#[]⟩ [] v.l) ∧ (v.k = 6 → v = .mk 6 0 ⟨#[]⟩ v.ks v.l) := by
  have e : v = .mk v.k v.n v.s v.ks v.l := by cases v; rfl
  unfold V.own at h
  refine ⟨fun hk => ?_, fun hk => ?_, fun hk => ?_, fun hk => ?_, fun hk => ?_⟩
  · rw [if_pos hk] at h
    obtain ⟨h1, h2, h3, h4⟩ := of_decide_eq_true h
    exact e.trans (by rw [h1, bytes_nil h2, List.eq_nil_of_length_eq_zero h3, List.eq_nil_of_length_eq_zero h4])
  · rcases hk with hk | hk
    · rw [if_neg (by omega), if_pos hk] at h
      obtain ⟨_, h2, h3, h4⟩ := of_decide_eq_true h
      exact e.trans (by rw [bytes_nil h2, List.eq_nil_of_length_eq_zero h3, List.eq_nil_of_length_eq_zero h4])
    · rw [if_neg (by omega), if_neg (by omega), if_pos hk] at h
      obtain ⟨_, h2, h3, h4⟩ := of_decide_eq_true h
      exact e.trans (by rw [bytes_nil h2, List.eq_nil_of_length_eq_zero h3, List.eq_nil_of_length_eq_zero h4])
  · rw [if_neg (by omega), if_neg (by omega), if_neg (by omega), if_pos hk] at h
    obtain ⟨h1, _, h3, h4⟩ := of_decide_eq_true h
    exact e.trans (by rw [hk, h1, List.eq_nil_of_length_eq_zero h3, List.eq_nil_of_length_eq_zero h4])
  · rw [if_neg (by omega), if_neg (by omega), if_neg (by omega), if_neg (by omega), if_pos hk] at h
    obtain ⟨h1, h2, h3⟩ := of_decide_eq_true h
    exact e.trans (by rw [hk, h1, bytes_nil h2, List.eq_nil_of_length_eq_zero h3])
  · rw [if_neg (by omega), if_neg (by omega), if_neg (by omega), if_neg (by omega), if_neg (by omega), if_pos hk] at h
    obtain ⟨h1, h2, _⟩ := of_decide_eq_true h
    exact e.trans (by rw [hk, h1, bytes_nil h2])
theorem V.ind' {P : V → Prop} (h : ∀ v : V, (∀ u ∈ v.l, P u) → P v) : ∀ v, P v := V.ind fun _ _ _ _ _ ih => h _ ih
end Go.Proofs.Ytnkknlhdbhfjlaa
