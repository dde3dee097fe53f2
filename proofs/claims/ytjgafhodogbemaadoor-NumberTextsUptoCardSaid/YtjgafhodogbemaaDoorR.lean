/-
  Rows of ints that are cut; what is left of them.
-/
import Derived.Test.YtjgafhodogbemaaDoorQ
namespace Go.Proofs.YtjgafhodogbemaaDoor.N
open Go.RowKit Go.Proofs.YtjgafhodogbemaaDoor

/-- a row of numbers, from any place of a block on -/
def Ro (w : World) (A : Option Addr) (xs : List Nat) : Prop :=
  xs = [] ∨ ∃ g o, A = some ⟨g, o, none⟩ ∧ g < w.heap.size ∧ ∀ j (h : j < xs.length), w.cell? ⟨g, o + j, none⟩ = some (.int .i64 ((xs[j] : Nat) : Int))
theorem Ro.below {w w' : World} {A : Option Addr} {xs : List Nat} (h : Ro w A xs) (hb : Below w.heap.size w w') : Ro w' A xs := by
  rcases h with h | ⟨g, o, rfl, h1, h2⟩
  · exact .inl h
  · exact .inr ⟨g, o, rfl, Nat.lt_of_lt_of_le h1 hb.size, fun j hj => (hb.cell (p := ⟨g, o + j, none⟩) h1).trans (h2 j hj)⟩
theorem Ro.of {w : World} {B : Nat} {A : Option Addr} {xs : List Nat} (h : RowN w B A xs) : Ro w A xs := by
  rcases h with h | ⟨g, rfl, _, h1, h2⟩
  · exact .inl h
  · exact .inr ⟨g, 0, rfl, h1, fun j hj => by rw [Nat.zero_add]; exact h2 j hj⟩
/-- where the row lies behind a cut of k at its beginning -/
def cutA (A : Option Addr) (c k : Nat) : Option Addr := if c = k then A else A.map (·.add k)
theorem add_at (g o k : Nat) : (⟨g, o, none⟩ : Addr).add k = ⟨g, o + k, none⟩ := by unfold Addr.add; split <;> simp_all
theorem run_from (A : Option Addr) (n c k : Nat) (K : Int) (hK : K = (k : Int)) (hk : k ≤ n) (w : World) :
    (Instr.slice 44 (.slice A n c) (some (.int .i64 K)) none none).run Tryd.prog w = .ok (.slice (cutA A c k) (n - k) (c - k)) w := by
  subst hK
  obtain ⟨i0, hi0, hz0, hz1, hz2⟩ := info_parts info3
  have hu : Tryd.prog.underlying 44 = some (.slice 3) := by kernel_rfl
  have h1 : (k : Int) ≤ (n : Int) := by omega
  simp [Instr.slice, Instr.sliceBounds, run_underlying hu, run_sliceBound w .i64 k n _ (by omega) h1, sizeOf, typeInfo, hi0, hz1, cutA]
theorem run_upto (g o n c k : Nat) (K : Int) (hK : K = (k : Int)) (hk : k ≤ n) (hc : n ≤ c) (w : World) :
    (Instr.slice 44 (.slice (some ⟨g, o, none⟩) n c) none (some (.int .i64 K)) none).run Tryd.prog w = .ok (.slice (some ⟨g, o, none⟩) k c) w := by
  subst hK
  obtain ⟨i0, hi0, hz0, hz1, hz2⟩ := info_parts info3
  have hu : Tryd.prog.underlying 44 = some (.slice 3) := by kernel_rfl
  have h1 : (k : Int) ≤ (c : Int) := by omega
  simp [Instr.slice, Instr.sliceBounds, run_underlying hu, run_sliceBound w .i64 k c _ (by omega) h1, sizeOf, typeInfo, hi0, add_at]
theorem Ro.cut {w : World} {A : Option Addr} {xs : List Nat} {c : Nat} (h : Ro w A xs) (hc : xs.length ≤ c) (k : Nat) : Ro w (cutA A c k) (xs.drop k) := by
  by_cases hk : k < xs.length
  · rcases h with h | ⟨g, o, rfl, h1, h2⟩
    · rw [h] at hk
      simp at hk
    · refine .inr ⟨g, o + k, ?_, h1, fun j hj => ?_⟩
      · unfold cutA
        rw [if_neg (by omega), Option.map_some, add_at]
      · rw [List.length_drop] at hj
        rw [List.getElem_drop, Nat.add_assoc]
        exact h2 (k + j) (by omega)
  · exact .inl (List.drop_eq_nil_of_le (by omega))
theorem Ro.init {w : World} {A : Option Addr} {xs : List Nat} {z : Nat} (h : Ro w A (xs ++ [z])) : Ro w A xs := by
  rcases h with h | ⟨g, o, rfl, h1, h2⟩
  · simp at h
  · refine .inr ⟨g, o, rfl, h1, fun j hj => ?_⟩
    have := h2 j (by simp; omega)
    rw [List.getElem_append_left hj] at this
    exact this
theorem Ro.at {w : World} {A : Option Addr} {xs : List Nat} (h : Ro w A xs) (h0 : 0 < xs.length) : ∃ g o, A = some ⟨g, o, none⟩ ∧ Hid (∀ j (h : j < xs.length), w.cell? ⟨g, o + j, none⟩ = some (.int .i64 ((xs[j] : Nat) : Int))) := by
  rcases h with h | ⟨g, o, rfl, h1, h2⟩
  · rw [h] at h0
    simp at h0
  · exact ⟨g, o, rfl, Lib.hid h2⟩
def lenOf : Value → Nat
  | .slice _ n _ => n
  | _ => 0
end Go.Proofs.YtjgafhodogbemaaDoor.N
