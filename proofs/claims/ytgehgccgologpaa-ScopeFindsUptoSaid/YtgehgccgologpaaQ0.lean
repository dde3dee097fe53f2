/-
  Laid by wip/scope/lay.py out of wip/tree: F A B C Q0.
  FRAMES: the blocks F are as they were. THE WRITER: what it is in memory; add, by contract.
  add, by contract.
  enclose, commas, by contract.
  operatorLevel, level, by contract.
  A row of at least one node.
-/
import Derived.Test.YtgehgccgologpaaWn
import Derived.Test.YtgehgccgologpaaS
import Derived.Deep.AppendLies
import Derived.Lib.Join
import Derived.Lib.ItoaNum
import Derived.Deep.RegionLaw
import Derived.Deep.RegionHeld3
import Derived.Laws.ResultCell
namespace Go.Proofs.Ytgehgccgologpaa.R
open Go.RowKit Go.Proofs.Ytgehgccgologpaa Go.Proofs.Ytgehgccgologpaa.T
/-- the blocks F are as they were; the streams are as they were -/
structure Fr (F : Nat → Prop) (w w' : World) : Prop where
  os : w'.os = w.os
  tape : w'.tape = w.tape
  output : w'.output = w.output
  size : w.heap.size ≤ w'.heap.size
  block : ∀ k, F k → w'.heap[k]? = w.heap[k]?
theorem Fr.refl (F : Nat → Prop) (w : World) : Fr F w w := ⟨rfl, rfl, rfl, Nat.le_refl _, fun _ _ => rfl⟩
theorem Fr.trans {F : Nat → Prop} {a b c : World} (h : Fr F a b) (k : Fr F b c) : Fr F a c :=
  ⟨k.os.trans h.os, k.tape.trans h.tape, k.output.trans h.output, Nat.le_trans h.size k.size, fun i hi => (k.block i hi).trans (h.block i hi)⟩
theorem Fr.mono {F F' : Nat → Prop} {a b : World} (h : Fr F a b) (hF : ∀ k, F' k → F k) : Fr F' a b := ⟨h.os, h.tape, h.output, h.size, fun k hk => h.block k (hF k hk)⟩
theorem Fr.below {B : Nat} {w w' : World} (h : Fr (· < B) w w') : Below B w w' := ⟨h.os, h.tape, h.output, h.size, h.block⟩
theorem Fr.alloc {F : Nat → Prop} {a w : World} (h : Fr F a w) (hF : ∀ k, F k → k < a.heap.size) (o : Obj) : Fr F a (w.alloc o) :=
  h.trans ⟨rfl, rfl, rfl, by simp, fun k hk => Below.heap_alloc _ _ _ (Nat.lt_of_lt_of_le (hF k hk) h.size)⟩
theorem Fr.setCell {F : Nat → Prop} {a w : World} (h : Fr F a w) {p : Addr} (hp : ¬ F p.block) (u : Value) : Fr F a (w.setCell p u) :=
  h.trans ⟨rfl, rfl, rfl, by simp [World.setCell], fun k hk => Below.heap_setCell _ _ _ _ (by rintro rfl; exact hp hk)⟩
theorem Fr.drew {F : Nat → Prop} {a w : World} (h : Fr F a w) : Fr F a w.drew := ⟨h.os, h.tape, h.output, h.size, h.block⟩
theorem Fr.drewN {F : Nat → Prop} {a w : World} (h : Fr F a w) (n : Nat) : Fr F a (w.drewN n) := h.trans ⟨rfl, rfl, rfl, Nat.le_refl _, fun _ _ => rfl⟩
theorem Fr.grown {F : Nat → Prop} {a w w' : World} {row : Option Nat} (h : Fr F a w) (hF : ∀ k, F k → k < a.heap.size) (hg : w.grownBy w' row) (hr : ∀ k, row = some k → ¬ F k) : Fr F a w' :=
  h.trans ⟨hg.os, hg.tape, hg.output, hg.size, fun k hk => hg.block k (Nat.lt_of_lt_of_le (hF k hk) h.size) (fun e => hr k e.symm hk)⟩
theorem Fr.cell {F : Nat → Prop} {w w' : World} (h : Fr F w w') {p : Addr} (hp : F p.block) : w'.cell? p = w.cell? p := World.cell?_of_block (w := w) (h.block p.block hp)
theorem add_lit (g o j : Nat) : (⟨g, o, none⟩ : Addr).add j = ⟨g, o + j, none⟩ := by unfold Addr.add; split <;> simp_all
end Go.Proofs.Ytgehgccgologpaa.R
namespace Go.Proofs.Ytgehgccgologpaa.R
open Go.RowKit Go.Proofs.Ytgehgccgologpaa Go.Proofs.Ytgehgccgologpaa.T
theorem toList_nil (s : ByteArray) : s.toList = [] ↔ s.size = 0 := by
  rw [ByteArray.toList_eq]
  constructor
  · intro h
    rw [← size_list, h]; rfl
  · intro h
    apply List.eq_nil_of_length_eq_zero
    rw [size_list, h]
theorem str_some {s : ByteArray} (h : ¬ s.size = 0) : s.toList.isEmpty = false ∧ ¬ s.toList = [] := by
  have h2 : ¬ s.toList = [] := fun e => h ((toList_nil s).1 e)
  exact ⟨by rw [Bool.eq_false_iff]; intro e; exact h2 (List.isEmpty_iff.1 e), h2⟩
end Go.Proofs.Ytgehgccgologpaa.R
namespace Go.Proofs.Ytgehgccgologpaa.R
open Go.RowKit Go.Proofs.Ytgehgccgologpaa Go.Proofs.Ytgehgccgologpaa.T
/-- what is called with a function value -/
abbrev Ent (f : Nat) : Prop := ∀ (args : Array Value) (w : World), (callFunc f args).run Try.prog w = .ok (.enter f args) w
end Go.Proofs.Ytgehgccgologpaa.R
namespace Go.Proofs.Ytgehgccgologpaa.R
open Go.RowKit Go.Proofs.Ytgehgccgologpaa Go.Proofs.Ytgehgccgologpaa.T
theorem noBoth {b : Bool} {p : Prop} (h1 : b = true) (h2 : b = false) : p := by rw [h1] at h2; cases h2
theorem hitO {s : ByteArray} {l : Bs} {n : Nat} (h : (s.toList == l) = true) (hl : opl l = n) : (opl (bl s) : Int) = n := by
  rw [show bl s = s.toList from (Lib.toList_data s).symm, eq_of_beq h, hl]
theorem neO {s : ByteArray} {l : Bs} (h : (s.toList == l) = false) : ¬ bl s = l := fun e => by
  rw [show s.toList = bl s from Lib.toList_data s, e] at h
  simp at h
set_option maxRecDepth 8000 in
set_option maxHeartbeats 2000000 in
theorem opLevel_any (s : ByteArray) (w : World) :
    Calls Try.prog 116 #[.string s] w fun e w' => e = .returned (.int .i64 (opl (bl s) : Nat)) ∧ w = w' := by
  go_enter Try.func116, Try.ntmps116
  go_wp2
  all_goals first
    | (exfalso; exact noBoth (by assumption) (by assumption))
    | (go_ret; exact ⟨ret_int (hitO (by assumption) (by decide +kernel)).symm, rfl⟩)
    | (go_ret; exact ⟨ret_int (by unfold opl; rw [if_neg (neO (by assumption)), if_neg (neO (by assumption)), if_neg, if_neg, if_neg, if_neg]; rfl; all_goals (rintro h; (repeat (rcases h with h | h; exact neO (by assumption) h)); exact neO (by assumption) h)), rfl⟩)
/-- what may stand in a tree, and how much of it there is -/
def Fine (v : V) : Prop := v.ok = true ∧ v.bulk ≤ 4194304
theorem Fine.right {v : V} (h : Fine v) : right v = true := by
  have h1 := h.1
  rw [ok_eq, Bool.and_eq_true] at h1
  exact h1.1
theorem Fine.fields {v : V} (h : Fine v) : fields (ctch v) v = true := by
  have := h.right
  unfold R.right at this
  rw [Bool.and_eq_true] at this
  exact this.1
theorem Fine.nm {v : V} (h : Fine v) : nmOk (ctch v) v = true := by
  have := h.fields; unfold R.fields at this; rw [Bool.and_eq_true] at this; exact this.1
theorem Fine.len {v : V} (h : Fine v) : v.l.length ≤ 4194304 ∧ v.ks.length ≤ 4194304 ∧ v.s.size ≤ 4194304 ∧ v.nm.size ≤ 4194304 := by
  have h2 := h.2
  have h3 := length_le_bulks v.l
  have h4 := length_le_keysBulk v.ks
  refine ⟨?_, ?_, ?_, ?_⟩
  all_goals (cases v; simp only [V.bulk, V.l, V.ks, V.s, V.nm] at *; omega)
theorem opl_le (s : Bs) : opl s ≤ 8 := by
  unfold opl
  repeat' split
  all_goals omega
end Go.Proofs.Ytgehgccgologpaa.R
namespace Go.Proofs.Ytgehgccgologpaa.R
open Go.RowKit Go.Proofs.Ytgehgccgologpaa Go.Proofs.Ytgehgccgologpaa.T
theorem RowB.cons {w : World} {n0 : Nat} {A : Option Addr} {a : V} {r : List V} (h : RowB w n0 A (a :: r)) : ∃ g o y, A = some ⟨g, o, none⟩ ∧ g < n0 ∧ At w g o y ∧ IsB w n0 a y ∧ RowB w n0 (some ⟨g, o + 6, none⟩) r := by
  rcases h with h | ⟨g, o, rfl, h1, h2⟩
  · cases h
  · simp only [IsAllB] at h2
    obtain ⟨⟨y, hy, hya⟩, h3⟩ := h2
    exact ⟨g, o, y, rfl, h1, hy, hya, .inr ⟨g, o + 6, rfl, h1, h3⟩⟩
end Go.Proofs.Ytgehgccgologpaa.R
