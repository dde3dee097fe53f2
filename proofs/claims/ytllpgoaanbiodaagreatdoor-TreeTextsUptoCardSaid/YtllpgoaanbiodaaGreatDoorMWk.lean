/-

-/
import Derived.Test.YtllpgoaanbiodaaGreatDoorMS
namespace Go.Proofs.YtllpgoaanbiodaaGreatDoor.R
open Go.RowKit Go.Proofs.YtllpgoaanbiodaaGreatDoor Go.Proofs.YtllpgoaanbiodaaGreatDoor.T
abbrev Pl := Nat × List V
def below (d : Nat) : List V → List Pl
 | [] => []
 | v :: r => if v.l.isEmpty then below d r else (d + 1, v.l) :: below d r
inductive Reach (p0 : Pl) : List Pl → List Pl → Prop
 | zero : Reach p0 [] [p0]
 | step {pre st : List Pl} {p : Pl} : Reach p0 pre (st ++ [p]) → Reach p0 (pre ++ [p]) (st ++ below p.1 p.2)
def lenP (l : List Pl) : Nat := (l.map fun p => p.2.length).sum
def sizeP (l : List Pl) : Nat := (l.map fun p => V.sizes p.2).sum
def bulkP (l : List Pl) : Nat := (l.map fun p => V.bulks p.2).sum
def maxP : List Pl → Nat
 | [] => 0
 | p :: r => max p.1 (maxP r)
def deepP : List Pl → Nat
 | [] => 0
 | p :: r => max (p.1 - 1 + V.deeps p.2) (deepP r)
def oksP (l : List Pl) : Bool := l.all fun p => V.oks p.2
def rightP (l : List Pl) : Bool := l.all fun p => p.2.all right
theorem lenP_snoc (l : List Pl) (p : Pl) : lenP (l ++ [p]) = lenP l + p.2.length := by simp [lenP]
theorem sizeP_append (a b : List Pl) : sizeP (a ++ b) = sizeP a + sizeP b := by simp [sizeP]
theorem bulkP_append (a b : List Pl) : bulkP (a ++ b) = bulkP a + bulkP b := by simp [bulkP]
theorem sizeP_one (p : Pl) : sizeP [p] = V.sizes p.2 := by simp [sizeP]
theorem bulkP_one (p : Pl) : bulkP [p] = V.bulks p.2 := by simp [bulkP]
theorem maxP_append (a b : List Pl) : maxP (a ++ b) = max (maxP a) (maxP b) := by
 induction a with
 | nil => simp [maxP]
 | cons x r ih => simp only [List.cons_append, maxP, ih]; omega
theorem deepP_append (a b : List Pl) : deepP (a ++ b) = max (deepP a) (deepP b) := by
 induction a with
 | nil => simp [deepP]
 | cons x r ih => simp only [List.cons_append, deepP, ih]; omega
theorem maxP_snoc (l : List Pl) (p : Pl) : maxP (l ++ [p]) = max (maxP l) p.1 := by
 rw [maxP_append]
 simp [maxP]
theorem oksP_append (a b : List Pl) : oksP (a ++ b) = (oksP a && oksP b) := by simp [oksP]
theorem rightP_snoc (l : List Pl) (p : Pl) : rightP (l ++ [p]) = (rightP l && p.2.all right) := by simp [rightP]
theorem size_eq (v : V) : v.size = 1 + V.sizes v.l := by cases v; rfl
theorem deep_eq (v : V) : v.deep = V.deeps v.l + 1 := by cases v; rfl
theorem bulk_ge (v : V) : 1 + V.bulks v.l ≤ v.bulk := by cases v; simp only [V.bulk, V.l]; omega
theorem size_below (d : Nat) : ∀ l : List V, sizeP (below d l) + l.length = V.sizes l
 | [] => rfl
 | v :: r => by
  have ih := size_below d r
  simp only [below, V.sizes, List.length_cons, size_eq v]
  cases hv : v.l with
  | nil => simp only [List.isEmpty_nil, if_true, V.sizes]; omega
  | cons a b =>
   simp only [List.isEmpty_cons, Bool.false_eq_true, if_false]
   have : sizeP ((d + 1, a :: b) :: below d r) = V.sizes (a :: b) + sizeP (below d r) := by simp [sizeP]
   omega
theorem bulk_below (d : Nat) : ∀ l : List V, bulkP (below d l) + l.length ≤ V.bulks l
 | [] => Nat.le_refl _
 | v :: r => by
  have ih := bulk_below d r
  have hb := bulk_ge v
  simp only [below, V.bulks, List.length_cons]
  cases hv : v.l with
  | nil => simp only [List.isEmpty_nil, if_true]; omega
  | cons a b =>
   rw [hv] at hb
   simp only [List.isEmpty_cons, Bool.false_eq_true, if_false]
   have : bulkP ((d + 1, a :: b) :: below d r) = V.bulks (a :: b) + bulkP (below d r) := by simp [bulkP]
   omega
theorem deep_below (d : Nat) (hd : 1 ≤ d) : ∀ l : List V, max d (deepP (below d l)) = max d (d - 1 + V.deeps l)
 | [] => by simp only [below, deepP, V.deeps]; omega
 | v :: r => by
  have ih := deep_below d hd r
  simp only [below, V.deeps, deep_eq v]
  cases hv : v.l with
  | nil => simp only [List.isEmpty_nil, if_true, V.deeps]; omega
  | cons a b =>
   simp only [List.isEmpty_cons, Bool.false_eq_true, if_false, deepP]
   omega
theorem oks_below (d : Nat) : ∀ l : List V, V.oks l = (l.all right && oksP (below d l))
 | [] => rfl
 | v :: r => by
  have ih := oks_below d r
  simp only [below, V.oks, List.all_cons, ok_eq v, ih]
  cases hv : v.l with
  | nil => simp only [List.isEmpty_nil, if_true, V.oks, Bool.and_true, Bool.and_assoc]
  | cons a b =>
   simp only [List.isEmpty_cons, Bool.false_eq_true, if_false]
   have : oksP ((d + 1, a :: b) :: below d r) = (V.oks (a :: b) && oksP (below d r)) := by simp [oksP]
   rw [this]
   cases right v <;> cases r.all right <;> simp
theorem deeps_pos {l : List V} (h : ¬ l = []) : 1 ≤ V.deeps l := by
 cases l with
 | nil => exact absurd rfl h
 | cons a b => simp only [V.deeps, deep_eq a]; omega
theorem below_ok (d : Nat) : ∀ l : List V, ∀ p ∈ below d l, 1 ≤ p.1 ∧ ¬ p.2 = []
 | [], p, h => by cases h
 | v :: r, p, h => by
  unfold below at h
  split at h
  ·exact below_ok d r p h
  ·rcases List.mem_cons.1 h with rfl | h
   ·rename_i hv
    exact ⟨by simp, by simpa using hv⟩
   ·exact below_ok d r p h
theorem below_append (d : Nat) : ∀ a b : List V, below d (a ++ b) = below d a ++ below d b
 | [], _ => rfl
 | x :: r, b => by
  rw [List.cons_append, below, below, below_append d r b]
  split <;> rfl
theorem below_no (d : Nat) (l : List V) (j : Nat) (h : j < l.length) (he : l[j].l = []) : below d (l.take (j + 1)) = below d (l.take j) := by
 rw [List.take_succ_eq_append_getElem h, below_append]
 simp [below, he]
theorem below_yes (d : Nat) (l : List V) (j : Nat) (h : j < l.length) (he : ¬ l[j].l = []) : below d (l.take (j + 1)) = below d (l.take j) ++ [(d + 1, l[j].l)] := by
 rw [List.take_succ_eq_append_getElem h, below_append]
 simp [below, he]
structure Kept (v : V) (pre st : List Pl) : Prop where
 len : lenP pre + sizeP st = v.size
 deep : max (maxP pre) (deepP st) = v.deep
 oks : (rightP pre && oksP st) = v.ok
 bulk : pre.length + bulkP st ≤ v.bulk
 ok : ∀ p ∈ st, 1 ≤ p.1 ∧ ¬ p.2 = []
theorem Reach.kept {v : V} {pre st : List Pl} (h : Reach (1, [v]) pre st) : Kept v pre st := by
 generalize hp : ((1, [v]) : Pl) = p0 at h
 induction h with
 | zero =>
  subst hp
  refine ⟨?_, ?_, ?_, ?_, ?_⟩
  ·simp [lenP, sizeP, V.sizes]
  ·simp only [maxP, deepP, V.deeps]; omega
  ·simp [rightP, oksP, V.oks]
  ·simp [bulkP, V.bulks]
  ·intro p h
   simp only [List.mem_cons, List.not_mem_nil, or_false] at h
   subst h
   exact ⟨Nat.le_refl _, by simp⟩
 | @step pre st p h ih =>
  obtain ⟨h1, h2, h3, h4, h5⟩ := ih
  obtain ⟨hd, hne⟩ := h5 p (by simp)
  have hlen : 1 ≤ p.2.length := by
   rcases he : p.2 with _ | ⟨a, b⟩
   ·exact absurd he hne
   ·simp
  refine ⟨?_, ?_, ?_, ?_, ?_⟩
  ·have := size_below p.1 p.2
   rw [lenP_snoc, sizeP_append]
   rw [sizeP_append, sizeP_one] at h1
   omega
  ·have := deep_below p.1 hd p.2
   have := deeps_pos hne
   rw [maxP_snoc, deepP_append]
   rw [deepP_append] at h2
   simp only [deepP] at h2
   omega
  ·have := oks_below p.1 p.2
   rw [rightP_snoc, oksP_append]
   rw [oksP_append] at h3
   rw [← h3]
   have e : oksP [p] = V.oks p.2 := by simp [oksP]
   rw [e, this]
   cases rightP pre <;> cases oksP st <;> cases p.2.all right <;> simp
  ·have := bulk_below p.1 p.2
   rw [bulkP_append]
   rw [bulkP_append, bulkP_one] at h4
   simp only [List.length_append, List.length_cons, List.length_nil]
   omega
  ·intro q hq
   rcases List.mem_append.1 hq with hq | hq
   ·exact h5 q (List.mem_append_left _ hq)
   ·exact below_ok p.1 p.2 q hq
end Go.Proofs.YtllpgoaanbiodaaGreatDoor.R
