/-

-/
import Derived.Test.YtllpgoaanbiodaaGreatDoorMP
import Derived.Test.YtllpgoaanbiodaaGreatDoorMTB
namespace Go.Proofs.YtllpgoaanbiodaaGreatDoor.R
open Go.RowKit Go.Proofs.YtllpgoaanbiodaaGreatDoor Go.Proofs.YtllpgoaanbiodaaGreatDoor.T
abbrev bl (s : ByteArray) : Bs := s.data.toList
def isNm (s : ByteArray) : Bool := isI (bl s) && !isW (bl s)
def opl (s : Bs) : Nat :=
 if s = [124, 124] then 3 else if s = [38, 38] then 4
 else if s = [61, 61] ∨ s = [33, 61] ∨ s = [61, 61, 61] ∨ s = [33, 61, 61] then 5
 else if s = [60] ∨ s = [62] ∨ s = [60, 61] ∨ s = [62, 61] ∨ s = [105, 110] ∨ s = [105, 110, 115, 116, 97, 110, 99, 101, 111, 102] then 6
 else if s = [43] ∨ s = [45] then 7
 else if s = [42] ∨ s = [47] ∨ s = [37] then 8 else 0
def unOps : List Bs := [[45], [43], [33], [116, 121, 112, 101, 111, 102], [100, 101, 108, 101, 116, 101], [118, 111, 105, 100]]
def upOps : List Bs := [[43, 43], [45, 45]]
def biOps : List Bs := [[43], [45], [42], [47], [37], [60], [62], [60, 61], [62, 61], [61, 61], [33, 61], [61, 61, 61], [33, 61, 61], [105, 110], [105, 110, 115, 116, 97, 110, 99, 101, 111, 102]]
def loOps : List Bs := [[38, 38], [124, 124]]
def asOps : List Bs := [[61], [43, 61], [45, 61], [42, 61], [47, 61], [37, 61]]
def ops (k : Int) : List Bs := if k = 15 then unOps else if k = 16 then upOps else if k = 17 then biOps else if k = 18 then loOps else if k = 20 then asOps else []
def opOk (k : Int) (s : Bs) : Bool := (ops k).contains s
def isE (v : V) : Bool := decide (1 ≤ v.k ∧ v.k ≤ 21 ∧ ¬ v.k = 9)
def isSt (v : V) : Bool := decide (22 ≤ v.k ∧ v.k ≤ 40 ∧ ¬ v.k = 23 ∧ ¬ v.k = 37)
def isIn (v : V) : Bool := isSt v && decide (¬ v.k = 39)
def isTg (v : V) : Bool := decide (v.k = 3 ∨ v.k = 11 ∨ v.k = 12)
def isK (m : Int) (v : V) : Bool := decide (v.k = m)
def isEO (v : V) : Bool := isE v || isK 42 v
def isBO (v : V) : Bool := isK 25 v || isK 42 v
def isBg (v : V) : Bool := isK 22 v || isEO v
def isTk (v : V) : Bool := isTg v || (isK 22 v && match v.l with | [d] => d.l.isEmpty | _ => false)
def isDf (v : V) : Bool := match v.l with | c :: _ => isK 42 c | [] => false
def are : List (V → Bool) → List V → Bool
 | [], [] => true
 | p :: ps, v :: l => p v && are ps l
 | _, _ => false
theorem are1 {p : V → Bool} {l : List V} : are [p] l = true ↔ ∃ a, l = [a] ∧ p a = true := by
 rcases l with _ | ⟨a, _ | ⟨b, r⟩⟩ <;> simp [are]
theorem are2 {p q : V → Bool} {l : List V} : are [p, q] l = true ↔ ∃ a b, l = [a, b] ∧ p a = true ∧ q b = true := by
 rcases l with _ | ⟨a, _ | ⟨b, _ | ⟨c, r⟩⟩⟩ <;> simp [are]
 exact ⟨fun h => ⟨_, _, ⟨rfl, rfl⟩, h⟩, fun ⟨_, _, ⟨h1, h2⟩, h⟩ => by subst h1 h2; exact h⟩
theorem are3 {p q s : V → Bool} {l : List V} : are [p, q, s] l = true ↔ ∃ a b c, l = [a, b, c] ∧ p a = true ∧ q b = true ∧ s c = true := by
 rcases l with _ | ⟨a, _ | ⟨b, _ | ⟨c, _ | ⟨d, r⟩⟩⟩⟩ <;> simp [are]
 exact ⟨fun h => ⟨_, _, _, ⟨rfl, rfl, rfl⟩, h⟩, fun ⟨_, _, _, ⟨h1, h2, h3⟩, h⟩ => by subst h1 h2 h3; exact h⟩
theorem are4 {p q s t : V → Bool} {l : List V} : are [p, q, s, t] l = true ↔ ∃ a b c d, l = [a, b, c, d] ∧ p a = true ∧ q b = true ∧ s c = true ∧ t d = true := by
 rcases l with _ | ⟨a, _ | ⟨b, _ | ⟨c, _ | ⟨d, _ | ⟨e, r⟩⟩⟩⟩⟩ <;> simp [are]
 exact ⟨fun h => ⟨_, _, _, _, ⟨rfl, rfl, rfl, rfl⟩, h⟩, fun ⟨_, _, _, _, ⟨h1, h2, h3, h4⟩, h⟩ => by subst h1 h2 h3 h4; exact h⟩
def ctch (v : V) : Bool := match v.l with | _ :: b :: _ => isK 25 b | _ => false
def ctch3 (v : V) : Bool := decide (v.l.length = 3) && ctch v
def nmOk (c : Bool) (v : V) : Bool :=
 if v.k = 3 ∨ v.k = 23 ∨ v.k = 38 ∨ v.k = 39 then isNm v.nm
 else if v.k = 10 ∨ v.k = 31 ∨ v.k = 32 then decide (v.nm.size = 0) || isNm v.nm
 else if v.k = 11 then isI (bl v.nm)
 else if v.k = 35 then (if c then isNm v.nm else decide (v.nm.size = 0))
 else if v.k = 15 ∨ v.k = 16 ∨ v.k = 17 ∨ v.k = 18 ∨ v.k = 20 then opOk v.k (bl v.nm)
 else decide (v.nm.size = 0)
def numOk (v : V) : Bool :=
 if v.k = 1 then decide (0 ≤ v.n ∧ v.n ≤ 9007199254740991) else if v.k = 6 ∨ v.k = 16 then decide (v.n = 0 ∨ v.n = 1) else decide (v.n = 0)
def txOk (v : V) : Bool := if v.k = 2 ∨ v.k = 9 then decide (v.s.size % 2 = 0) else decide (v.s.size = 0)
def nsOk (v : V) : Bool := if v.k = 10 ∨ v.k = 39 then v.ks.all isNm else v.ks.isEmpty
def fields (c : Bool) (v : V) : Bool := nmOk c v && (numOk v && (txOk v && nsOk v))
def kids (v : V) : Bool :=
 if v.k = 41 ∨ v.k = 10 ∨ v.k = 39 then v.l.all isSt
 else if v.k = 7 then v.l.all isE
 else if v.k = 8 then v.l.all (isK 9)
 else if v.k = 13 ∨ v.k = 14 then !v.l.isEmpty && v.l.all isE
 else if v.k = 9 ∨ v.k = 11 ∨ v.k = 15 ∨ v.k = 24 ∨ v.k = 34 then are [isE] v.l
 else if v.k = 12 ∨ v.k = 17 ∨ v.k = 18 ∨ v.k = 21 then are [isE, isE] v.l
 else if v.k = 19 then are [isE, isE, isE] v.l
 else if v.k = 16 then are [isTg] v.l
 else if v.k = 20 then are [isTg, isE] v.l
 else if v.k = 22 then !v.l.isEmpty && v.l.all (isK 23)
 else if v.k = 23 ∨ v.k = 33 then v.l.isEmpty || are [isE] v.l
 else if v.k = 25 then v.l.all isIn
 else if v.k = 26 then are [isE, isK 25] v.l || are [isE, isK 25, isK 25] v.l
 else if v.k = 27 then are [isE, isK 25] v.l
 else if v.k = 28 then are [isK 25, isE] v.l
 else if v.k = 29 then are [isBg, isEO, isEO, isK 25] v.l
 else if v.k = 30 then are [isTk, isE, isK 25] v.l
 else if v.k = 35 then are [isK 25, isBO, isBO] v.l && (match v.l with | [_, b, c] => isK 25 b || isK 25 c | _ => false)
 else if v.k = 36 then (match v.l with | x :: r => isE x && (r.all (isK 37) && decide (r.countP isDf ≤ 1)) | [] => false)
 else if v.k = 37 then (match v.l with | x :: r => isEO x && r.all isIn | [] => false)
 else if v.k = 38 then are [isIn] v.l
 else v.l.isEmpty
def right (v : V) : Bool := fields (ctch v) v && kids v
mutual
def V.ok : V → Bool
 | .mk k nm n s ks l => right (.mk k nm n s ks l) && V.oks l
def V.oks : List V → Bool
 | [] => true
 | v :: r => v.ok && V.oks r
end
theorem ok_eq (v : V) : v.ok = (right v && V.oks v.l) := by cases v; rfl
theorem oks_all (l : List V) : V.oks l = l.all V.ok := by
 induction l with
 | nil => rfl
 | cons x r ih => simp only [V.oks, ih, List.all_cons]
def V.chk (v : V) : Int := if v.k = 41 ∧ v.ok = true then (if 64 < v.deep then 31 else 0) else 70
end Go.Proofs.YtllpgoaanbiodaaGreatDoor.R
