/-
  Laid by wip/scope/lay.py out of wip/tree: P UA UE TA S.
  PLAIN: trees as the chapter has them, their size, depth, bulk. No dump is imported.
  Laid by wip/prune.py out of wip/units: Plain A B.
  Laid by wip/prune.py out of wip/units: D I J K L M.
  Laid by wip/prune.py out of wip/token: P Q.
  PLAIN: which trees may be, what Check answers.
-/
import Derived.Test.YtgehgccgologpaaProg
import Derived.Test.YtgehgccgologpaaShelf
import Derived.Lib.Hide
import Derived.WalkKit
import Derived.ProofKit
import Derived.Outline
import Derived.IntWalk
import Derived.BigQuiet
import Derived.BigCall
import Derived.BigGuard
import Derived.Deep.QuietTactic
import Derived.Lib.Strings
import Derived.Deep.RegionLaw
import Derived.Maps.AppendAt
import Derived.Laws.AppendOwnNone
import Derived.Lib.ConvBytes
import Derived.Lib.Walk
import Derived.Lib.AtoiAllMem
import Derived.Laws.Strings3
import Derived.Laws.Closers25
import Derived.Laws.Closers25b
import Derived.Deep.DeepCutAuto
import Derived.Lib.IndexMore
import Derived.Lib.IndexLaws
namespace Go.Proofs.Ytgehgccgologpaa.R
open Go.RowKit
/-- a node: kind, name, number, text, names, children -/
inductive V where
  | mk (k : Int) (nm : ByteArray) (n : Int) (s : ByteArray) (ks : List ByteArray) (l : List V)
  deriving Inhabited
def V.k : V → Int | .mk k _ _ _ _ _ => k
def V.nm : V → ByteArray | .mk _ nm _ _ _ _ => nm
def V.n : V → Int | .mk _ _ n _ _ _ => n
def V.s : V → ByteArray | .mk _ _ _ s _ _ => s
def V.ks : V → List ByteArray | .mk _ _ _ _ ks _ => ks
def V.l : V → List V | .mk _ _ _ _ _ l => l
mutual
def V.size : V → Nat
  | .mk _ _ _ _ _ l => 1 + V.sizes l
def V.sizes : List V → Nat
  | [] => 0
  | v :: r => v.size + V.sizes r
end
mutual
def V.deep : V → Nat
  | .mk _ _ _ _ _ l => V.deeps l + 1
def V.deeps : List V → Nat
  | [] => 0
  | v :: r => max v.deep (V.deeps r)
end
def keysBulk : List ByteArray → Nat
  | [] => 0
  | k :: r => k.size + 1 + keysBulk r
mutual
def V.bulk : V → Nat
  | .mk _ nm _ s ks l => 1 + nm.size + s.size + keysBulk ks + V.bulks l
def V.bulks : List V → Nat
  | [] => 0
  | v :: r => v.bulk + V.bulks r
end
theorem V.ind {P : V → Prop} (h : ∀ k nm n s ks l, (∀ v ∈ l, P v) → P (.mk k nm n s ks l)) : ∀ v, P v
  | .mk k nm n s ks l => h k nm n s ks l (V.inds l)
  where
  V.inds : ∀ l : List V, ∀ v ∈ l, P v
    | [], _, hv => by cases hv
    | x :: r, v, hv => by
      cases hv with
      | head => exact V.ind h x
      | tail _ hv => exact V.inds r v hv
theorem bulks_append (a b : List V) : V.bulks (a ++ b) = V.bulks a + V.bulks b := by
  induction a with
  | nil => simp [V.bulks]
  | cons x r ih => simp only [List.cons_append, V.bulks, ih]; omega
theorem deeps_append (a b : List V) : V.deeps (a ++ b) = max (V.deeps a) (V.deeps b) := by
  induction a with
  | nil => simp [V.deeps]
  | cons x r ih => simp only [List.cons_append, V.deeps, ih]; omega
theorem bulk_pos : ∀ v : V, 1 ≤ v.bulk
  | .mk _ _ _ _ _ _ => by simp only [V.bulk]; omega
theorem length_le_bulks (l : List V) : l.length ≤ V.bulks l := by
  induction l with
  | nil => simp
  | cons x r ih => have := bulk_pos x; simp only [List.length_cons, V.bulks]; omega
theorem bulk_le_of_mem {v : V} {l : List V} (h : v ∈ l) : v.bulk ≤ V.bulks l := by
  induction l with
  | nil => cases h
  | cons x r ih =>
    simp only [V.bulks]
    cases h with
    | head => omega
    | tail _ h => have := ih h; omega
theorem length_le_keysBulk (ks : List ByteArray) : ks.length ≤ keysBulk ks := by
  induction ks with
  | nil => simp
  | cons x r ih => simp only [List.length_cons, keysBulk]; omega
theorem key_le_keysBulk {k : ByteArray} {ks : List ByteArray} (h : k ∈ ks) : k.size ≤ keysBulk ks := by
  induction ks with
  | nil => cases h
  | cons x r ih =>
    simp only [keysBulk]
    cases h with
    | head => omega
    | tail _ h => have := ih h; omega
theorem size_le_bulk : ∀ v : V, v.size ≤ v.bulk := by
  refine V.ind fun k nm n s ks l ih => ?_
  have : V.sizes l ≤ V.bulks l := by
    induction l with
    | nil => simp [V.sizes, V.bulks]
    | cons x r ih2 =>
      have h1 := ih x (by simp)
      have h2 := ih2 fun v hv => ih v (by simp [hv])
      simp only [V.sizes, V.bulks]; omega
  simp only [V.size, V.bulk]; omega
theorem size_pos : ∀ v : V, 1 ≤ v.size
  | .mk _ _ _ _ _ _ => by simp only [V.size]; omega
theorem deep_le_size : ∀ v : V, v.deep ≤ v.size := by
  refine V.ind fun k nm n s ks l ih => ?_
  have : V.deeps l ≤ V.sizes l := by
    induction l with
    | nil => simp [V.sizes, V.deeps]
    | cons x r ih2 =>
      have h1 := ih x (by simp)
      have h2 := ih2 fun v hv => ih v (by simp [hv])
      simp only [V.sizes, V.deeps]; omega
  simp only [V.size, V.deep]; omega
theorem snoc_get {α : Type} (l : List α) (k : Nat) (h : k < l.length) : l.take (k + 1) = l.take k ++ [l[k]] := List.take_succ_eq_append_getElem h
theorem bulks_take_le (l : List V) (k : Nat) : V.bulks (l.take k) ≤ V.bulks l := by
  conv => rhs; rw [← List.take_append_drop k l, bulks_append]
  omega
theorem size_mem {u : V} {l : List V} (h : u ∈ l) : u.size ≤ V.sizes l := by
  induction l with
  | nil => cases h
  | cons x r ih =>
    simp only [V.sizes]
    cases h with
    | head => omega
    | tail _ h => have := ih h; omega
theorem size_kid {u v : V} (h : u ∈ v.l) : u.size < v.size := by
  have := size_mem h
  cases v
  simp only [V.size, V.l] at *
  omega
end Go.Proofs.Ytgehgccgologpaa.R
namespace Go.Proofs.Ytgehgccgologpaa
open Go.RowKit
abbrev Bs := List UInt8
/-- the units of a text; the last byte of an odd one is left out -/
def us : Bs → List Nat
  | a :: b :: r => (a.toNat * 256 + b.toNat) :: us r
  | _ => []
/-- the bytes of units -/
def bs : List Nat → Bs
  | [] => []
  | n :: r => UInt8.ofNat (n / 256) :: UInt8.ofNat n :: bs r
theorem ret_int {k : IntKind} {a b : Int} (h : a = b) : Ending.returned (.int k a) = .returned (.int k b) := by rw [h]
theorem ret_bool {a b : Bool} (h : a = b) : Ending.returned (.bool a) = .returned (.bool b) := by rw [h]
theorem below_drewN (B : Nat) (w : World) (n : Nat) : Below B w (w.drewN n) := by
  cases n <;> exact ⟨rfl, rfl, rfl, Nat.le_refl _, fun _ _ => rfl⟩
set_option maxRecDepth 8000 in
theorem check_any (s : ByteArray) (w : World) (hs : s.size ≤ maxLen) :
    Calls Try.prog 86 #[.string s] w fun e w' => e = .returned (.bool (decide (s.size % 2 = 0))) ∧ w = w' := by
  unfold maxLen at hs
  go_enter Try.func86, Try.ntmps86
  go_wp2
  go_ret
  exact ⟨ret_bool (by rw [Bool.eq_iff_iff]; simp; omega), rfl⟩
set_option maxRecDepth 8000 in
theorem refCheck_any (s : ByteArray) (w : World) (hs : s.size ≤ maxLen) :
    Calls Try.prog 60 #[.string s] w fun e w' => e = .returned (.bool (decide (s.size % 2 = 0))) ∧ w = w' := by
  unfold maxLen at hs
  go_enter Try.func60, Try.ntmps60
  go_wp2
  go_ret
  exact ⟨ret_bool (by rw [Bool.eq_iff_iff]; simp; omega), rfl⟩
theorem size_list (s : ByteArray) : s.data.toList.length = s.size := (Lib.size_eq s).symm
end Go.Proofs.Ytgehgccgologpaa
namespace Go.Proofs.Ytgehgccgologpaa
open Go.RowKit
theorem index_run (s : ByteArray) (k : Nat) (x : UInt8) (w : World) (hk : s.data.toList[k]? = some x) : (Instr.index 9 (.string s) (.int .i64 (k : Int))).run Try.prog w = .ok (.int .u8 ((x.toNat : Nat) : Int)) w := by
  have hk2 : k < s.size := by rw [← size_list]; exact (List.getElem?_eq_some_iff.1 hk).1
  rw [run_index_string w 9 s .i64 k Try.underlying9, dif_pos ⟨by omega, by omega⟩]
  congr 2
  rw [List.getElem?_eq_getElem (by rw [size_list]; exact hk2)] at hk
  have hk3 : s.data.toList[k]'(by rw [size_list]; exact hk2) = x := Option.some.inj hk
  rw [← hk3]
  rfl
theorem notEmpty {s : ByteArray} {c : UInt8} {r : Bs} (hl : s.data.toList = c :: r) : s.toList.isEmpty = false := by
  rw [← decide_eq_emptyBytes]
  exact decide_eq_false (fun h => by rw [h] at hl; cases hl)
end Go.Proofs.Ytgehgccgologpaa
namespace Go.Proofs.Ytgehgccgologpaa.T
open Go.RowKit
open Go.Proofs.Ytgehgccgologpaa
def ws (c : UInt8) : Bool := decide (9 ≤ c.toNat ∧ c.toNat ≤ 13 ∨ c.toNat = 32)
def dg (c : UInt8) : Bool := decide (48 ≤ c.toNat ∧ c.toNat ≤ 57)
def hx (c : UInt8) : Bool := decide (48 ≤ c.toNat ∧ c.toNat ≤ 57 ∨ 97 ≤ c.toNat ∧ c.toNat ≤ 102 ∨ 65 ≤ c.toNat ∧ c.toNat ≤ 70)
def lt (c : UInt8) : Bool := decide (97 ≤ c.toNat ∧ c.toNat ≤ 122 ∨ 65 ≤ c.toNat ∧ c.toNat ≤ 90 ∨ c.toNat = 95 ∨ c.toNat = 36)
def ib (c : UInt8) : Bool := lt c || dg c
/-- how many bytes of that sort stand at the head -/
def run (p : UInt8 → Bool) : Bs → Nat
  | [] => 0
  | c :: r => if p c then run p r + 1 else 0
theorem run_cons (p : UInt8 → Bool) (c : UInt8) (r : Bs) : run p (c :: r) = if p c then run p r + 1 else 0 := rfl
theorem run_stop {p : UInt8 → Bool} {c : UInt8} {r : Bs} (h : p c = false) : run p (c :: r) = 0 := by
  rw [run_cons, h]; rfl
theorem run_go {p : UInt8 → Bool} {c : UInt8} {r : Bs} (h : p c = true) : run p (c :: r) = run p r + 1 := by
  rw [run_cons, h]; rfl
theorem run_all {p : UInt8 → Bool} : ∀ l : Bs, ∀ b ∈ l.take (run p l), p b = true
  | [], b, h => by simp at h
  | c :: r, b, h => by
    cases hc : p c with
    | false => rw [run_stop hc] at h; simp at h
    | true =>
      rw [run_go hc, List.take_succ_cons, List.mem_cons] at h
      rcases h with rfl | h
      · exact hc
      · exact run_all r b h
theorem run_ge {p : UInt8 → Bool} : ∀ {l : Bs} {k : Nat}, k ≤ l.length → (∀ b ∈ l.take k, p b = true) → k ≤ run p l ∧ run p (l.drop k) + k = run p l
  | l, 0, _, _ => ⟨Nat.zero_le _, by simp⟩
  | [], k + 1, h, _ => by simp at h
  | c :: r, k + 1, h, hh => by
    have hc : p c = true := hh c (by simp)
    have := run_ge (l := r) (k := k) (by simpa using h) fun b hb => hh b (by simp [hb])
    rw [run_go hc, List.drop_succ_cons]
    exact ⟨by omega, by omega⟩
theorem run_full {p : UInt8 → Bool} {l : Bs} (h : ∀ b ∈ l, p b = true) : run p l = l.length := by
  induction l with
  | nil => rfl
  | cons c r ih => rw [run_go (h c (by simp)), ih fun b hb => h b (by simp [hb])]; rfl
theorem run_eq {p : UInt8 → Bool} {l : Bs} {k : Nat} (hk : k < l.length) (h : ∀ b ∈ l.take k, p b = true) (hn : p l[k] = false) : run p l = k := by
  obtain ⟨_, h2⟩ := run_ge (Nat.le_of_lt hk) h
  have e : l.drop k = l[k] :: l.drop (k + 1) := List.drop_eq_getElem_cons hk
  rw [e, run_stop hn] at h2
  omega
/-- where a comment ends: the place of the star of the first star and slash -/
def fin : Bs → Option Nat
  | [] => none
  | c :: r => if c = 42 ∧ r.head? = some 47 then some 0 else (fin r).map (· + 1)
/-! words and signs -/
def words : List Bs := [[98, 114, 101, 97, 107], [99, 97, 115, 101], [99, 97, 116, 99, 104], [99, 108, 97, 115, 115], [99, 111, 110, 115, 116], [99, 111, 110, 116, 105, 110, 117, 101], [100, 101, 98, 117, 103, 103, 101, 114], [100, 101, 102, 97, 117, 108, 116], [100, 101, 108, 101, 116, 101], [100, 111], [101, 108, 115, 101], [101, 110, 117, 109], [101, 120, 112, 111, 114, 116], [101, 120, 116, 101, 110, 100, 115], [102, 97, 108, 115, 101], [102, 105, 110, 97, 108, 108, 121], [102, 111, 114], [102, 117, 110, 99, 116, 105, 111, 110], [105, 102], [105, 109, 112, 108, 101, 109, 101, 110, 116, 115], [105, 109, 112, 111, 114, 116], [105, 110], [105, 110, 115, 116, 97, 110, 99, 101, 111, 102], [105, 110, 116, 101, 114, 102, 97, 99, 101], [108, 101, 116], [110, 101, 119], [110, 117, 108, 108], [112, 97, 99, 107, 97, 103, 101], [112, 114, 105, 118, 97, 116, 101], [112, 114, 111, 116, 101, 99, 116, 101, 100], [112, 117, 98, 108, 105, 99], [114, 101, 116, 117, 114, 110], [115, 116, 97, 116, 105, 99], [115, 117, 112, 101, 114], [115, 119, 105, 116, 99, 104], [116, 104, 105, 115], [116, 104, 114, 111, 119], [116, 114, 117, 101], [116, 114, 121], [116, 121, 112, 101, 111, 102], [118, 97, 114], [118, 111, 105, 100], [119, 104, 105, 108, 101], [119, 105, 116, 104], [121, 105, 101, 108, 100]]
def isW (l : Bs) : Bool := words.contains l
def isI (l : Bs) : Bool := match l with
  | [] => false
  | c :: _ => decide (l.length ≤ 32) && (!dg c && l.all ib)
/-- a token without its place: kind, text, number -/
structure Tok where
  k : Nat
  t : Bs
  n : Nat
  deriving DecidableEq
/-- a token -/
structure Tk where
  k : Int
  t : Bs
  n : Int
  a : Int
  f : Bool
  deriving DecidableEq
def mk (t : Tok) (a : Nat) (f : Bool) : Tk := ⟨t.k, t.t, t.n, a, f⟩
open Go.Proofs.Ytgehgccgologpaa
end Go.Proofs.Ytgehgccgologpaa.T
namespace Go.Proofs.Ytgehgccgologpaa.R
open Go.RowKit Go.Proofs.Ytgehgccgologpaa Go.Proofs.Ytgehgccgologpaa.T
/-- the bytes of a string -/
abbrev bl (s : ByteArray) : Bs := s.data.toList
/-- a name -/
def isNm (s : ByteArray) : Bool := isI (bl s) && !isW (bl s)
/-- the levels of operators; 0: none -/
def opl (s : Bs) : Nat :=
  if s = [124, 124] then 3 else if s = [38, 38] then 4
  else if s = [61, 61] ∨ s = [33, 61] ∨ s = [61, 61, 61] ∨ s = [33, 61, 61] then 5
  else if s = [60] ∨ s = [62] ∨ s = [60, 61] ∨ s = [62, 61] ∨ s = [105, 110] ∨ s = [105, 110, 115, 116, 97, 110, 99, 101, 111, 102] then 6
  else if s = [43] ∨ s = [45] then 7
  else if s = [42] ∨ s = [47] ∨ s = [37] then 8 else 0
def unOps : List Bs := [[45], [43], [33], [116, 121, 112, 101, 111, 102], [100, 101, 108, 101, 116, 101], [118, 111, 105, 100]]
def upOps : List Bs := [[43, 43], [45, 45]]
def biOps : List Bs := [[43], [45], [42], [47], [37], [60], [62], [60, 61], [62, 61], [61, 61], [33, 61], [61, 61, 61], [33, 61, 61], [105, 110], [105, 110, 115, 116, 97, 110, 99, 101, 111, 102]]
def loOps : List Bs := [[38, 38], [124, 124]]
def asOps : List Bs := [[61], [43, 61], [45, 61], [42, 61], [47, 61], [37, 61]]
/-- the operators of a kind -/
def ops (k : Int) : List Bs := if k = 15 then unOps else if k = 16 then upOps else if k = 17 then biOps else if k = 18 then loOps else if k = 20 then asOps else []
def opOk (k : Int) (s : Bs) : Bool := (ops k).contains s
/-! the sorts of nodes -/
def isE (v : V) : Bool := decide (1 ≤ v.k ∧ v.k ≤ 21 ∧ ¬ v.k = 9)
def isSt (v : V) : Bool := decide (22 ≤ v.k ∧ v.k ≤ 40 ∧ ¬ v.k = 23 ∧ ¬ v.k = 37)
def isIn (v : V) : Bool := isSt v && decide (¬ v.k = 39)
def isTg (v : V) : Bool := decide (v.k = 3 ∨ v.k = 11 ∨ v.k = 12)
def isK (m : Int) (v : V) : Bool := decide (v.k = m)
def isEO (v : V) : Bool := isE v || isK 42 v
def isBO (v : V) : Bool := isK 25 v || isK 42 v
def isBg (v : V) : Bool := isK 22 v || isEO v
def isTk (v : V) : Bool := isTg v || (isK 22 v && match v.l with | [d] => d.l.isEmpty | _ => false)
def isDf (v : V) : Bool := match v.l with | c :: _ => isK 42 c | [] => false
/-- one node for each of the sorts -/
def are : List (V → Bool) → List V → Bool
  | [], [] => true
  | p :: ps, v :: l => p v && are ps l
  | _, _ => false
/-! fields -/
/-- an STry has a block for what is caught -/
def ctch (v : V) : Bool := match v.l with | _ :: b :: _ => isK 25 b | _ => false
/-- the reference asks for three children, too -/
def ctch3 (v : V) : Bool := decide (v.l.length = 3) && ctch v
def nmOk (c : Bool) (v : V) : Bool :=
  if v.k = 3 ∨ v.k = 23 ∨ v.k = 38 ∨ v.k = 39 then isNm v.nm
  else if v.k = 10 ∨ v.k = 31 ∨ v.k = 32 then decide (v.nm.size = 0) || isNm v.nm
  else if v.k = 11 then isI (bl v.nm)
  else if v.k = 35 then (if c then isNm v.nm else decide (v.nm.size = 0))
  else if v.k = 15 ∨ v.k = 16 ∨ v.k = 17 ∨ v.k = 18 ∨ v.k = 20 then opOk v.k (bl v.nm)
  else decide (v.nm.size = 0)
def numOk (v : V) : Bool :=
  if v.k = 1 then decide (0 ≤ v.n ∧ v.n ≤ 9007199254740991) else if v.k = 6 ∨ v.k = 16 then decide (v.n = 0 ∨ v.n = 1) else decide (v.n = 0)
def txOk (v : V) : Bool := if v.k = 2 ∨ v.k = 9 then decide (v.s.size % 2 = 0) else decide (v.s.size = 0)
def nsOk (v : V) : Bool := if v.k = 10 ∨ v.k = 39 then v.ks.all isNm else v.ks.isEmpty
def fields (c : Bool) (v : V) : Bool := nmOk c v && (numOk v && (txOk v && nsOk v))
/-! children -/
def kids (v : V) : Bool :=
  if v.k = 41 ∨ v.k = 10 ∨ v.k = 39 then v.l.all isSt
  else if v.k = 7 then v.l.all isE
  else if v.k = 8 then v.l.all (isK 9)
  else if v.k = 13 ∨ v.k = 14 then !v.l.isEmpty && v.l.all isE
  else if v.k = 9 ∨ v.k = 11 ∨ v.k = 15 ∨ v.k = 24 ∨ v.k = 34 then are [isE] v.l
  else if v.k = 12 ∨ v.k = 17 ∨ v.k = 18 ∨ v.k = 21 then are [isE, isE] v.l
  else if v.k = 19 then are [isE, isE, isE] v.l
  else if v.k = 16 then are [isTg] v.l
  else if v.k = 20 then are [isTg, isE] v.l
  else if v.k = 22 then !v.l.isEmpty && v.l.all (isK 23)
  else if v.k = 23 ∨ v.k = 33 then v.l.isEmpty || are [isE] v.l
  else if v.k = 25 then v.l.all isIn
  else if v.k = 26 then are [isE, isK 25] v.l || are [isE, isK 25, isK 25] v.l
  else if v.k = 27 then are [isE, isK 25] v.l
  else if v.k = 28 then are [isK 25, isE] v.l
  else if v.k = 29 then are [isBg, isEO, isEO, isK 25] v.l
  else if v.k = 30 then are [isTk, isE, isK 25] v.l
  else if v.k = 35 then are [isK 25, isBO, isBO] v.l && (match v.l with | [_, b, c] => isK 25 b || isK 25 c | _ => false)
  else if v.k = 36 then (match v.l with | x :: r => isE x && (r.all (isK 37) && decide (r.countP isDf ≤ 1)) | [] => false)
  else if v.k = 37 then (match v.l with | x :: r => isEO x && r.all isIn | [] => false)
  else if v.k = 38 then are [isIn] v.l
  else v.l.isEmpty
/-- a node may be, whatever its children's children are -/
def right (v : V) : Bool := fields (ctch v) v && kids v
mutual
/-- all that stands in a tree may -/
def V.ok : V → Bool
  | .mk k nm n s ks l => right (.mk k nm n s ks l) && V.oks l
def V.oks : List V → Bool
  | [] => true
  | v :: r => v.ok && V.oks r
end
theorem ok_eq (v : V) : v.ok = (right v && V.oks v.l) := by cases v; rfl
/-- what Check answers -/
def V.chk (v : V) : Int := if v.k = 41 ∧ v.ok = true then (if 64 < v.deep then 31 else 0) else 70
end Go.Proofs.Ytgehgccgologpaa.R
