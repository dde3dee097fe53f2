/-
  PLAIN: a lexer on lists of bytes.
-/
import Derived.Test.YtkaamaopjcaalaaDoorUA
import Derived.Lib.IndexMore
import Derived.Lib.IndexLaws
namespace Go.Proofs.YtkaamaopjcaalaaDoor.T
open Go.Proofs.YtkaamaopjcaalaaDoor

def ws (c : UInt8) : Bool := decide (9 ≤ c.toNat ∧ c.toNat ≤ 13 ∨ c.toNat = 32)
def el (c : UInt8) : Bool := decide (c.toNat = 10 ∨ c.toNat = 13)
def dg (c : UInt8) : Bool := decide (48 ≤ c.toNat ∧ c.toNat ≤ 57)
def hx (c : UInt8) : Bool := decide (48 ≤ c.toNat ∧ c.toNat ≤ 57 ∨ 97 ≤ c.toNat ∧ c.toNat ≤ 102 ∨ 65 ≤ c.toNat ∧ c.toNat ≤ 70)
def lt (c : UInt8) : Bool := decide (97 ≤ c.toNat ∧ c.toNat ≤ 122 ∨ 65 ≤ c.toNat ∧ c.toNat ≤ 90 ∨ c.toNat = 95 ∨ c.toNat = 36)
def ib (c : UInt8) : Bool := lt c || dg c
def nel (c : UInt8) : Bool := !el c
/-- how many bytes of that sort stand at the head -/
def run (p : UInt8 → Bool) : Bs → Nat
  | [] => 0
  | c :: r => if p c then run p r + 1 else 0
theorem run_le (p : UInt8 → Bool) : ∀ l, run p l ≤ l.length
  | [] => Nat.le_refl _
  | c :: r => by
    unfold run
    have := run_le p r
    split <;> simp <;> omega
theorem run_cons (p : UInt8 → Bool) (c : UInt8) (r : Bs) : run p (c :: r) = if p c then run p r + 1 else 0 := rfl
theorem run_stop {p : UInt8 → Bool} {c : UInt8} {r : Bs} (h : p c = false) : run p (c :: r) = 0 := by
  rw [run_cons, h]; rfl
theorem run_go {p : UInt8 → Bool} {c : UInt8} {r : Bs} (h : p c = true) : run p (c :: r) = run p r + 1 := by
  rw [run_cons, h]; rfl
theorem run_all {p : UInt8 → Bool} : ∀ l : Bs, ∀ b ∈ l.take (run p l), p b = true
  | [], b, h => by simp at h
  | c :: r, b, h => by
    cases hc : p c with
    | false => rw [run_stop hc] at h; simp at h
    | true =>
      rw [run_go hc, List.take_succ_cons, List.mem_cons] at h
      rcases h with rfl | h
      · exact hc
      · exact run_all r b h
/-- what stands behind, if its head is not of that sort, changes nothing -/
theorem run_app {p : UInt8 → Bool} {d : UInt8} (hd : p d = false) (m : Bs) : ∀ l : Bs, run p (l ++ d :: m) = run p l
  | [] => run_stop hd
  | c :: r => by
    cases hc : p c with
    | false => rw [List.cons_append, run_stop hc, run_stop hc]
    | true => rw [List.cons_append, run_go hc, run_go hc, run_app hd m r]
theorem run_ge {p : UInt8 → Bool} : ∀ {l : Bs} {k : Nat}, k ≤ l.length → (∀ b ∈ l.take k, p b = true) → k ≤ run p l ∧ run p (l.drop k) + k = run p l
  | l, 0, _, _ => ⟨Nat.zero_le _, by simp⟩
  | [], k + 1, h, _ => by simp at h
  | c :: r, k + 1, h, hh => by
    have hc : p c = true := hh c (by simp)
    have := run_ge (l := r) (k := k) (by simpa using h) fun b hb => hh b (by simp [hb])
    rw [run_go hc, List.drop_succ_cons]
    exact ⟨by omega, by omega⟩
theorem run_short {p : UInt8 → Bool} : ∀ {l : Bs} (h : run p l < l.length), p (l[run p l]) = false
  | [], h => by simp at h
  | c :: r, h => by
    cases hc : p c with
    | false => simp [run_stop hc, hc]
    | true =>
      have h' : run p r < r.length := by rw [run_go hc] at h; simpa using h
      have := run_short h'
      simp only [run_go hc, List.getElem_cons_succ]
      exact this
theorem run_full {p : UInt8 → Bool} {l : Bs} (h : ∀ b ∈ l, p b = true) : run p l = l.length := by
  induction l with
  | nil => rfl
  | cons c r ih => rw [run_go (h c (by simp)), ih fun b hb => h b (by simp [hb])]; rfl
theorem run_eq {p : UInt8 → Bool} {l : Bs} {k : Nat} (hk : k < l.length) (h : ∀ b ∈ l.take k, p b = true) (hn : p l[k] = false) : run p l = k := by
  obtain ⟨_, h2⟩ := run_ge (Nat.le_of_lt hk) h
  have e : l.drop k = l[k] :: l.drop (k + 1) := List.drop_eq_getElem_cons hk
  rw [e, run_stop hn] at h2
  omega

/-- where a comment ends: the place of the star of the first star and slash -/
def fin : Bs → Option Nat
  | [] => none
  | c :: r => if c = 42 ∧ r.head? = some 47 then some 0 else (fin r).map (· + 1)
theorem fin_lt : ∀ {l : Bs} {j : Nat}, fin l = some j → j + 2 ≤ l.length
  | [], j, h => by simp [fin] at h
  | c :: r, j, h => by
    unfold fin at h
    split at h
    · rename_i hc
      injection h with h
      cases r with
      | nil => simp at hc
      | cons d t => subst h; simp
    · cases hf : fin r with
      | none => rw [hf] at h; simp at h
      | some i =>
        rw [hf] at h
        simp only [Option.map_some, Option.some.injEq] at h
        have := fin_lt hf
        simp
        omega
theorem fin_app (m : Bs) : ∀ {l : Bs} {j : Nat}, fin l = some j → fin (l ++ m) = some j
  | [], j, h => by simp [fin] at h
  | c :: r, j, h => by
    unfold fin at h
    rw [List.cons_append]
    unfold fin
    split at h
    · rename_i hc
      cases r with
      | nil => simp at hc
      | cons d t => rw [if_pos (by simpa using hc), h]
    · rename_i hc
      cases hf : fin r with
      | none => rw [hf] at h; simp at h
      | some i =>
        have hr : r ≠ [] := by intro e; subst e; simp [fin] at hf
        obtain ⟨d, t, rfl⟩ := List.exists_cons_of_ne_nil hr
        rw [if_neg (by simpa using hc), fin_app m hf, ← h, hf]
/-- the library's Cut at a star and a slash -/
theorem cut_fin : ∀ l : Bs, Lib.index l [42, 47] = match fin l with | some j => (j : Int) | none => -1
  | [] => rfl
  | c :: r => by
    have ih := cut_fin r
    unfold Lib.index fin
    by_cases hc : c = 42 ∧ r.head? = some 47
    · rw [if_pos hc, if_pos]
      · rfl
      · obtain ⟨rfl, h2⟩ := hc
        cases r with
        | nil => cases h2
        | cons d t => injection h2 with h2; subst h2; rfl
    · rw [if_neg hc, if_neg]
      · rw [ih]
        cases fin r with
        | none => rfl
        | some j => simp only [Option.map_some]; rw [if_neg (by simp)]; rfl
      · intro h
        apply hc
        rw [List.isPrefixOf_iff_prefix] at h
        obtain ⟨t, ht⟩ := h
        injection ht with h1 h2
        exact ⟨h1.symm, by rw [← h2]; rfl⟩

/-- what white space begins here: none: a comment with no end; some none: none; some some n: n bytes -/
def ws1 (l : Bs) : Option (Option Nat) :=
  match l with
  | [] => some none
  | c :: r =>
    if ws c then some (some 1)
    else if c = 47 ∧ r.head? = some 47 then some (some (run nel (c :: r)))
    else if c = 47 ∧ r.head? = some 42 then (match fin (r.drop 1) with
      | some j => some (some (j + 4))
      | none => none)
    else some none
/-- white space: how many bytes; false: a comment with no end follows -/
def sp : Nat → Bs → Nat × Bool
  | 0, _ => (0, true)
  | f + 1, l => match ws1 l with
    | none => (0, false)
    | some none => (0, true)
    | some (some n) => (n + (sp f (l.drop n)).1, (sp f (l.drop n)).2)
theorem ws1_pos {l : Bs} {n : Nat} (h : ws1 l = some (some n)) : 0 < n ∧ n ≤ l.length := by
  unfold ws1 at h
  split at h
  · simp at h
  · rename_i c r
    split at h
    · injection h with h; injection h with h; subst h; simp
    · split at h
      · rename_i h1 h2
        injection h with h; injection h with h
        subst h
        refine ⟨?_, run_le _ _⟩
        rw [run_go (by rw [h2.1]; rfl)]
        omega
      · split at h
        · cases hf : fin (r.drop 1) with
          | none => rw [hf] at h; simp at h
          | some j =>
            rw [hf] at h
            simp only [Option.some.injEq] at h
            subst h
            have := fin_lt hf
            simp at this ⊢
            omega
        · simp at h
theorem sp_le : ∀ (f : Nat) (l : Bs), (sp f l).1 ≤ l.length
  | 0, l => Nat.zero_le _
  | f + 1, l => by
    unfold sp
    split
    · exact Nat.zero_le _
    · exact Nat.zero_le _
    · rename_i n h
      have := ws1_pos h
      have := sp_le f (l.drop n)
      rw [List.length_drop] at this
      show n + _ ≤ _
      omega
theorem sp_fuel : ∀ (f g : Nat) (l : Bs), l.length < f → l.length < g → sp f l = sp g l
  | 0, _, l, h, _ => by omega
  | _, 0, l, _, h => by omega
  | f + 1, g + 1, l, h1, h2 => by
    unfold sp
    split
    · rfl
    · rfl
    · rename_i n h
      have := ws1_pos h
      rw [sp_fuel f g (l.drop n) (by simp; omega) (by simp; omega)]
/-- white space of l -/
def spc (l : Bs) : Nat × Bool := sp (l.length + 1) l
theorem spc_open {l : Bs} (h : ws1 l = none) : spc l = (0, false) := by
  unfold spc sp; rw [h]
theorem spc_none {l : Bs} (h : ws1 l = some none) : spc l = (0, true) := by
  unfold spc sp; rw [h]
theorem spc_some {l : Bs} {n : Nat} (h : ws1 l = some (some n)) : spc l = (n + (spc (l.drop n)).1, (spc (l.drop n)).2) := by
  have := ws1_pos h
  have e : spc (l.drop n) = sp l.length (l.drop n) := sp_fuel _ _ _ (by omega) (by simp; omega)
  rw [e]
  unfold spc
  conv => lhs; unfold sp
  rw [h]
theorem spc_le (l : Bs) : (spc l).1 ≤ l.length := sp_le _ _
/-- a line ended among the bytes -/
def fresh (l : Bs) (n : Nat) : Bool := (l.take n).any el

/-! words and signs -/
def words : List Bs := [[98, 114, 101, 97, 107], [99, 97, 115, 101], [99, 97, 116, 99, 104], [99, 108, 97, 115, 115], [99, 111, 110, 115, 116], [99, 111, 110, 116, 105, 110, 117, 101], [100, 101, 98, 117, 103, 103, 101, 114], [100, 101, 102, 97, 117, 108, 116], [100, 101, 108, 101, 116, 101], [100, 111], [101, 108, 115, 101], [101, 110, 117, 109], [101, 120, 112, 111, 114, 116], [101, 120, 116, 101, 110, 100, 115], [102, 97, 108, 115, 101], [102, 105, 110, 97, 108, 108, 121], [102, 111, 114], [102, 117, 110, 99, 116, 105, 111, 110], [105, 102], [105, 109, 112, 108, 101, 109, 101, 110, 116, 115], [105, 109, 112, 111, 114, 116], [105, 110], [105, 110, 115, 116, 97, 110, 99, 101, 111, 102], [105, 110, 116, 101, 114, 102, 97, 99, 101], [108, 101, 116], [110, 101, 119], [110, 117, 108, 108], [112, 97, 99, 107, 97, 103, 101], [112, 114, 105, 118, 97, 116, 101], [112, 114, 111, 116, 101, 99, 116, 101, 100], [112, 117, 98, 108, 105, 99], [114, 101, 116, 117, 114, 110], [115, 116, 97, 116, 105, 99], [115, 117, 112, 101, 114], [115, 119, 105, 116, 99, 104], [116, 104, 105, 115], [116, 104, 114, 111, 119], [116, 114, 117, 101], [116, 114, 121], [116, 121, 112, 101, 111, 102], [118, 97, 114], [118, 111, 105, 100], [119, 104, 105, 108, 101], [119, 105, 116, 104], [121, 105, 101, 108, 100]]
def isW (l : Bs) : Bool := words.contains l
def signs : List Bs := [[61, 61, 61], [33, 61, 61], [60, 61], [62, 61], [61, 61], [33, 61], [43, 43], [45, 45], [38, 38], [124, 124], [43, 61], [45, 61], [42, 61], [47, 61], [37, 61], [123], [125], [40], [41], [91], [93], [46], [59], [44], [60], [62], [43], [45], [42], [47], [37], [33], [63], [58], [61]]
def isS (l : Bs) : Bool := signs.contains l
/-- the sign at the head -/
def sg (l : Bs) : Option Bs := signs.find? (·.isPrefixOf l)
def isI (l : Bs) : Bool := match l with
  | [] => false
  | c :: _ => decide (l.length ≤ 32) && (!dg c && l.all ib)

/-! numbers -/
def dv (c : UInt8) : Nat := if c.toNat ≤ 57 then c.toNat - 48 else if 97 ≤ c.toNat then c.toNat - 87 else c.toNat - 55
/-- digits to a base -/
def val (b : Nat) : Nat → Bs → Nat
  | acc, [] => acc
  | acc, c :: r => val b (acc * b + dv c) r
def isH (l : Bs) : Bool := match l with
  | a :: x :: d :: _ => decide (a = 48) && (decide (x = 120 ∨ x = 88) && hx d)
  | _ => false
/-- a number's digits, its base, and how many bytes it has -/
def nparts (l : Bs) : Bs × Nat × Nat :=
  if isH l then ((l.drop 2).take (run hx (l.drop 2)), 16, 2 + run hx (l.drop 2))
  else if l.head? = some 48 then ([48], 10, 1)
  else (l.take (run dg l), 10, run dg l)
/-- nothing that sticks to a number -/
def free (l : Bs) : Bool := match l with
  | [] => true
  | c :: _ => !(ib c || decide (c = 46))
def num (l : Bs) : Option (Nat × Nat) :=
  if 9007199254740991 < val (nparts l).2.1 0 (nparts l).1 then none
  else if free (l.drop (nparts l).2.2) then some (val (nparts l).2.1 0 (nparts l).1, (nparts l).2.2) else none

/-- a token without its place: kind, text, number -/
structure Tok where
  k : Nat
  t : Bs
  n : Nat
  deriving DecidableEq
/-- the token at the head, and how many bytes it has -/
def one (l : Bs) : Option (Tok × Nat) :=
  match l with
  | [] => none
  | c :: _ =>
    if dg c then (num l).map fun x => (⟨3, [], x.1⟩, x.2)
    else if ib c then (if 32 < run ib l then none else some (⟨if isW (l.take (run ib l)) then 2 else 1, l.take (run ib l), 0⟩, run ib l))
    else if c = 39 ∨ c = 34 then (read l).map fun x => (⟨4, bs x.1, 0⟩, x.2)
    else (sg l).map fun g => (⟨5, g, 0⟩, g.length)
/-- a token -/
structure Tk where
  k : Int
  t : Bs
  n : Int
  a : Int
  f : Bool
  deriving DecidableEq
def mk (t : Tok) (a : Nat) (f : Bool) : Tk := ⟨t.k, t.t, t.n, a, f⟩
/-- the end's token -/
def endT (a : Nat) (f : Bool) : Tk := ⟨0, [], 0, a, f⟩
/-- what a source is cut into, its first byte's place being a: an error's place, or tokens -/
def cut : Nat → Bs → Nat → Nat ⊕ List Tk
  | 0, _, a => .inl a
  | f + 1, l, a =>
    if (spc l).2 = false then .inl (a + (spc l).1)
    else if (spc l).1 = l.length then .inr [endT (a + (spc l).1) (fresh l (spc l).1)]
    else match one (l.drop (spc l).1) with
      | none => .inl (a + (spc l).1)
      | some (t, k) => match cut f (l.drop ((spc l).1 + k)) (a + (spc l).1 + k) with
        | .inl e => .inl e
        | .inr ts => .inr (mk t (a + (spc l).1) (fresh l (spc l).1) :: ts)
end Go.Proofs.YtkaamaopjcaalaaDoor.T
