/-
  PLAIN: a parser of a tree's tokens, and its rules.
  PLAIN: the parser's rules.
  PLAIN: tokens of what a tree is written as; heads, levels.
  PLAIN: what an expression is written as is read as that expression.
  PLAIN: expressions, kind for kind.
  PLAIN: statements, kind for kind.
  PLAIN: statements are read as themselves; heads; the whole.
  PLAIN: every token that is written is cut as itself; two trees of the same text are the same.
  PLAIN: how long what is written is at most.
  PLAIN: a block around a program; two programs as one; what Text answers.
  PLAIN: two programs one behind the other.
-/
import Derived.Test.YtllpgoaanbiodaaGreatDoorMO
import Derived.Test.YtllpgoaanbiodaaGreatDoorMTC
import Derived.Test.YtllpgoaanbiodaaGreatDoorMKd
import Derived.Test.YtllpgoaanbiodaaGreatDoorMWk
namespace Go.Proofs.YtllpgoaanbiodaaGreatDoor.R.Ps
open Go.RowKit Go.Proofs.YtllpgoaanbiodaaGreatDoor Go.Proofs.YtllpgoaanbiodaaGreatDoor.T Go.Proofs.YtllpgoaanbiodaaGreatDoor.R

abbrev tS (s : Bs) : Tok := ⟨5, s, 0⟩
abbrev tW (s : Bs) : Tok := ⟨2, s, 0⟩
abbrev tI (s : Bs) : Tok := ⟨1, s, 0⟩
abbrev tN (n : Nat) : Tok := ⟨3, [], n⟩
abbrev tX (s : Bs) : Tok := ⟨4, s, 0⟩
abbrev wFn : Bs := [102, 117, 110, 99, 116, 105, 111, 110]
abbrev wIn : Bs := [105, 110]
abbrev wNew : Bs := [110, 101, 119]
abbrev wCase : Bs := [99, 97, 115, 101]
abbrev wDef : Bs := [100, 101, 102, 97, 117, 108, 116]
abbrev wElse : Bs := [101, 108, 115, 101]
abbrev wCatch : Bs := [99, 97, 116, 99, 104]
abbrev wFin : Bs := [102, 105, 110, 97, 108, 108, 121]
abbrev wWhile : Bs := [119, 104, 105, 108, 101]
abbrev wVar : Bs := [118, 97, 114]
/-- a node with children alone; with a name besides -/
def nd (k : Int) (l : List V) : V := .mk k ⟨#[]⟩ 0 ⟨#[]⟩ [] l
def nam (k : Int) (s : Bs) (l : List V) : V := .mk k ⟨s.toArray⟩ 0 ⟨#[]⟩ [] l
/-- what is to be read: an expression; one that begins; what stands behind it; a function's rest; .. -/
inductive Md where
  | ex (m : Nat) (no : Bool)
  | pre (no : Bool)
  | lo (m : Nat) (no : Bool) (v : V)
  | args (c : Tok)
  | more (c : Tok)
  | props
  | moreP
  | pars
  | moreN
  | fn (k : Int)
  | sts
  | st
  | decl (no : Bool)
  | cases
  | part (no : Bool)
abbrev Rs := Option (List V × List Tok)
abbrev Rd := Md → List Tok → Rs
def bnd (x : Rs) (g : List V → List Tok → Rs) : Rs := match x with
  | some (l, r) => g l r
  | none => none
def need (c : Tok) (ts : List Tok) (g : List Tok → Rs) : Rs := match ts with
  | t :: r => if t = c then g r else none
  | [] => none
theorem bnd_some (l : List V) (r : List Tok) (g : List V → List Tok → Rs) : bnd (some (l, r)) g = g l r := rfl
theorem need_ok (c : Tok) (r : List Tok) (g : List Tok → Rs) : need c (c :: r) g = g r := if_pos rfl
/-- which sort of continuation a token is, and how tight it binds -/
def cl (no : Bool) (t : Tok) : Option (Nat × Nat) :=
  if t.k = 1 ∨ t.k = 3 ∨ t.k = 4 then none
  else if t = tS [46] then some (1, 13)
  else if t = tS [91] then some (2, 13)
  else if t = tS [40] then some (3, 11)
  else if t = tS [43, 43] ∨ t = tS [45, 45] then some (4, 10)
  else if t = tS [63] then some (5, 2)
  else if t = tS [44] then some (7, 0)
  else if t.k = 5 ∧ asOps.contains t.t = true then some (6, 1)
  else if (t.k = 5 ∨ t = tW [105, 110, 115, 116, 97, 110, 99, 101, 111, 102] ∨ (t = tW wIn ∧ no = false)) ∧ ¬ opl t.t = 0 then some (8, opl t.t)
  else none
def cont (R : Rd) (m : Nat) (no : Bool) (k : Nat) (v : V) (t : Tok) (r : List Tok) : Rs := match k with
  | 1 => match r with
    | x :: r => if x.k = 1 ∨ x.k = 2 then R (.lo m no (nam 11 x.t [v])) r else none
    | [] => none
  | 2 => bnd (R (.ex 0 false) r) fun l r => need (tS [93]) r fun r => R (.lo m no (nd 12 (v :: l))) r
  | 3 => bnd (R (.args (tS [41])) r) fun l r => R (.lo m no (nd 13 (v :: l))) r
  | 4 => R (.lo m no (nam 16 t.t [v])) r
  | 5 => bnd (R (.ex 1 false) r) fun a r => need (tS [58]) r fun r => bnd (R (.ex 1 no) r) fun b r => R (.lo m no (nd 19 (v :: (a ++ b)))) r
  | 6 => bnd (R (.ex 1 no) r) fun b r => R (.lo m no (nam 20 t.t (v :: b))) r
  | 7 => bnd (R (.ex 1 no) r) fun b r => R (.lo m no (nd 21 (v :: b))) r
  | _ => bnd (R (.ex (opl t.t + 1) no) r) fun b r => R (.lo m no (nam (if opl t.t ≤ 4 then 18 else 17) t.t (v :: b))) r
def pre (R : Rd) (no : Bool) (t : Tok) (r : List Tok) : Rs :=
  if t.k = 3 then some ([.mk 1 ⟨#[]⟩ t.n ⟨#[]⟩ [] []], r)
  else if t.k = 4 then some ([.mk 2 ⟨#[]⟩ 0 ⟨t.t.toArray⟩ [] []], r)
  else if t.k = 1 then some ([nam 3 t.t []], r)
  else if t = tW [116, 104, 105, 115] then some ([nd 4 []], r)
  else if t = tW [110, 117, 108, 108] then some ([nd 5 []], r)
  else if t = tW [102, 97, 108, 115, 101] then some ([nd 6 []], r)
  else if t = tW [116, 114, 117, 101] then some ([.mk 6 ⟨#[]⟩ 1 ⟨#[]⟩ [] []], r)
  else if t = tW wFn then R (.fn 10) r
  else if t = tS [40] then bnd (R (.ex 0 false) r) fun l r => need (tS [41]) r fun r => some (l, r)
  else if t = tS [91] then bnd (R (.args (tS [93])) r) fun l r => some ([nd 7 l], r)
  else if t = tS [123] then bnd (R .props r) fun l r => some ([nd 8 l], r)
  else if t = tW wNew then bnd (R (.ex 12 no) r) fun l r => need (tS [40]) r fun r => bnd (R (.args (tS [41])) r) fun a r => some ([nd 14 (l ++ a)], r)
  else if t = tS [43, 43] ∨ t = tS [45, 45] then bnd (R (.ex 11 no) r) fun l r => some ([.mk 16 ⟨t.t.toArray⟩ 1 ⟨#[]⟩ [] l], r)
  else if unOps.contains t.t = true then bnd (R (.ex 9 no) r) fun l r => some ([nam 15 t.t l], r)
  else none
def prop (R : Rd) (ts : List Tok) : Rs := match ts with
  | x :: r => if x.k = 4 then need (tS [58]) r fun r => bnd (R (.ex 1 false) r) fun l r => bnd (R .moreP r) fun m r => some (.mk 9 ⟨#[]⟩ 0 ⟨x.t.toArray⟩ [] l :: m, r) else none
  | [] => none
def func1 (R : Rd) (k : Int) (nm : Bs) (ts : List Tok) : Rs :=
  need (tS [40]) ts fun r => bnd (R .pars r) fun ks r => need (tS [123]) r fun r => bnd (R .sts r) fun l r => need (tS [125]) r fun r => some ([.mk k ⟨nm.toArray⟩ 0 ⟨#[]⟩ (ks.map V.nm) l], r)
def moreD (R : Rd) (no : Bool) (v : V) (r : List Tok) : Rs := match r with
  | t :: q => if t = tS [44] then bnd (R (.decl no) q) fun l r => some (v :: l, r) else some ([v], r)
  | [] => some ([v], [])
def head (R : Rd) (r : List Tok) (g : List V → List Tok → Rs) : Rs := need (tS [40]) r fun r => bnd (R (.ex 0 false) r) fun c r => need (tS [41]) r fun r => g c r
def els (R : Rd) (l : List V) (r : List Tok) : Rs := match r with
  | x :: q => if x = tW wElse then bnd (R .st q) fun b r => some ([nd 26 (l ++ b)], r) else some ([nd 26 l], r)
  | [] => some ([nd 26 l], [])
def fin (R : Rd) (nm : Bs) (l : List V) (r : List Tok) : Rs := match r with
  | x :: q => if x = tW wFin then bnd (R .st q) fun c r => some ([nam 35 nm (l ++ c)], r) else some ([nam 35 nm (l ++ [nd 42 []])], r)
  | [] => some ([nam 35 nm (l ++ [nd 42 []])], [])
def tryS (R : Rd) (r : List Tok) : Rs := bnd (R .st r) fun a r => match r with
  | x :: q => if x = tW wCatch then need (tS [40]) q fun r => (match r with
      | y :: r => need (tS [41]) r fun r => bnd (R .st r) fun b r => fin R y.t (a ++ b) r
      | [] => none) else fin R [] (a ++ [nd 42 []]) r
  | [] => fin R [] (a ++ [nd 42 []]) []
def lab (k : Int) (r : List Tok) : Rs := match r with
  | x :: q => if x.k = 1 then need (tS [59]) q fun r => some ([nam k x.t []], r) else need (tS [59]) r fun r => some ([nd k []], r)
  | [] => none
def loop (R : Rd) (r : List Tok) : Rs := need (tS [40]) r fun r => bnd (R (.part true) r) fun a r => match r with
  | x :: q => if x = tW wIn then bnd (R (.ex 0 false) q) fun b r => need (tS [41]) r fun r => bnd (R .st r) fun c r => some ([nd 30 (a ++ (b ++ c))], r)
      else need (tS [59]) r fun r => bnd (R (.part false) r) fun b r => need (tS [59]) r fun r => bnd (R (.part false) r) fun c r => need (tS [41]) r fun r => bnd (R .st r) fun d r => some ([nd 29 (a ++ (b ++ (c ++ d)))], r)
  | [] => none
def short (R : Rd) (ts : List Tok) : Rs := bnd (R (.ex 0 false) ts) fun l r => match r with
  | x :: q => if x = tS [59] then some ([nd 24 l], q) else if x = tS [58] then bnd (R .st q) fun m r => some ([nam 38 (bl (l.headD default).nm) m], r) else none
  | [] => none
def stm (R : Rd) (t : Tok) (r : List Tok) : Rs :=
  if t.k = 1 ∨ t.k = 3 ∨ t.k = 4 then short R (t :: r)
  else if t = tS [123] then bnd (R .sts r) fun l r => need (tS [125]) r fun r => some ([nd 25 l], r)
  else if t = tS [59] then some ([nd 40 []], r)
  else if t = tW wVar then bnd (R (.decl false) r) fun l r => need (tS [59]) r fun r => some ([nd 22 l], r)
  else if t = tW wFn then R (.fn 39) r
  else if t = tW [105, 102] then head R r fun c r => bnd (R .st r) fun a r => els R (c ++ a) r
  else if t = tW wWhile then head R r fun c r => bnd (R .st r) fun a r => some ([nd 27 (c ++ a)], r)
  else if t = tW [100, 111] then bnd (R .st r) fun a r => need (tW wWhile) r fun r => head R r fun c r => need (tS [59]) r fun r => some ([nd 28 (a ++ c)], r)
  else if t = tW [102, 111, 114] then loop R r
  else if t = tW [116, 114, 121] then tryS R r
  else if t = tW [115, 119, 105, 116, 99, 104] then head R r fun c r => need (tS [123]) r fun r => bnd (R .cases r) fun l r => need (tS [125]) r fun r => some ([nd 36 (c ++ l)], r)
  else if t = tW [98, 114, 101, 97, 107] then lab 31 r
  else if t = tW [99, 111, 110, 116, 105, 110, 117, 101] then lab 32 r
  else if t = tW [114, 101, 116, 117, 114, 110] then (match r with
    | x :: q => if x = tS [59] then some ([nd 33 []], q) else bnd (R (.ex 0 false) r) fun l r => need (tS [59]) r fun r => some ([nd 33 l], r)
    | [] => none)
  else if t = tW [116, 104, 114, 111, 119] then bnd (R (.ex 0 false) r) fun l r => need (tS [59]) r fun r => some ([nd 34 l], r)
  else short R (t :: r)
/-- a step: what lies within is read by R -/
def step (R : Rd) : Md → List Tok → Rs
  | .ex m no, ts => bnd (R (.pre no) ts) fun l r => R (.lo m no (l.headD default)) r
  | .pre no, ts => match ts with
    | t :: r => pre R no t r
    | [] => none
  | .lo m no v, ts => match ts with
    | t :: r => (match cl no t with
      | some (k, c) => if c < m then some ([v], ts) else cont R m no k v t r
      | none => some ([v], ts))
    | [] => some ([v], [])
  | .args c, ts => match ts with
    | t :: r => if t = c then some ([], r) else bnd (R (.ex 1 false) ts) fun l r => bnd (R (.more c) r) fun m r => some (l ++ m, r)
    | [] => none
  | .more c, ts => match ts with
    | t :: r => if t = c then some ([], r) else if t = tS [44] then bnd (R (.ex 1 false) r) fun l r => bnd (R (.more c) r) fun m r => some (l ++ m, r) else none
    | [] => none
  | .props, ts => match ts with
    | t :: r => if t = tS [125] then some ([], r) else prop R ts
    | [] => none
  | .moreP, ts => match ts with
    | t :: r => if t = tS [125] then some ([], r) else if t = tS [44] then prop R r else none
    | [] => none
  | .pars, ts => match ts with
    | t :: r => if t = tS [41] then some ([], r) else bnd (R .moreN r) fun l r => some (nam 3 t.t [] :: l, r)
    | [] => none
  | .moreN, ts => match ts with
    | t :: r => if t = tS [41] then some ([], r) else if t = tS [44] then (match r with
        | x :: r => bnd (R .moreN r) fun l r => some (nam 3 x.t [] :: l, r)
        | [] => none) else none
    | [] => none
  | .fn k, ts => match ts with
    | t :: r => if t.k = 1 then func1 R k t.t r else func1 R k [] ts
    | [] => none
  | .sts, ts => match ts with
    | t :: _ => if t = tS [125] ∨ t = tW wCase ∨ t = tW wDef then some ([], ts) else bnd (R .st ts) fun l r => bnd (R .sts r) fun m r => some (l ++ m, r)
    | [] => some ([], [])
  | .st, ts => match ts with
    | t :: r => stm R t r
    | [] => none
  | .decl no, ts => match ts with
    | t :: r => (match r with
      | x :: q => if x = tS [61] then bnd (R (.ex 1 no) q) fun l r => moreD R no (nam 23 t.t l) r else moreD R no (nam 23 t.t []) r
      | [] => none)
    | [] => none
  | .cases, ts => match ts with
    | t :: r => if t = tS [125] then some ([], ts)
      else if t = tW wDef then need (tS [58]) r fun r => bnd (R .sts r) fun l r => bnd (R .cases r) fun m r => some (nd 37 (nd 42 [] :: l) :: m, r)
      else bnd (R (.ex 0 false) r) fun a r => need (tS [58]) r fun r => bnd (R .sts r) fun l r => bnd (R .cases r) fun m r => some (nd 37 (a ++ l) :: m, r)
    | [] => none
  | .part no, ts => match ts with
    | t :: r => if t = tW wVar then bnd (R (.decl no) r) fun l r => some ([nd 22 l], r) else if t = tS [59] ∨ t = tS [41] then some ([nd 42 []], ts) else R (.ex 0 no) ts
    | [] => none
def run : Nat → Rd
  | 0 => fun _ _ => none
  | f + 1 => step (run f)
/-- so it is read, whatever depth from some on -/
def To (m : Md) (ts : List Tok) (x : List V × List Tok) : Prop := ∃ N, ∀ f, N ≤ f → run f m ts = some x
theorem To.one {m : Md} {ts : List Tok} {x y : List V × List Tok} (h : To m ts x) (k : To m ts y) : x = y := by
  obtain ⟨N, h⟩ := h
  obtain ⟨M, k⟩ := k
  have e := (h (max N M) (Nat.le_max_left _ _)).symm.trans (k (max N M) (Nat.le_max_right _ _))
  exact Option.some.inj e
theorem To.of {m : Md} {ts : List Tok} {x : List V × List Tok} (N : Nat) (h : ∀ f, N ≤ f → step (run f) m ts = some x) : To m ts x :=
  ⟨N + 1, fun f hf => by
    cases f with
    | zero => omega
    | succ f => exact h f (by omega)⟩
theorem To.zero {m : Md} {ts : List Tok} {x : List V × List Tok} (h : ∀ R : Rd, step R m ts = some x) : To m ts x := To.of 0 fun _ _ => h _
/-- one call within -/
theorem To.by1 {m m1 : Md} {ts t1 : List Tok} {x x1 : List V × List Tok} (h1 : To m1 t1 x1) (h : ∀ R : Rd, R m1 t1 = some x1 → step R m ts = some x) : To m ts x := by
  obtain ⟨N, h1⟩ := h1
  exact To.of N fun f hf => h _ (h1 f hf)
theorem To.by2 {m m1 m2 : Md} {ts t1 t2 : List Tok} {x x1 x2 : List V × List Tok} (h1 : To m1 t1 x1) (h2 : To m2 t2 x2) (h : ∀ R : Rd, R m1 t1 = some x1 → R m2 t2 = some x2 → step R m ts = some x) : To m ts x := by
  obtain ⟨N, h1⟩ := h1
  obtain ⟨M, h2⟩ := h2
  exact To.of (max N M) fun f hf => h _ (h1 f (by omega)) (h2 f (by omega))
theorem To.by3 {m m1 m2 m3 : Md} {ts t1 t2 t3 : List Tok} {x x1 x2 x3 : List V × List Tok} (h1 : To m1 t1 x1) (h2 : To m2 t2 x2) (h3 : To m3 t3 x3) (h : ∀ R : Rd, R m1 t1 = some x1 → R m2 t2 = some x2 → R m3 t3 = some x3 → step R m ts = some x) : To m ts x := by
  obtain ⟨N, h1⟩ := h1
  obtain ⟨M, h2⟩ := h2
  obtain ⟨K, h3⟩ := h3
  exact To.of (max N (max M K)) fun f hf => h _ (h1 f (by omega)) (h2 f (by omega)) (h3 f (by omega))
theorem To.by4 {m m1 m2 m3 m4 : Md} {ts t1 t2 t3 t4 : List Tok} {x x1 x2 x3 x4 : List V × List Tok} (h1 : To m1 t1 x1) (h2 : To m2 t2 x2) (h3 : To m3 t3 x3) (h4 : To m4 t4 x4) (h : ∀ R : Rd, R m1 t1 = some x1 → R m2 t2 = some x2 → R m3 t3 = some x3 → R m4 t4 = some x4 → step R m ts = some x) : To m ts x := by
  obtain ⟨N, h1⟩ := h1
  obtain ⟨M, h2⟩ := h2
  obtain ⟨K, h3⟩ := h3
  obtain ⟨L, h4⟩ := h4
  exact To.of (max (max N M) (max K L)) fun f hf => h _ (h1 f (by omega)) (h2 f (by omega)) (h3 f (by omega)) (h4 f (by omega))
end Go.Proofs.YtllpgoaanbiodaaGreatDoor.R.Ps
namespace Go.Proofs.YtllpgoaanbiodaaGreatDoor.R.Ps
open Go.RowKit Go.Proofs.YtllpgoaanbiodaaGreatDoor Go.Proofs.YtllpgoaanbiodaaGreatDoor.T Go.Proofs.YtllpgoaanbiodaaGreatDoor.R

/-- what stands behind an expression of that level does not go on with it -/
def stop (m : Nat) (no : Bool) (ts : List Tok) : Bool := match ts with
  | [] => true
  | t :: _ => match cl no t with
    | some x => decide (x.2 < m)
    | none => true
theorem stop_cons (m : Nat) (no : Bool) (t : Tok) (r : List Tok) : stop m no (t :: r) = match cl no t with
    | some x => decide (x.2 < m)
    | none => true := rfl
theorem step_lo (R : Rd) (m : Nat) (no : Bool) (v : V) (t : Tok) (r : List Tok) : step R (.lo m no v) (t :: r) = match cl no t with
    | some (k, c) => if c < m then some ([v], t :: r) else cont R m no k v t r
    | none => some ([v], t :: r) := rfl
theorem stop_mono {m m' : Nat} {no : Bool} {ts : List Tok} (h : m ≤ m') (hs : stop m no ts = true) : stop m' no ts = true := by
  cases ts with
  | nil => rfl
  | cons t r =>
    rw [stop_cons] at hs ⊢
    cases hc : cl no t with
    | none => rfl
    | some x =>
      rw [hc] at hs
      exact decide_eq_true (Nat.lt_of_lt_of_le (of_decide_eq_true hs) h)
theorem stop_none {m : Nat} {no : Bool} {t : Tok} {r : List Tok} (h : cl no t = none) : stop m no (t :: r) = true := by
  rw [stop_cons, h]
theorem stop_lt {m : Nat} {no : Bool} {t : Tok} {r : List Tok} {x : Nat × Nat} (h : cl no t = some x) (hm : x.2 < m) : stop m no (t :: r) = true := by
  rw [stop_cons, h]
  exact decide_eq_true hm
theorem to_stop {m : Nat} {no : Bool} {v : V} {ts : List Tok} (h : stop m no ts = true) : To (.lo m no v) ts ([v], ts) := To.zero fun R => by
  cases ts with
  | nil => rfl
  | cons t r =>
    rw [stop_cons] at h
    rw [step_lo]
    cases hc : cl no t with
    | none => rfl
    | some x =>
      rw [hc] at h
      exact if_pos (of_decide_eq_true h)
theorem to_ex {m : Nat} {no : Bool} {v : V} {ts r : List Tok} {x : List V × List Tok} (h : To (.pre no) ts ([v], r)) (k : To (.lo m no v) r x) : To (.ex m no) ts x :=
  h.by2 k fun R e1 e2 => by
    show bnd (R (.pre no) ts) _ = _
    rw [e1]
    exact e2
/-! what begins -/
theorem to_num (no : Bool) (n : Nat) (r : List Tok) : To (.pre no) (tN n :: r) ([.mk 1 ⟨#[]⟩ n ⟨#[]⟩ [] []], r) := To.zero fun _ => rfl
theorem to_text (no : Bool) (s : Bs) (r : List Tok) : To (.pre no) (tX s :: r) ([.mk 2 ⟨#[]⟩ 0 ⟨s.toArray⟩ [] []], r) := To.zero fun _ => rfl
theorem to_name (no : Bool) (s : Bs) (r : List Tok) : To (.pre no) (tI s :: r) ([nam 3 s []], r) := To.zero fun _ => rfl
theorem to_this (no : Bool) (r : List Tok) : To (.pre no) (tW [116, 104, 105, 115] :: r) ([nd 4 []], r) := To.zero fun _ => rfl
theorem to_null (no : Bool) (r : List Tok) : To (.pre no) (tW [110, 117, 108, 108] :: r) ([nd 5 []], r) := To.zero fun _ => rfl
theorem to_false (no : Bool) (r : List Tok) : To (.pre no) (tW [102, 97, 108, 115, 101] :: r) ([nd 6 []], r) := To.zero fun _ => rfl
theorem to_true (no : Bool) (r : List Tok) : To (.pre no) (tW [116, 114, 117, 101] :: r) ([.mk 6 ⟨#[]⟩ 1 ⟨#[]⟩ [] []], r) := To.zero fun _ => rfl
theorem to_fnE {no : Bool} {ts : List Tok} {x : List V × List Tok} (h : To (.fn 10) ts x) : To (.pre no) (tW wFn :: ts) x := h.by1 fun _ e => e
theorem to_paren {no : Bool} {v : V} {ts r : List Tok} (h : To (.ex 0 false) ts ([v], tS [41] :: r)) : To (.pre no) (tS [40] :: ts) ([v], r) :=
  h.by1 fun R e => by
    show bnd (R (.ex 0 false) ts) _ = _
    rw [e]
    rfl
theorem to_array {no : Bool} {l : List V} {ts r : List Tok} (h : To (.args (tS [93])) ts (l, r)) : To (.pre no) (tS [91] :: ts) ([nd 7 l], r) :=
  h.by1 fun R e => by
    show bnd (R (.args (tS [93])) ts) _ = _
    rw [e]
    rfl
theorem to_object {no : Bool} {l : List V} {ts r : List Tok} (h : To .props ts (l, r)) : To (.pre no) (tS [123] :: ts) ([nd 8 l], r) :=
  h.by1 fun R e => by
    show bnd (R .props ts) _ = _
    rw [e]
    rfl
theorem to_new {no : Bool} {v : V} {l : List V} {ts q r : List Tok} (h : To (.ex 12 no) ts ([v], tS [40] :: q)) (k : To (.args (tS [41])) q (l, r)) : To (.pre no) (tW wNew :: ts) ([nd 14 (v :: l)], r) :=
  h.by2 k fun R e1 e2 => by
    show bnd (R (.ex 12 no) ts) _ = _
    rw [e1]
    show bnd (R (.args (tS [41])) q) _ = _
    rw [e2]
    rfl
theorem to_ahead {no : Bool} {v : V} {s : Bs} {ts r : List Tok} (hs : s = [43, 43] ∨ s = [45, 45]) (h : To (.ex 11 no) ts ([v], r)) : To (.pre no) (tS s :: ts) ([.mk 16 ⟨s.toArray⟩ 1 ⟨#[]⟩ [] [v]], r) :=
  h.by1 fun R e => by
    rcases hs with rfl | rfl
    all_goals
      show bnd (R (.ex 11 no) ts) _ = _
      rw [e]
      rfl
/-- the token of an operator -/
def opT (s : Bs) : Tok := if isW s then tW s else tS s
theorem to_unary {no : Bool} {v : V} {s : Bs} {ts r : List Tok} (hs : s ∈ unOps) (h : To (.ex 9 no) ts ([v], r)) : To (.pre no) (opT s :: ts) ([nam 15 s [v]], r) :=
  h.by1 fun R e => by
    have hs : s = [45] ∨ s = [43] ∨ s = [33] ∨ s = [116, 121, 112, 101, 111, 102] ∨ s = [100, 101, 108, 101, 116, 101] ∨ s = [118, 111, 105, 100] := by simpa [unOps] using hs
    rcases hs with rfl | rfl | rfl | rfl | rfl | rfl
    all_goals
      show bnd (R (.ex 9 no) ts) _ = _
      rw [e]
      rfl
/-! what stands behind -/
theorem lo_step {R : Rd} {m k c : Nat} {no : Bool} {v : V} {t : Tok} {r : List Tok} (h : cl no t = some (k, c)) (hm : m ≤ c) : step R (.lo m no v) (t :: r) = cont R m no k v t r := by
  rw [step_lo, h]
  exact if_neg (by omega)
theorem to_dot {m : Nat} {no : Bool} {v : V} {t : Tok} {r : List Tok} {x : List V × List Tok} (hm : m ≤ 13) (ht : t.k = 1 ∨ t.k = 2) (h : To (.lo m no (nam 11 t.t [v])) r x) : To (.lo m no v) (tS [46] :: t :: r) x :=
  h.by1 fun R e => by
    rw [lo_step (k := 1) (c := 13) rfl hm]
    exact (if_pos ht).trans e
theorem to_idx {m : Nat} {no : Bool} {v u : V} {ts r : List Tok} {x : List V × List Tok} (hm : m ≤ 13) (h1 : To (.ex 0 false) ts ([u], tS [93] :: r)) (h : To (.lo m no (nd 12 [v, u])) r x) : To (.lo m no v) (tS [91] :: ts) x :=
  h1.by2 h fun R e1 e => by
    rw [lo_step (k := 2) (c := 13) rfl hm]
    show bnd (R (.ex 0 false) ts) _ = _
    rw [e1]
    exact e
theorem to_call {m : Nat} {no : Bool} {v : V} {l : List V} {ts r : List Tok} {x : List V × List Tok} (hm : m ≤ 11) (h1 : To (.args (tS [41])) ts (l, r)) (h : To (.lo m no (nd 13 (v :: l))) r x) : To (.lo m no v) (tS [40] :: ts) x :=
  h1.by2 h fun R e1 e => by
    rw [lo_step (k := 3) (c := 11) rfl hm]
    show bnd (R (.args (tS [41])) ts) _ = _
    rw [e1]
    exact e
theorem to_behind {m : Nat} {no : Bool} {v : V} {s : Bs} {r : List Tok} {x : List V × List Tok} (hm : m ≤ 10) (hs : s = [43, 43] ∨ s = [45, 45]) (h : To (.lo m no (nam 16 s [v])) r x) : To (.lo m no v) (tS s :: r) x :=
  h.by1 fun R e => by
    rcases hs with rfl | rfl
    all_goals
      rw [lo_step (k := 4) (c := 10) rfl hm]
      exact e
theorem to_cond {m : Nat} {no : Bool} {v a b : V} {ts q r : List Tok} {x : List V × List Tok} (hm : m ≤ 2) (h1 : To (.ex 1 false) ts ([a], tS [58] :: q)) (h2 : To (.ex 1 no) q ([b], r)) (h : To (.lo m no (nd 19 [v, a, b])) r x) : To (.lo m no v) (tS [63] :: ts) x :=
  h1.by3 h2 h fun R e1 e2 e => by
    rw [lo_step (k := 5) (c := 2) rfl hm]
    show bnd (R (.ex 1 false) ts) _ = _
    rw [e1]
    show bnd (R (.ex 1 no) q) _ = _
    rw [e2]
    exact e
theorem to_asg {m : Nat} {no : Bool} {v b : V} {s : Bs} {ts r : List Tok} {x : List V × List Tok} (hm : m ≤ 1) (hs : s ∈ asOps) (h1 : To (.ex 1 no) ts ([b], r)) (h : To (.lo m no (nam 20 s [v, b])) r x) : To (.lo m no v) (opT s :: ts) x :=
  h1.by2 h fun R e1 e => by
    have hs : s = [61] ∨ s = [43, 61] ∨ s = [45, 61] ∨ s = [42, 61] ∨ s = [47, 61] ∨ s = [37, 61] := by simpa [asOps] using hs
    rcases hs with rfl | rfl | rfl | rfl | rfl | rfl
    all_goals
      rw [show opT _ = tS _ from rfl, lo_step (k := 6) (c := 1) (by rfl) hm]
      show bnd (R (.ex 1 no) ts) _ = _
      rw [e1]
      exact e
theorem to_comma {m : Nat} {no : Bool} {v b : V} {ts r : List Tok} {x : List V × List Tok} (hm : m ≤ 0) (h1 : To (.ex 1 no) ts ([b], r)) (h : To (.lo m no (nd 21 [v, b])) r x) : To (.lo m no v) (tS [44] :: ts) x :=
  h1.by2 h fun R e1 e => by
    rw [lo_step (k := 7) (c := 0) rfl hm]
    show bnd (R (.ex 1 no) ts) _ = _
    rw [e1]
    exact e
theorem cl_bin (no : Bool) : ∀ s ∈ biOps, (no = true ∧ s = wIn) ∨ cl no (opT s) = some (8, opl s) ∧ (opT s).t = s ∧ 4 < opl s ∧ opl s ≤ 8 := by
  cases no <;> decide +kernel
theorem cl_log (no : Bool) : ∀ s ∈ loOps, cl no (opT s) = some (8, opl s) ∧ (opT s).t = s ∧ opl s ≤ 4 ∧ 3 ≤ opl s := by
  cases no <;> decide +kernel
theorem to_bin {m : Nat} {no : Bool} {v b : V} {s : Bs} {ts r : List Tok} {x : List V × List Tok} (hm : m ≤ opl s) (hs : s ∈ biOps) (hin : ¬ (no = true ∧ s = wIn)) (h1 : To (.ex (opl s + 1) no) ts ([b], r)) (h : To (.lo m no (nam 17 s [v, b])) r x) : To (.lo m no v) (opT s :: ts) x :=
  h1.by2 h fun R e1 e => by
    rcases cl_bin no s hs with hc | ⟨h2, h3, h4, h5⟩
    · exact absurd hc hin
    rw [lo_step h2 hm]
    show bnd (R (.ex (opl (opT s).t + 1) no) ts) _ = _
    rw [h3, e1]
    show R (.lo m no (nam (if opl s ≤ 4 then 18 else 17) s [v, b])) r = _
    rw [if_neg (by omega)]
    exact e
theorem to_log {m : Nat} {no : Bool} {v b : V} {s : Bs} {ts r : List Tok} {x : List V × List Tok} (hm : m ≤ opl s) (hs : s ∈ loOps) (h1 : To (.ex (opl s + 1) no) ts ([b], r)) (h : To (.lo m no (nam 18 s [v, b])) r x) : To (.lo m no v) (opT s :: ts) x :=
  h1.by2 h fun R e1 e => by
    obtain ⟨h2, h3, h4, h5⟩ := cl_log no s hs
    rw [lo_step h2 hm]
    show bnd (R (.ex (opl (opT s).t + 1) no) ts) _ = _
    rw [h3, e1]
    show R (.lo m no (nam (if opl s ≤ 4 then 18 else 17) s [v, b])) r = _
    rw [if_pos h4]
    exact e
/-! rows with commas -/
theorem to_args0 (c : Tok) (r : List Tok) : To (.args c) (c :: r) ([], r) := To.zero fun _ => if_pos rfl
theorem to_args {c t : Tok} {v : V} {l : List V} {ts q r : List Tok} (hc : ¬ t = c) (h1 : To (.ex 1 false) (t :: ts) ([v], q)) (h : To (.more c) q (l, r)) : To (.args c) (t :: ts) (v :: l, r) :=
  h1.by2 h fun R e1 e => by
    refine (if_neg hc).trans ?_
    rw [e1, bnd_some, e]
    rfl
theorem to_more0 (c : Tok) (r : List Tok) : To (.more c) (c :: r) ([], r) := To.zero fun _ => if_pos rfl
theorem to_more {c : Tok} {v : V} {l : List V} {ts q r : List Tok} (hc : ¬ tS [44] = c) (h1 : To (.ex 1 false) ts ([v], q)) (h : To (.more c) q (l, r)) : To (.more c) (tS [44] :: ts) (v :: l, r) :=
  h1.by2 h fun R e1 e => by
    refine (if_neg hc).trans ((if_pos rfl).trans ?_)
    rw [e1, bnd_some, e]
    rfl
theorem to_props0 (r : List Tok) : To .props (tS [125] :: r) ([], r) := To.zero fun _ => rfl
theorem to_moreP0 (r : List Tok) : To .moreP (tS [125] :: r) ([], r) := To.zero fun _ => rfl
theorem to_props {s : Bs} {v : V} {l : List V} {ts q r : List Tok} (h1 : To (.ex 1 false) ts ([v], q)) (h : To .moreP q (l, r)) : To .props (tX s :: tS [58] :: ts) (.mk 9 ⟨#[]⟩ 0 ⟨s.toArray⟩ [] [v] :: l, r) :=
  h1.by2 h fun R e1 e => by
    show bnd (R (.ex 1 false) ts) _ = _
    rw [e1]
    show bnd (R .moreP q) _ = _
    rw [e]
    rfl
theorem to_moreP {s : Bs} {v : V} {l : List V} {ts q r : List Tok} (h1 : To (.ex 1 false) ts ([v], q)) (h : To .moreP q (l, r)) : To .moreP (tS [44] :: tX s :: tS [58] :: ts) (.mk 9 ⟨#[]⟩ 0 ⟨s.toArray⟩ [] [v] :: l, r) :=
  h1.by2 h fun R e1 e => by
    show bnd (R (.ex 1 false) ts) _ = _
    rw [e1]
    show bnd (R .moreP q) _ = _
    rw [e]
    rfl
theorem to_pars0 (r : List Tok) : To .pars (tS [41] :: r) ([], r) := To.zero fun _ => rfl
theorem to_moreN0 (r : List Tok) : To .moreN (tS [41] :: r) ([], r) := To.zero fun _ => rfl
theorem to_pars {s : Bs} {l : List V} {ts r : List Tok} (h : To .moreN ts (l, r)) : To .pars (tI s :: ts) (nam 3 s [] :: l, r) :=
  h.by1 fun R e => by
    show bnd (R .moreN ts) _ = _
    rw [e]
    rfl
theorem to_moreN {s : Bs} {l : List V} {ts r : List Tok} (h : To .moreN ts (l, r)) : To .moreN (tS [44] :: tI s :: ts) (nam 3 s [] :: l, r) :=
  h.by1 fun R e => by
    show bnd (R .moreN ts) _ = _
    rw [e]
    rfl
theorem to_fn {k : Int} {nm : Bs} {ks l : List V} {ts q r : List Tok} (h1 : To .pars ts (ks, tS [123] :: q)) (h : To .sts q (l, tS [125] :: r)) : To (.fn k) (tI nm :: tS [40] :: ts) ([.mk k ⟨nm.toArray⟩ 0 ⟨#[]⟩ (ks.map V.nm) l], r) :=
  h1.by2 h fun R e1 e => by
    show bnd (R .pars ts) _ = _
    rw [e1]
    show bnd (R .sts q) _ = _
    rw [e]
    rfl
theorem to_fn0 {k : Int} {ks l : List V} {ts q r : List Tok} (h1 : To .pars ts (ks, tS [123] :: q)) (h : To .sts q (l, tS [125] :: r)) : To (.fn k) (tS [40] :: ts) ([.mk k ⟨#[]⟩ 0 ⟨#[]⟩ (ks.map V.nm) l], r) :=
  h1.by2 h fun R e1 e => by
    show bnd (R .pars ts) _ = _
    rw [e1]
    show bnd (R .sts q) _ = _
    rw [e]
    rfl
/-! statements -/
theorem to_sts0 {t : Tok} {r : List Tok} (h : t = tS [125] ∨ t = tW wCase ∨ t = tW wDef) : To .sts (t :: r) ([], t :: r) := To.zero fun _ => if_pos h
theorem to_stsE : To .sts [] ([], []) := To.zero fun _ => rfl
theorem to_sts {t : Tok} {v : V} {l : List V} {ts q r : List Tok} (hc : ¬ (t = tS [125] ∨ t = tW wCase ∨ t = tW wDef)) (h1 : To .st (t :: ts) ([v], q)) (h : To .sts q (l, r)) : To .sts (t :: ts) (v :: l, r) :=
  h1.by2 h fun R e1 e => by
    refine (if_neg hc).trans ?_
    rw [e1, bnd_some, e]
    rfl
theorem to_block {l : List V} {ts r : List Tok} (h : To .sts ts (l, tS [125] :: r)) : To .st (tS [123] :: ts) ([nd 25 l], r) :=
  h.by1 fun R e => by
    show bnd (R .sts ts) _ = _
    rw [e]
    rfl
theorem to_empty (r : List Tok) : To .st (tS [59] :: r) ([nd 40 []], r) := To.zero fun _ => rfl
theorem to_var {l : List V} {ts r : List Tok} (h : To (.decl false) ts (l, tS [59] :: r)) : To .st (tW wVar :: ts) ([nd 22 l], r) :=
  h.by1 fun R e => by
    show bnd (R (.decl false) ts) _ = _
    rw [e]
    rfl
theorem to_fnS {ts : List Tok} {x : List V × List Tok} (h : To (.fn 39) ts x) : To .st (tW wFn :: ts) x := h.by1 fun _ e => e
theorem to_if {c a : V} {ts q r : List Tok} (h1 : To (.ex 0 false) ts ([c], tS [41] :: q)) (h2 : To .st q ([a], r)) (hr : ∀ t q, r = t :: q → ¬ t = tW wElse) : To .st (tW [105, 102] :: tS [40] :: ts) ([nd 26 [c, a]], r) :=
  h1.by2 h2 fun R e1 e2 => by
    show bnd (R (.ex 0 false) ts) _ = _
    rw [e1]
    show bnd (R .st q) _ = _
    rw [e2]
    show els R [c, a] r = _
    cases r with
    | nil => rfl
    | cons t q => exact if_neg (hr t q rfl)
theorem to_ifElse {c a b : V} {ts q p r : List Tok} (h1 : To (.ex 0 false) ts ([c], tS [41] :: q)) (h2 : To .st q ([a], tW wElse :: p)) (h3 : To .st p ([b], r)) : To .st (tW [105, 102] :: tS [40] :: ts) ([nd 26 [c, a, b]], r) :=
  h1.by3 h2 h3 fun R e1 e2 e3 => by
    show bnd (R (.ex 0 false) ts) _ = _
    rw [e1]
    show bnd (R .st q) _ = _
    rw [e2]
    show bnd (R .st p) _ = _
    rw [e3]
    rfl
theorem to_while {c a : V} {ts q r : List Tok} (h1 : To (.ex 0 false) ts ([c], tS [41] :: q)) (h2 : To .st q ([a], r)) : To .st (tW wWhile :: tS [40] :: ts) ([nd 27 [c, a]], r) :=
  h1.by2 h2 fun R e1 e2 => by
    show bnd (R (.ex 0 false) ts) _ = _
    rw [e1]
    show bnd (R .st q) _ = _
    rw [e2]
    rfl
theorem to_do {c a : V} {ts q r : List Tok} (h1 : To .st ts ([a], tW wWhile :: tS [40] :: q)) (h2 : To (.ex 0 false) q ([c], tS [41] :: tS [59] :: r)) : To .st (tW [100, 111] :: ts) ([nd 28 [a, c]], r) :=
  h1.by2 h2 fun R e1 e2 => by
    show bnd (R .st ts) _ = _
    rw [e1]
    show bnd (R (.ex 0 false) q) _ = _
    rw [e2]
    rfl
theorem to_for {a b c d : V} {ts q p o r : List Tok} (h1 : To (.part true) ts ([a], tS [59] :: q)) (h2 : To (.part false) q ([b], tS [59] :: p)) (h3 : To (.part false) p ([c], tS [41] :: o)) (h4 : To .st o ([d], r)) : To .st (tW [102, 111, 114] :: tS [40] :: ts) ([nd 29 [a, b, c, d]], r) :=
  h1.by4 h2 h3 h4 fun R e1 e2 e3 e4 => by
    show bnd (R (.part true) ts) _ = _
    rw [e1]
    show bnd (R (.part false) q) _ = _
    rw [e2]
    show bnd (R (.part false) p) _ = _
    rw [e3]
    show bnd (R .st o) _ = _
    rw [e4]
    rfl
theorem to_forIn {a b c : V} {ts q o r : List Tok} (h1 : To (.part true) ts ([a], tW wIn :: q)) (h2 : To (.ex 0 false) q ([b], tS [41] :: o)) (h3 : To .st o ([c], r)) : To .st (tW [102, 111, 114] :: tS [40] :: ts) ([nd 30 [a, b, c]], r) :=
  h1.by3 h2 h3 fun R e1 e2 e3 => by
    show bnd (R (.part true) ts) _ = _
    rw [e1]
    show bnd (R (.ex 0 false) q) _ = _
    rw [e2]
    show bnd (R .st o) _ = _
    rw [e3]
    rfl
theorem to_switch {c : V} {l : List V} {ts q r : List Tok} (h1 : To (.ex 0 false) ts ([c], tS [41] :: tS [123] :: q)) (h2 : To .cases q (l, tS [125] :: r)) : To .st (tW [115, 119, 105, 116, 99, 104] :: tS [40] :: ts) ([nd 36 (c :: l)], r) :=
  h1.by2 h2 fun R e1 e2 => by
    show bnd (R (.ex 0 false) ts) _ = _
    rw [e1]
    show bnd (R .cases q) _ = _
    rw [e2]
    rfl
theorem to_cases0 (r : List Tok) : To .cases (tS [125] :: r) ([], tS [125] :: r) := To.zero fun _ => rfl
theorem to_default {l m : List V} {ts q r : List Tok} (h1 : To .sts ts (l, q)) (h2 : To .cases q (m, r)) : To .cases (tW wDef :: tS [58] :: ts) (nd 37 (nd 42 [] :: l) :: m, r) :=
  h1.by2 h2 fun R e1 e2 => by
    show bnd (R .sts ts) _ = _
    rw [e1]
    show bnd (R .cases q) _ = _
    rw [e2]
    rfl
theorem to_case {c : V} {l m : List V} {ts p q r : List Tok} (h0 : To (.ex 0 false) ts ([c], tS [58] :: p)) (h1 : To .sts p (l, q)) (h2 : To .cases q (m, r)) : To .cases (tW wCase :: ts) (nd 37 (c :: l) :: m, r) :=
  h0.by3 h1 h2 fun R e0 e1 e2 => by
    show bnd (R (.ex 0 false) ts) _ = _
    rw [e0]
    show bnd (R .sts p) _ = _
    rw [e1]
    show bnd (R .cases q) _ = _
    rw [e2]
    rfl
theorem to_lab {k : Int} {s : Bs} (h : k = 31 ∧ s = [98, 114, 101, 97, 107] ∨ k = 32 ∧ s = [99, 111, 110, 116, 105, 110, 117, 101]) (nm : Bs) (r : List Tok) : To .st (tW s :: tI nm :: tS [59] :: r) ([nam k nm []], r) := To.zero fun _ => by
  rcases h with ⟨rfl, rfl⟩ | ⟨rfl, rfl⟩ <;> rfl
theorem to_lab0 {k : Int} {s : Bs} (h : k = 31 ∧ s = [98, 114, 101, 97, 107] ∨ k = 32 ∧ s = [99, 111, 110, 116, 105, 110, 117, 101]) (r : List Tok) : To .st (tW s :: tS [59] :: r) ([nd k []], r) := To.zero fun _ => by
  rcases h with ⟨rfl, rfl⟩ | ⟨rfl, rfl⟩ <;> rfl
theorem to_return0 (r : List Tok) : To .st (tW [114, 101, 116, 117, 114, 110] :: tS [59] :: r) ([nd 33 []], r) := To.zero fun _ => rfl
theorem to_return {v : V} {t : Tok} {ts r : List Tok} (ht : ¬ t = tS [59]) (h : To (.ex 0 false) (t :: ts) ([v], tS [59] :: r)) : To .st (tW [114, 101, 116, 117, 114, 110] :: t :: ts) ([nd 33 [v]], r) :=
  h.by1 fun R e => by
    refine (if_neg ht).trans ?_
    rw [e]
    rfl
theorem to_throw {v : V} {ts r : List Tok} (h : To (.ex 0 false) ts ([v], tS [59] :: r)) : To .st (tW [116, 104, 114, 111, 119] :: ts) ([nd 34 [v]], r) :=
  h.by1 fun R e => by
    show bnd (R (.ex 0 false) ts) _ = _
    rw [e]
    rfl
/-- no statement of its own begins so -/
def plainT (t : Tok) : Bool := decide (t.k = 1 ∨ t.k = 3 ∨ t.k = 4) || !([tS [123], tS [59], tW wVar, tW wFn, tW [105, 102], tW wWhile, tW [100, 111], tW [102, 111, 114], tW [116, 114, 121], tW [115, 119, 105, 116, 99, 104], tW [98, 114, 101, 97, 107], tW [99, 111, 110, 116, 105, 110, 117, 101], tW [114, 101, 116, 117, 114, 110], tW [116, 104, 114, 111, 119]].contains t)
theorem stm_plain {R : Rd} {t : Tok} {r : List Tok} (h : plainT t = true) : stm R t r = short R (t :: r) := by
  unfold plainT at h
  rw [Bool.or_eq_true, decide_eq_true_eq, Bool.not_eq_true'] at h
  unfold stm
  rcases h with h | h
  · exact if_pos h
  · have hm : ¬ t ∈ [tS [123], tS [59], tW wVar, tW wFn, tW [105, 102], tW wWhile, tW [100, 111], tW [102, 111, 114], tW [116, 114, 121], tW [115, 119, 105, 116, 99, 104], tW [98, 114, 101, 97, 107], tW [99, 111, 110, 116, 105, 110, 117, 101], tW [114, 101, 116, 117, 114, 110], tW [116, 104, 114, 111, 119]] := fun hm => by
      rw [List.contains_iff_mem.2 hm] at h
      cases h
    clear h
    by_cases hk : t.k = 1 ∨ t.k = 3 ∨ t.k = 4
    · exact if_pos hk
    · simp only [List.mem_cons, List.not_mem_nil, or_false, not_or] at hm
      obtain ⟨h1, h2, h3, h4, h5, h6, h7, h8, h9, h10, h11, h12, h13, h14⟩ := hm
      rw [if_neg hk, if_neg h1, if_neg h2, if_neg h3, if_neg h4, if_neg h5, if_neg h6, if_neg h7, if_neg h8, if_neg h9, if_neg h10, if_neg h11, if_neg h12, if_neg h13, if_neg h14]
theorem to_expr {v : V} {t : Tok} {ts r : List Tok} (ht : plainT t = true) (h : To (.ex 0 false) (t :: ts) ([v], tS [59] :: r)) : To .st (t :: ts) ([nd 24 [v]], r) :=
  h.by1 fun R e => by
    refine (stm_plain ht).trans ?_
    unfold short
    rw [e]
    rfl
theorem to_label {nm : Bs} {v : V} {ts r : List Tok} (h : To .st ts ([v], r)) : To .st (tI nm :: tS [58] :: ts) ([nam 38 nm [v]], r) := by
  have h0 : To (.ex 0 false) (tI nm :: tS [58] :: ts) ([nam 3 nm []], tS [58] :: ts) := to_ex (to_name _ _ _) (to_stop (stop_none rfl))
  exact h0.by2 h fun R e1 e => by
    show bnd (R (.ex 0 false) _) _ = _
    rw [e1]
    show bnd (R .st ts) _ = _
    rw [e]
    rfl
theorem fin0 {R : Rd} {nm : Bs} {l : List V} {r : List Tok} (hr : ∀ t q, r = t :: q → ¬ t = tW wFin) : fin R nm l r = some ([nam 35 nm (l ++ [nd 42 []])], r) := by
  cases r with
  | nil => rfl
  | cons t q => exact if_neg (hr t q rfl)
theorem to_try1 {a b : V} {nm : Bs} {ts q r : List Tok} (h1 : To .st ts ([a], tW wCatch :: tS [40] :: tI nm :: tS [41] :: q)) (h2 : To .st q ([b], r)) (hr : ∀ t q, r = t :: q → ¬ t = tW wFin) : To .st (tW [116, 114, 121] :: ts) ([nam 35 nm [a, b, nd 42 []]], r) :=
  h1.by2 h2 fun R e1 e2 => by
    show bnd (R .st ts) _ = _
    rw [e1]
    show bnd (R .st q) _ = _
    rw [e2]
    exact fin0 hr
theorem to_try2 {a b c : V} {nm : Bs} {ts q p r : List Tok} (h1 : To .st ts ([a], tW wCatch :: tS [40] :: tI nm :: tS [41] :: q)) (h2 : To .st q ([b], tW wFin :: p)) (h3 : To .st p ([c], r)) : To .st (tW [116, 114, 121] :: ts) ([nam 35 nm [a, b, c]], r) :=
  h1.by3 h2 h3 fun R e1 e2 e3 => by
    show bnd (R .st ts) _ = _
    rw [e1]
    show bnd (R .st q) _ = _
    rw [e2]
    show bnd (R .st p) _ = _
    rw [e3]
    rfl
theorem to_try3 {a c : V} {ts p r : List Tok} (h1 : To .st ts ([a], tW wFin :: p)) (h3 : To .st p ([c], r)) : To .st (tW [116, 114, 121] :: ts) ([nd 35 [a, nd 42 [], c]], r) :=
  h1.by2 h3 fun R e1 e3 => by
    show bnd (R .st ts) _ = _
    rw [e1]
    show bnd (R .st p) _ = _
    rw [e3]
    rfl
/-! declarations, parts -/
theorem to_decl1 {no : Bool} {nm : Bs} {v : V} {ts r : List Tok} (h1 : To (.ex 1 no) ts ([v], r)) (hr : ∀ t q, r = t :: q → ¬ t = tS [44]) : To (.decl no) (tI nm :: tS [61] :: ts) ([nam 23 nm [v]], r) :=
  h1.by1 fun R e1 => by
    show bnd (R (.ex 1 no) ts) _ = _
    rw [e1]
    show moreD R no _ r = _
    cases r with
    | nil => rfl
    | cons t q => exact if_neg (hr t q rfl)
theorem to_decl1c {no : Bool} {nm : Bs} {v : V} {l : List V} {ts q r : List Tok} (h1 : To (.ex 1 no) ts ([v], tS [44] :: q)) (h : To (.decl no) q (l, r)) : To (.decl no) (tI nm :: tS [61] :: ts) (nam 23 nm [v] :: l, r) :=
  h1.by2 h fun R e1 e => by
    show bnd (R (.ex 1 no) ts) _ = _
    rw [e1]
    show bnd (R (.decl no) q) _ = _
    rw [e]
    rfl
theorem to_decl0 {no : Bool} {nm : Bs} {t : Tok} {r : List Tok} (h1 : ¬ t = tS [61]) (h2 : ¬ t = tS [44]) : To (.decl no) (tI nm :: t :: r) ([nam 23 nm []], t :: r) :=
  To.zero fun _ => (if_neg h1).trans (if_neg h2)
theorem to_decl0c {no : Bool} {nm : Bs} {l : List V} {q r : List Tok} (h : To (.decl no) q (l, r)) : To (.decl no) (tI nm :: tS [44] :: q) (nam 23 nm [] :: l, r) :=
  h.by1 fun R e => by
    show bnd (R (.decl no) q) _ = _
    rw [e]
    rfl
theorem to_partV {no : Bool} {l : List V} {ts r : List Tok} (h : To (.decl no) ts (l, r)) : To (.part no) (tW wVar :: ts) ([nd 22 l], r) :=
  h.by1 fun R e => by
    show bnd (R (.decl no) ts) _ = _
    rw [e]
    rfl
theorem to_part0 {no : Bool} {t : Tok} {r : List Tok} (h : t = tS [59] ∨ t = tS [41]) : To (.part no) (t :: r) ([nd 42 []], t :: r) := To.zero fun _ => by
  rcases h with rfl | rfl <;> rfl
theorem to_part {no : Bool} {t : Tok} {ts : List Tok} {x : List V × List Tok} (h1 : ¬ t = tW wVar) (h2 : ¬ (t = tS [59] ∨ t = tS [41])) (h : To (.ex 0 no) (t :: ts) x) : To (.part no) (t :: ts) x :=
  h.by1 fun _ e => (if_neg h1).trans ((if_neg h2).trans e)
end Go.Proofs.YtllpgoaanbiodaaGreatDoor.R.Ps
namespace Go.Proofs.YtllpgoaanbiodaaGreatDoor.R.Ps
open Go.RowKit Go.Proofs.YtllpgoaanbiodaaGreatDoor Go.Proofs.YtllpgoaanbiodaaGreatDoor.T Go.Proofs.YtllpgoaanbiodaaGreatDoor.R

/-- a token's text as a token -/
def tkb (l : Bs) : Tok := match T.one l with
  | some x => x.1
  | none => ⟨0, [], 0⟩
abbrev tk (s : ByteArray) : Tok := tkb (bl s)
abbrev TS (l : Ts) : List Tok := l.map tk
theorem tk_good {p : Tk} {l : Bs} (h : T.Good p l) (hk : ¬ p.k = 3) {k : Nat} (e : p.k = k) : tkb l = ⟨k, p.t, 0⟩ := by
  obtain ⟨_, _, t, h1, h2, h3 | h3⟩ := h
  · exact absurd h3.1 hk
  · obtain ⟨_, h4, h5⟩ := h3
    unfold tkb
    rw [h1]
    obtain ⟨tk, tt, tn⟩ := t
    simp only at h2 h4 h5 ⊢
    subst h4 h5
    have : tk = k := by omega
    rw [this]
theorem tk_name {l : Bs} (h : (isI l && !isW l) = true) : tkb l = tI l := by
  rw [Bool.and_eq_true, Bool.not_eq_true'] at h
  exact tk_good (p := ⟨1, l, 0, 0, false⟩) (good_name rfl h.1 h.2) (show ¬ (1 : Int) = 3 by decide) rfl
theorem tk_word {l : Bs} (h : isW l = true) : tkb l = tW l := tk_good (p := ⟨2, l, 0, 0, false⟩) (good_word rfl h) (show ¬ (2 : Int) = 3 by decide) rfl
theorem tk_sign {l : Bs} (h : l ∈ signs) : tkb l = tS l := tk_good (p := ⟨5, l, 0, 0, false⟩) (good_sign rfl h) (show ¬ (5 : Int) = 3 by decide) rfl
theorem tk_ident {l : Bs} (h : isI l = true) : ((tkb l).k = 1 ∨ (tkb l).k = 2) ∧ (tkb l).t = l := by
  cases hw : isW l with
  | true => rw [tk_word hw]; exact ⟨.inr rfl, rfl⟩
  | false => rw [tk_name (by rw [h, hw]; rfl)]; exact ⟨.inl rfl, rfl⟩
theorem tk_quo {s : ByteArray} (h : s.size % 2 = 0) : tk (quo s) = tX (bl s) := by
  have hg : T.Good ⟨4, bl s, 0, 0, false⟩ (quote (us (bl s))) := good_text rfl (by show (bl s).length % 2 = 0; rw [size_list]; exact h)
  have e : bl (quo s) = quote (us (bl s)) := by simp [quo, bl]
  show tkb (bl (quo s)) = _
  rw [e]
  exact tk_good hg (show ¬ (4 : Int) = 3 by decide) rfl
theorem tk_dec {n : Int} (h0 : 0 ≤ n) (h1 : n ≤ 9007199254740991) : tk (dec n) = tN n.toNat := by
  have hg : T.Good ⟨3, [], n, 0, false⟩ (Lib.decDigits n.toNat) := good_num (u := n.toNat) rfl (by show n = _; omega) (by omega)
  have e : bl (dec n) = Lib.decDigits n.toNat := by
    have : Lib.itoa n = Lib.decDigits n.toNat := by
      unfold Lib.itoa
      rw [if_neg (by omega)]
    simp [dec, bl, this]
  show tkb (bl (dec n)) = _
  rw [e]
  obtain ⟨_, _, t, h2, h3, h4 | h4⟩ := hg
  · obtain ⟨_, h5, h6⟩ := h4
    unfold tkb
    rw [h2]
    obtain ⟨tk, tt, tn⟩ := t
    simp only at h3 h5 h6 ⊢
    subst h5
    have e1 : tk = 3 := by omega
    have e2 : tn = n.toNat := by omega
    rw [e1, e2]
  · exact absurd rfl h4.1
theorem tk_ops (k : Int) {l : Bs} (h : opOk k l = true) : tkb l = opT l := by
  have ha : ∀ l ∈ unOps ++ (upOps ++ (biOps ++ (loOps ++ asOps))), isW l = true ∨ (isW l = false ∧ l ∈ signs) := by decide +kernel
  have hm : l ∈ unOps ++ (upOps ++ (biOps ++ (loOps ++ asOps))) := by
    unfold opOk ops at h
    simp only [List.mem_append]
    split at h
    · exact .inl (List.contains_iff_mem.1 h)
    split at h
    · exact .inr (.inl (List.contains_iff_mem.1 h))
    split at h
    · exact .inr (.inr (.inl (List.contains_iff_mem.1 h)))
    split at h
    · exact .inr (.inr (.inr (.inl (List.contains_iff_mem.1 h))))
    split at h
    · exact .inr (.inr (.inr (.inr (List.contains_iff_mem.1 h))))
    · cases h
  unfold opT
  rcases ha l hm with h1 | ⟨h1, h2⟩
  · rw [h1]
    exact tk_word h1
  · rw [h1]
    exact tk_sign h2
/-! the literals -/
theorem k40 : tk ⟨#[40]⟩ = tS [40] := tk_sign (by decide)
theorem k41 : tk ⟨#[41]⟩ = tS [41] := tk_sign (by decide)
theorem k91 : tk ⟨#[91]⟩ = tS [91] := tk_sign (by decide)
theorem k93 : tk ⟨#[93]⟩ = tS [93] := tk_sign (by decide)
theorem k123 : tk ⟨#[123]⟩ = tS [123] := tk_sign (by decide)
theorem k125 : tk ⟨#[125]⟩ = tS [125] := tk_sign (by decide)
theorem k46 : tk ⟨#[46]⟩ = tS [46] := tk_sign (by decide)
theorem k44 : tk ⟨#[44]⟩ = tS [44] := tk_sign (by decide)
theorem k58 : tk ⟨#[58]⟩ = tS [58] := tk_sign (by decide)
theorem k59 : tk ⟨#[59]⟩ = tS [59] := tk_sign (by decide)
theorem k61 : tk ⟨#[61]⟩ = tS [61] := tk_sign (by decide)
theorem k63 : tk ⟨#[63]⟩ = tS [63] := tk_sign (by decide)
theorem kFn : tk ⟨#[102, 117, 110, 99, 116, 105, 111, 110]⟩ = tW wFn := tk_word (by decide)
theorem kThis : tk ⟨#[116, 104, 105, 115]⟩ = tW [116, 104, 105, 115] := tk_word (by decide)
theorem kNull : tk ⟨#[110, 117, 108, 108]⟩ = tW [110, 117, 108, 108] := tk_word (by decide)
theorem kFalse : tk ⟨#[102, 97, 108, 115, 101]⟩ = tW [102, 97, 108, 115, 101] := tk_word (by decide)
theorem kTrue : tk ⟨#[116, 114, 117, 101]⟩ = tW [116, 114, 117, 101] := tk_word (by decide)
theorem kNew : tk ⟨#[110, 101, 119]⟩ = tW wNew := tk_word (by decide)
theorem kVar : tk ⟨#[118, 97, 114]⟩ = tW wVar := tk_word (by decide)
theorem kIf : tk ⟨#[105, 102]⟩ = tW [105, 102] := tk_word (by decide)
theorem kElse : tk ⟨#[101, 108, 115, 101]⟩ = tW wElse := tk_word (by decide)
theorem kWhile : tk ⟨#[119, 104, 105, 108, 101]⟩ = tW wWhile := tk_word (by decide)
theorem kDo : tk ⟨#[100, 111]⟩ = tW [100, 111] := tk_word (by decide)
theorem kFor : tk ⟨#[102, 111, 114]⟩ = tW [102, 111, 114] := tk_word (by decide)
theorem kIn : tk ⟨#[105, 110]⟩ = tW wIn := tk_word (by decide)
theorem kBreak : tk ⟨#[98, 114, 101, 97, 107]⟩ = tW [98, 114, 101, 97, 107] := tk_word (by decide)
theorem kCont : tk ⟨#[99, 111, 110, 116, 105, 110, 117, 101]⟩ = tW [99, 111, 110, 116, 105, 110, 117, 101] := tk_word (by decide)
theorem kReturn : tk ⟨#[114, 101, 116, 117, 114, 110]⟩ = tW [114, 101, 116, 117, 114, 110] := tk_word (by decide)
theorem kThrow : tk ⟨#[116, 104, 114, 111, 119]⟩ = tW [116, 104, 114, 111, 119] := tk_word (by decide)
theorem kTry : tk ⟨#[116, 114, 121]⟩ = tW [116, 114, 121] := tk_word (by decide)
theorem kCatch : tk ⟨#[99, 97, 116, 99, 104]⟩ = tW wCatch := tk_word (by decide)
theorem kFin : tk ⟨#[102, 105, 110, 97, 108, 108, 121]⟩ = tW wFin := tk_word (by decide)
theorem kSwitch : tk ⟨#[115, 119, 105, 116, 99, 104]⟩ = tW [115, 119, 105, 116, 99, 104] := tk_word (by decide)
theorem kDef : tk ⟨#[100, 101, 102, 97, 117, 108, 116]⟩ = tW wDef := tk_word (by decide)
theorem kCase : tk ⟨#[99, 97, 115, 101]⟩ = tW wCase := tk_word (by decide)
/-! a node's fields -/
theorem ba_eta (s : ByteArray) : (⟨(bl s).toArray⟩ : ByteArray) = s := by cases s; simp [bl]
theorem ba_nil {s : ByteArray} (h : s.size = 0) : s = ⟨#[]⟩ := by
  rw [<- ba_eta s, List.eq_nil_of_length_eq_zero (show (bl s).length = 0 by rw [size_list]; exact h)]
structure Rt (v : V) : Prop where
  nm : nmOk (ctch v) v = true
  num : numOk v = true
  tx : txOk v = true
  ns : nsOk v = true
  kids : kids v = true
theorem rt {v : V} (h : right v = true) : Rt v := by
  unfold right fields at h
  simp only [Bool.and_eq_true] at h
  obtain ⟨⟨h1, h2, h3, h4⟩, h5⟩ := h
  exact ⟨h1, h2, h3, h4, h5⟩
theorem Rt.n0 {v : V} (h : Rt v) (hk : ¬ (v.k = 1 ∨ v.k = 6 ∨ v.k = 16)) : v.n = 0 := by
  have := h.num
  unfold numOk at this
  rw [if_neg (by omega), if_neg (by omega)] at this
  exact of_decide_eq_true this
theorem Rt.s0 {v : V} (h : Rt v) (hk : ¬ (v.k = 2 ∨ v.k = 9)) : v.s = ⟨#[]⟩ := by
  have := h.tx
  unfold txOk at this
  rw [if_neg hk] at this
  exact ba_nil (of_decide_eq_true this)
theorem Rt.ks0 {v : V} (h : Rt v) (hk : ¬ (v.k = 10 ∨ v.k = 39)) : v.ks = [] := by
  have := h.ns
  unfold nsOk at this
  rw [if_neg hk] at this
  simpa using this
theorem v_eta (v : V) : v = .mk v.k v.nm v.n v.s v.ks v.l := by cases v; rfl
theorem Rt.nam {v : V} (h : Rt v) {k : Int} (hk : v.k = k) (h1 : ¬ (k = 1 ∨ k = 6 ∨ k = 16)) (h2 : ¬ (k = 2 ∨ k = 9)) (h3 : ¬ (k = 10 ∨ k = 39)) : v = nam k (bl v.nm) v.l := by
  conv => lhs; rw [v_eta v, h.n0 (by rw [hk]; exact h1), h.s0 (by rw [hk]; exact h2), h.ks0 (by rw [hk]; exact h3), hk]
  unfold Ps.nam
  rw [ba_eta]
theorem Rt.nd {v : V} (h : Rt v) {k : Int} (hk : v.k = k) (h0 : v.nm.size = 0) (h1 : ¬ (k = 1 ∨ k = 6 ∨ k = 16)) (h2 : ¬ (k = 2 ∨ k = 9)) (h3 : ¬ (k = 10 ∨ k = 39)) : v = nd k v.l := by
  conv => lhs; rw [v_eta v, h.n0 (by rw [hk]; exact h1), h.s0 (by rw [hk]; exact h2), h.ks0 (by rw [hk]; exact h3), hk, ba_nil h0]
  rfl
theorem ok_right {v : V} (h : v.ok = true) : Rt v ∧ ∀ u ∈ v.l, u.ok = true := by
  rw [ok_eq, Bool.and_eq_true, oks_all, List.all_eq_true] at h
  exact ⟨rt h.1, h.2⟩
/-! levels -/
/-- what may not stand behind it: a token that binds tighter -/
def rm (v : V) : Nat := if v.k = 21 ∨ v.k = 20 ∨ v.k = 19 then 1 else if v.k = 17 ∨ v.k = 18 then opl (bl v.nm) + 1 else if v.k = 15 then 9 else if v.k = 16 ∧ v.n = 1 then 11 else 14
theorem opl_le (s : Bs) : opl s ≤ 8 := by
  unfold opl
  repeat' split
  all_goals omega
theorem lvl_rm (v : V) : (3 ≤ v.o.lvl → v.o.lvl ≤ rm v) ∧ (3 ≤ v.o.lvl → v.o.lvl ≤ 8 → v.o.lvl < rm v) ∧ 1 ≤ rm v ∧ (10 ≤ v.o.lvl → rm v = 14) := by
  rw [o_lvl]
  have := opl_le (bl v.nm)
  unfold lvlN rm
  repeat' split
  all_goals omega
theorem lvl_le (v : V) : v.o.lvl ≤ 13 := by
  rw [o_lvl]
  have := opl_le (bl v.nm)
  unfold lvlN
  repeat' split
  all_goals omega
/-! heads -/
/-- an expression may begin so -/
def fT (t : Tok) : Bool := decide (t.k = 1 ∨ t.k = 3 ∨ t.k = 4) || [tW [116, 104, 105, 115], tW [110, 117, 108, 108], tW [116, 114, 117, 101], tW [102, 97, 108, 115, 101], tW wFn, tS [40], tS [91], tS [123], tW wNew, tS [43, 43], tS [45, 45], tS [45], tS [43], tS [33], tW [116, 121, 112, 101, 111, 102], tW [100, 101, 108, 101, 116, 101], tW [118, 111, 105, 100]].contains t
/-- a statement may begin so -/
def sT (t : Tok) : Bool := fT t || [tS [59], tW wVar, tW [105, 102], tW wWhile, tW [100, 111], tW [102, 111, 114], tW [116, 114, 121], tW [115, 119, 105, 116, 99, 104], tW [98, 114, 101, 97, 107], tW [99, 111, 110, 116, 105, 110, 117, 101], tW [114, 101, 116, 117, 114, 110], tW [116, 104, 114, 111, 119]].contains t
theorem fT_ne {t u : Tok} (h : fT t = true) (hu : fT u = false) : ¬ t = u := fun e => by
  rw [e, hu] at h
  cases h
theorem sT_ne {t u : Tok} (h : sT t = true) (hu : sT u = false) : ¬ t = u := fun e => by
  rw [e, hu] at h
  cases h
def HasH (l : Ts) : Prop := ∃ s r, l = s :: r ∧ fT (tk s) = true ∧ (tk s = tS [123] → s = ⟨#[123]⟩) ∧ (tk s = tW wFn → s = ⟨#[102, 117, 110, 99, 116, 105, 111, 110]⟩)
def HasS (l : Ts) : Prop := ∃ s r, l = s :: r ∧ sT (tk s) = true
theorem HasH.app {a : Ts} (h : HasH a) (b : Ts) : HasH (a ++ b) := by
  obtain ⟨s, r, rfl, h⟩ := h
  exact ⟨s, r ++ b, rfl, h⟩
theorem HasH.s {a : Ts} (h : HasH a) : HasS a := by
  obtain ⟨s, r, rfl, h, _⟩ := h
  exact ⟨s, r, rfl, by unfold sT; rw [h]; rfl⟩
theorem HasS.app {a : Ts} (h : HasS a) (b : Ts) : HasS (a ++ b) := by
  obtain ⟨s, r, rfl, h⟩ := h
  exact ⟨s, r ++ b, rfl, h⟩
theorem hasH_k {s : ByteArray} {t : Tok} (r : Ts) (e : tk s = t) (h1 : fT t = true) (h2 : ¬ t = tS [123]) (h3 : ¬ t = tW wFn) : HasH (s :: r) :=
  ⟨s, r, rfl, by rw [e]; exact h1, fun h => absurd (e.symm.trans h) h2, fun h => absurd (e.symm.trans h) h3⟩
theorem hasS_k {s : ByteArray} {t : Tok} (r : Ts) (e : tk s = t) (h1 : sT t = true) : HasS (s :: r) := ⟨s, r, rfl, by rw [e]; exact h1⟩
theorem hasH_at {o : O} (h : ∀ no, HasH (o.raw no)) (m : Nat) (no : Bool) : HasH (o.at m no) := by
  unfold O.at
  split
  · exact hasH_k _ k40 (by decide) (by decide) (by decide)
  · exact h no
theorem hasH_op {k : Int} {s : ByteArray} (r : Ts) (h : opOk k (bl s) = true) (hk : k = 15 ∨ k = 16) : HasH (s :: r) := by
  have ha : ∀ l ∈ unOps ++ upOps, fT (opT l) = true ∧ ¬ opT l = tS [123] ∧ ¬ opT l = tW wFn := by decide +kernel
  have hm : bl s ∈ unOps ++ upOps := by
    rcases hk with rfl | rfl
    · exact List.mem_append_left _ (List.contains_iff_mem.1 h)
    · exact List.mem_append_right _ (List.contains_iff_mem.1 h)
  obtain ⟨h1, h2, h3⟩ := ha _ hm
  exact hasH_k r (tk_ops k h) h1 h2 h3
theorem fT_kind (t : Tok) (h : t.k = 1 ∨ t.k = 3 ∨ t.k = 4) : fT t = true := by
  unfold fT
  rw [decide_eq_true h]
  rfl
theorem getD_mem {l : List V} {i : Nat} (h : i < l.length) : ∃ u ∈ l, (l.map V.o).getD i default = u.o := ⟨l[i], List.getElem_mem h, by simp [List.getD, h]⟩
end Go.Proofs.YtllpgoaanbiodaaGreatDoor.R.Ps
namespace Go.Proofs.YtllpgoaanbiodaaGreatDoor.R.Ps
open Go.RowKit Go.Proofs.YtllpgoaanbiodaaGreatDoor Go.Proofs.YtllpgoaanbiodaaGreatDoor.T Go.Proofs.YtllpgoaanbiodaaGreatDoor.R

def PE (v : V) : Prop := isE v = true → ∀ (m : Nat) (no : Bool) (rest : List Tok) (x : List V × List Tok), ¬ (no = true ∧ v.k = 17 ∧ bl v.nm = wIn) → m ≤ v.o.lvl → stop (rm v) no rest = true → To (.lo m no v) rest x → To (.ex m no) (TS (v.o.raw no) ++ rest) x
def bad (t : Tok) : Prop := t = tW wElse ∨ t = tW wCatch ∨ t = tW wFin
def EndS (rest : List Tok) : Prop := ∀ t q, rest = t :: q → ¬ bad t
def PS (v : V) : Prop := isSt v = true → ∀ rest, (v.k = 25 ∨ EndS rest) → To .st (TS v.o.st ++ rest) ([v], rest)
def PD (v : V) : Prop := v.k = 22 → ∀ (no : Bool) (t : Tok) (q : List Tok), ¬ t = tS [44] → ¬ t = tS [61] → cl no t = none → To (.decl no) (TS (commas (v.l.map fun d => d.o.raw no)) ++ t :: q) (v.l, t :: q)
/-- what is shown of a node -/
structure Pv (v : V) : Prop where
  h : isE v = true → ∀ no, HasH (v.o.raw no)
  e : PE v
  sh : isSt v = true → HasS v.o.st
  s : PS v
  d : PD v
theorem at_reads {u : V} (hu : PE u) (he : isE u = true) {k m : Nat} {no : Bool} {rest : List Tok} {x : List V × List Tok} (hm : k ≤ u.o.lvl → m ≤ u.o.lvl) (hs : k ≤ u.o.lvl → stop (rm u) no rest = true) (hx : To (.lo m no u) rest x) : To (.ex m no) (TS (u.o.at k no) ++ rest) x := by
  unfold O.at
  split
  · have h0 := hu he 0 false (tS [41] :: rest) _ (by simp) (Nat.zero_le _) (stop_none rfl) (to_stop (stop_none rfl))
    refine to_ex (v := u) (r := rest) ?_ hx
    simp only [List.map_cons, List.map_append, List.map_nil, List.cons_append, List.append_assoc, List.nil_append]
    rw [k40, k41]
    exact to_paren h0
  · rename_i h
    rw [o_k, o_nm] at h
    exact hu he m no rest x (fun hc => h (.inr hc)) (hm (by omega)) (hs (by omega)) hx
theorem right_reads {u : V} (hu : PE u) (he : isE u = true) {k : Nat} {no : Bool} {rest : List Tok} (hk : 3 ≤ k ∨ k ≤ 1) (hs : stop k no rest = true) : To (.ex k no) (TS (u.o.at k no) ++ rest) ([u], rest) :=
  at_reads hu he (fun h => h) (fun h => stop_mono (by have := lvl_rm u; omega) hs) (to_stop hs)
theorem ts_app (a b : Ts) : TS (a ++ b) = TS a ++ TS b := List.map_append
/-! rows -/
theorem row_reads {c : Tok} (hc1 : cl false c = none) (hc2 : ¬ tS [44] = c) (rest : List Tok) : ∀ (l : List V) (a : V), (∀ u ∈ a :: l, PE u ∧ isE u = true) →
    ∃ q, To (.ex 1 false) (TS (commas ((a :: l).map fun u => u.o.at 1 false)) ++ c :: rest) ([a], q) ∧ To (.more c) q (l, rest)
  | [], a, h => ⟨c :: rest, right_reads (h a (by simp)).1 (h a (by simp)).2 (.inr (Nat.le_refl _)) (stop_none hc1), to_more0 c rest⟩
  | b :: l, a, h => by
    obtain ⟨q, h1, h2⟩ := row_reads hc1 hc2 rest l b fun u hu => h u (List.mem_cons_of_mem _ hu)
    refine ⟨tS [44] :: (TS (commas ((b :: l).map fun u => u.o.at 1 false)) ++ c :: rest), ?_, to_more hc2 h1 h2⟩
    have hr := right_reads (rest := tS [44] :: (TS (commas ((b :: l).map fun u => u.o.at 1 false)) ++ c :: rest)) (h a (by simp)).1 (h a (by simp)).2 (k := 1) (no := false) (.inr (Nat.le_refl _)) (stop_lt (x := (7, 0)) rfl (by decide))
    simp only [List.map_cons, commas, ts_app, List.append_assoc, List.cons_append] at hr ⊢
    rw [k44]
    exact hr
theorem hasH_row {a : V} {l : List V} (h : ∀ no, HasH (a.o.raw no)) : HasH (commas ((a :: l).map fun u => u.o.at 1 false)) := by
  cases l with
  | nil => exact hasH_at h 1 false
  | cons b l => exact (hasH_at h 1 false).app _
theorem args_reads {c : Tok} (hc1 : cl false c = none) (hc2 : ¬ tS [44] = c) (hc3 : fT c = false) (rest : List Tok) (l : List V) (h : ∀ u ∈ l, Pv u ∧ isE u = true) :
    To (.args c) (TS (commas (l.map fun u => u.o.at 1 false)) ++ c :: rest) (l, rest) := by
  cases l with
  | nil => exact to_args0 c rest
  | cons a l =>
    obtain ⟨q, h1, h2⟩ := row_reads hc1 hc2 rest l a fun u hu => ⟨(h u hu).1.e, (h u hu).2⟩
    obtain ⟨s, r, e, hs, _⟩ := hasH_row (l := l) ((h a (by simp)).1.h (h a (by simp)).2)
    rw [e] at h1 ⊢
    exact to_args (fT_ne hs hc3) h1 h2
theorem prop_shape {p : V} (h : p.ok = true) (hk : p.k = 9) : ∃ u, isE u = true ∧ u ∈ p.l ∧ p = .mk 9 ⟨#[]⟩ 0 ⟨(bl p.s).toArray⟩ [] [u] ∧ p.s.size % 2 = 0 ∧ ∀ no, p.o.raw no = quo p.s :: ⟨#[58]⟩ :: u.o.at 1 false := by
  obtain ⟨R, _⟩ := ok_right h
  obtain ⟨u, hl, hu⟩ := are1.1 ((kids_9 hk).symm.trans R.kids)
  refine ⟨u, hu, by rw [hl]; simp, ?_, of_decide_eq_true ((tx_9 hk).symm.trans R.tx), fun no => by rw [o_raw, hk, hl]; rfl⟩
  conv => lhs; rw [v_eta p, R.n0 (by omega), R.ks0 (by omega), hk, hl, ba_nil (of_decide_eq_true ((nm_9 hk).symm.trans R.nm))]
theorem props_read (rest : List Tok) : ∀ (l : List V) (a : V), (∀ u ∈ a :: l, u.ok = true ∧ u.k = 9 ∧ ∀ w ∈ u.l, PE w) →
    To .props (TS (commas ((a :: l).map fun u => u.o.raw false)) ++ tS [125] :: rest) (a :: l, rest) ∧ To .moreP (tS [44] :: (TS (commas ((a :: l).map fun u => u.o.raw false)) ++ tS [125] :: rest)) (a :: l, rest)
  | [], a, h => by
    obtain ⟨h1, h2, h3⟩ := h a (by simp)
    obtain ⟨u, hu, hm, e1, e2, e3⟩ := prop_shape h1 h2
    have hr := right_reads (rest := tS [125] :: rest) (h3 u hm) hu (k := 1) (no := false) (.inr (Nat.le_refl _)) (stop_none rfl)
    simp only [List.map_cons, List.map_nil, commas, e3, List.cons_append]
    rw [tk_quo e2, k58]
    generalize a.s = s at *
    subst e1
    exact ⟨to_props hr (to_moreP0 rest), to_moreP hr (to_moreP0 rest)⟩
  | b :: l, a, h => by
    obtain ⟨h1, h2, h3⟩ := h a (by simp)
    obtain ⟨u, hu, hm, e1, e2, e3⟩ := prop_shape h1 h2
    obtain ⟨_, ih⟩ := props_read rest l b fun u hu => h u (List.mem_cons_of_mem _ hu)
    have hr := right_reads (rest := tS [44] :: (TS (commas ((b :: l).map fun u => u.o.raw false)) ++ tS [125] :: rest)) (h3 u hm) hu (k := 1) (no := false) (.inr (Nat.le_refl _)) (stop_lt (x := (7, 0)) rfl (by decide))
    have ee : TS (commas ((a :: b :: l).map fun u => u.o.raw false)) ++ tS [125] :: rest = tX (bl a.s) :: tS [58] :: (TS (u.o.at 1 false) ++ tS [44] :: (TS (commas ((b :: l).map fun u => u.o.raw false)) ++ tS [125] :: rest)) := by
      simp only [List.map_cons, commas, e3, ts_app, List.append_assoc, List.cons_append]
      rw [tk_quo e2, k58, k44]
    rw [ee]
    generalize a.s = s at *
    generalize b :: l = m at *
    subst e1
    exact ⟨to_props hr ih, to_moreP hr ih⟩
theorem pars_read (rest : List Tok) : ∀ (l : List ByteArray) (a : ByteArray), (∀ u ∈ a :: l, isNm u = true) →
    To .pars (TS (commas ((a :: l).map fun k => [k])) ++ tS [41] :: rest) ((a :: l).map (fun k => nam 3 (bl k) []), rest) ∧ To .moreN (tS [44] :: (TS (commas ((a :: l).map fun k => [k])) ++ tS [41] :: rest)) ((a :: l).map (fun k => nam 3 (bl k) []), rest)
  | [], a, h => by
    have ha : tk a = tI (bl a) := tk_name (h a (by simp))
    simp only [List.map_cons, List.map_nil, commas, List.cons_append, List.nil_append]
    rw [ha]
    exact ⟨to_pars (to_moreN0 rest), to_moreN (to_moreN0 rest)⟩
  | b :: l, a, h => by
    have ha : tk a = tI (bl a) := tk_name (h a (by simp))
    obtain ⟨_, ih⟩ := pars_read rest l b fun u hu => h u (List.mem_cons_of_mem _ hu)
    have ee : TS (commas ((a :: b :: l).map fun k => [k])) ++ tS [41] :: rest = tI (bl a) :: tS [44] :: (TS (commas ((b :: l).map fun k => [k])) ++ tS [41] :: rest) := by
      simp only [List.map_cons, commas, List.cons_append, List.nil_append]
      rw [ha, k44]
    rw [ee, List.map_cons]
    exact ⟨to_pars ih, to_moreN ih⟩
theorem pars_all (ks : List ByteArray) (h : ∀ u ∈ ks, isNm u = true) (rest : List Tok) : To .pars (TS (commas (ks.map fun k => [k])) ++ tS [41] :: rest) (ks.map (fun k => nam 3 (bl k) []), rest) := by
  cases ks with
  | nil => exact to_pars0 rest
  | cons a l => exact (pars_read rest l a h).1
theorem names_back (ks : List ByteArray) : (ks.map fun k => nam 3 (bl k) []).map V.nm = ks := by
  induction ks with
  | nil => rfl
  | cons a l ih =>
    rw [List.map_cons, List.map_cons, ih]
    congr 1
/-! statements in a row -/
theorem endS_of {s : ByteArray} {r : List Tok} (h : sT (tk s) = true) : EndS (tk s :: r) := fun t q e => by
  injection e with e1 _
  subst e1
  rintro (e | e | e)
  · exact sT_ne h (by decide) e
  · exact sT_ne h (by decide) e
  · exact sT_ne h (by decide) e
theorem sts_reads (rest : List Tok) (h0 : To .sts rest ([], rest)) (he : EndS rest) : ∀ l : List V, (∀ u ∈ l, Pv u ∧ isSt u = true) → To .sts (TS (stmts (l.map V.o)) ++ rest) (l, rest) ∧ EndS (TS (stmts (l.map V.o)) ++ rest)
  | [], _ => ⟨h0, he⟩
  | a :: l, h => by
    obtain ⟨h1, h2⟩ := sts_reads rest h0 he l fun u hu => h u (List.mem_cons_of_mem _ hu)
    obtain ⟨ha, has⟩ := h a (by simp)
    obtain ⟨s, r, e, hs⟩ := ha.sh has
    have hst := ha.s has (TS (stmts (l.map V.o)) ++ rest) (.inr h2)
    have ee : TS (stmts ((a :: l).map V.o)) ++ rest = TS a.o.st ++ (TS (stmts (l.map V.o)) ++ rest) := by
      rw [List.map_cons]
      show TS (a.o.st ++ stmts (l.map V.o)) ++ rest = _
      rw [ts_app, List.append_assoc]
    rw [ee, e] at *
    refine ⟨to_sts ?_ hst h1, endS_of hs⟩
    rintro (e | e | e)
    · exact sT_ne hs (by decide) e
    · exact sT_ne hs (by decide) e
    · exact sT_ne hs (by decide) e
theorem endS_lit {t : Tok} {r : List Tok} (h : ¬ bad t) : EndS (t :: r) := fun _ _ e => by
  injection e with e1 _
  subst e1
  exact h
theorem block_reads (rest : List Tok) (l : List V) (h : ∀ u ∈ l, Pv u ∧ isSt u = true) : To .sts (TS (stmts (l.map V.o)) ++ tS [125] :: rest) (l, tS [125] :: rest) :=
  (sts_reads (tS [125] :: rest) (to_sts0 (.inl rfl)) (endS_lit (by unfold bad; decide)) l h).1
theorem fn_reads (k : Int) (nm : ByteArray) (ks : List ByteArray) (l : List V) (hn : nm.size = 0 ∨ isNm nm = true) (hks : ∀ u ∈ ks, isNm u = true) (h : ∀ u ∈ l, Pv u ∧ isSt u = true) (rest : List Tok) :
    ∃ q, TS (func nm ks (l.map V.o)) ++ rest = tW wFn :: q ∧ To (.fn k) q ([.mk k nm 0 ⟨#[]⟩ ks l], rest) := by
  have hb := block_reads rest l h
  have hp := pars_all ks hks (tS [123] :: (TS (stmts (l.map V.o)) ++ tS [125] :: rest))
  rcases Nat.eq_zero_or_pos nm.size with h0 | h0
  · have hq := to_fn0 (k := k) hp hb
    rw [names_back] at hq
    rw [ba_nil h0]
    refine ⟨_, ?_, hq⟩
    unfold func some1 block brack
    rw [if_pos (show (⟨#[]⟩ : ByteArray).size = 0 from rfl)]
    simp only [ts_app, List.map_cons, List.map_nil, List.cons_append, List.append_assoc, List.nil_append]
    rw [kFn, k40, k41, k123, k125]
  · have hnm : isNm nm = true := by
      rcases hn with hn | hn
      · omega
      · exact hn
    have hq := to_fn (k := k) (nm := bl nm) hp hb
    rw [names_back, ba_eta] at hq
    refine ⟨_, ?_, hq⟩
    unfold func some1 block brack
    rw [if_neg (by omega)]
    simp only [ts_app, List.map_cons, List.map_nil, List.cons_append, List.append_assoc, List.nil_append]
    rw [kFn, k40, k41, k123, k125, show tk nm = tI (bl nm) from tk_name hnm]
end Go.Proofs.YtllpgoaanbiodaaGreatDoor.R.Ps
namespace Go.Proofs.YtllpgoaanbiodaaGreatDoor.R.Ps
open Go.RowKit Go.Proofs.YtllpgoaanbiodaaGreatDoor Go.Proofs.YtllpgoaanbiodaaGreatDoor.T Go.Proofs.YtllpgoaanbiodaaGreatDoor.R

theorem nil_of {l : List V} {b : Bool} (h : b = l.isEmpty) (hb : b = true) : l = [] := by
  rw [h] at hb
  simpa using hb
theorem rt_leaf {v : V} (R : Rt v) {k : Int} (hk : v.k = k) (h0 : nmOk (ctch v) v = decide (v.nm.size = 0)) (hkd : kids v = v.l.isEmpty) (h1 : ¬ (k = 1 ∨ k = 6 ∨ k = 16)) (h2 : ¬ (k = 2 ∨ k = 9)) (h3 : ¬ (k = 10 ∨ k = 39)) : v = nd k [] := by
  have := R.nd hk (of_decide_eq_true (h0.symm.trans R.nm)) h1 h2 h3
  rw [nil_of hkd R.kids] at this
  exact this
theorem pe_1 {v : V} (R : Rt v) (hk : v.k = 1) : PE v := by
  intro _ m no rest x _ _ _ hx
  have hl := nil_of (kids_1 hk) R.kids
  have hn := of_decide_eq_true ((num_1 hk).symm.trans R.num)
  have hv : v = .mk 1 ⟨#[]⟩ (v.n.toNat : Nat) ⟨#[]⟩ [] [] := by
    conv => lhs; rw [v_eta v, R.s0 (by omega), R.ks0 (by omega), hk, hl, ba_nil (of_decide_eq_true ((nm_1 hk).symm.trans R.nm))]
    rw [Int.toNat_of_nonneg hn.1]
  have e : v.o.raw no = [dec v.n] := by rw [o_raw, hk]; rfl
  rw [e]
  simp only [List.map_cons, List.map_nil, List.cons_append, List.nil_append]
  rw [tk_dec hn.1 hn.2]
  exact to_ex (to_num no v.n.toNat rest) (by rw [<- hv]; exact hx)
theorem pe_2 {v : V} (R : Rt v) (hk : v.k = 2) : PE v := by
  intro _ m no rest x _ _ _ hx
  have hl := nil_of (kids_2 hk) R.kids
  have hn := of_decide_eq_true ((tx_2 hk).symm.trans R.tx)
  have hv : v = .mk 2 ⟨#[]⟩ 0 ⟨(bl v.s).toArray⟩ [] [] := by
    conv => lhs; rw [v_eta v, R.n0 (by omega), R.ks0 (by omega), hk, hl, ba_nil (of_decide_eq_true ((nm_2 hk).symm.trans R.nm))]
  have e : v.o.raw no = [quo v.s] := by rw [o_raw, hk]; rfl
  rw [e]
  simp only [List.map_cons, List.map_nil, List.cons_append, List.nil_append]
  rw [tk_quo hn]
  exact to_ex (to_text no (bl v.s) rest) (by rw [<- hv]; exact hx)
theorem pe_3 {v : V} (R : Rt v) (hk : v.k = 3) : PE v := by
  intro _ m no rest x _ _ _ hx
  have hl := nil_of (kids_3 hk) R.kids
  have hnm : isNm v.nm = true := (nm_3 hk).symm.trans R.nm
  have hv := R.nam hk (by decide) (by decide) (by decide)
  rw [hl] at hv
  have e : v.o.raw no = [v.nm] := by rw [o_raw, hk]; rfl
  rw [e]
  simp only [List.map_cons, List.map_nil, List.cons_append, List.nil_append]
  rw [show tk v.nm = _ from tk_name hnm]
  exact to_ex (to_name no (bl v.nm) rest) (by rw [<- hv]; exact hx)
theorem pe_4 {v : V} (R : Rt v) (hk : v.k = 4) : PE v := by
  intro _ m no rest x _ _ _ hx
  have hv := rt_leaf R hk (nm_4 hk) (kids_4 hk) (by decide) (by decide) (by decide)
  have e : v.o.raw no = [⟨#[116, 104, 105, 115]⟩] := by rw [o_raw, hk]; rfl
  rw [e]
  simp only [List.map_cons, List.map_nil, List.cons_append, List.nil_append]
  rw [kThis]
  exact to_ex (to_this no rest) (by rw [<- hv]; exact hx)
theorem pe_5 {v : V} (R : Rt v) (hk : v.k = 5) : PE v := by
  intro _ m no rest x _ _ _ hx
  have hv := rt_leaf R hk (nm_5 hk) (kids_5 hk) (by decide) (by decide) (by decide)
  have e : v.o.raw no = [⟨#[110, 117, 108, 108]⟩] := by rw [o_raw, hk]; rfl
  rw [e]
  simp only [List.map_cons, List.map_nil, List.cons_append, List.nil_append]
  rw [kNull]
  exact to_ex (to_null no rest) (by rw [<- hv]; exact hx)
theorem pe_6 {v : V} (R : Rt v) (hk : v.k = 6) : PE v := by
  intro _ m no rest x _ _ _ hx
  have hl := nil_of (kids_6 hk) R.kids
  have hn := of_decide_eq_true ((num_6 hk).symm.trans R.num)
  have hv : v = .mk 6 ⟨#[]⟩ v.n ⟨#[]⟩ [] [] := by
    conv => lhs; rw [v_eta v, R.s0 (by omega), R.ks0 (by omega), hk, hl, ba_nil (of_decide_eq_true ((nm_6 hk).symm.trans R.nm))]
  have e : v.o.raw no = [if v.n = 0 then ⟨#[102, 97, 108, 115, 101]⟩ else ⟨#[116, 114, 117, 101]⟩] := by rw [o_raw, hk]; rfl
  rw [e]
  simp only [List.map_cons, List.map_nil, List.cons_append, List.nil_append]
  rcases hn with hn | hn
  · rw [if_pos hn, kFalse]
    rw [hn] at hv
    exact to_ex (to_false no rest) (by rw [show nd 6 [] = _ from hv.symm]; exact hx)
  · rw [if_neg (by omega), kTrue]
    rw [hn] at hv
    exact to_ex (to_true no rest) (by rw [<- hv]; exact hx)
theorem all_of {p : V → Bool} {l : List V} {b : Bool} (h : b = l.all p) (hb : b = true) : ∀ u ∈ l, p u = true := by
  rw [h] at hb
  exact List.all_eq_true.1 hb
theorem pe_7 {v : V} (R : Rt v) (hk : v.k = 7) (K : ∀ u ∈ v.l, Pv u) : PE v := by
  intro _ m no rest x _ _ _ hx
  have ha := all_of (kids_7 hk) R.kids
  have hv := R.nd hk (of_decide_eq_true ((nm_7 hk).symm.trans R.nm)) (by decide) (by decide) (by decide)
  have e : v.o.raw no = brack ⟨#[91]⟩ ⟨#[93]⟩ (commas (v.l.map fun u => u.o.at 1 false)) := by
    rw [o_raw, hk]
    show brack _ _ (commas ((v.l.map V.o).map fun o => o.at 1 false)) = _
    rw [List.map_map]
    rfl
  rw [e]
  have hr := args_reads (c := tS [93]) rfl (by decide) (by decide) rest v.l fun u hu => ⟨K u hu, ha u hu⟩
  simp only [List.map_cons, List.map_nil, List.map_append, List.cons_append, List.append_assoc, List.nil_append]
  rw [k91, k93]
  exact to_ex (to_array hr) (by rw [<- hv]; exact hx)
theorem pe_8 {v : V} (R : Rt v) (hk : v.k = 8) (hok : ∀ u ∈ v.l, u.ok = true) (K : ∀ u ∈ v.l, ∀ w ∈ u.l, Pv w) : PE v := by
  intro _ m no rest x _ _ _ hx
  have ha := all_of (kids_8 hk) R.kids
  have hv := R.nd hk (of_decide_eq_true ((nm_8 hk).symm.trans R.nm)) (by decide) (by decide) (by decide)
  have e : v.o.raw no = brack ⟨#[123]⟩ ⟨#[125]⟩ (commas (v.l.map fun u => u.o.raw false)) := by
    rw [o_raw, hk]
    show brack _ _ (commas ((v.l.map V.o).map fun o => o.raw false)) = _
    rw [List.map_map]
    rfl
  rw [e]
  have hr : To .props (TS (commas (v.l.map fun u => u.o.raw false)) ++ tS [125] :: rest) (v.l, rest) := by
    cases hl : v.l with
    | nil => exact to_props0 rest
    | cons a l =>
      refine (props_read rest l a fun u hu => ?_).1
      rw [<- hl] at hu
      exact ⟨hok u hu, of_decide_eq_true (ha u hu), fun w hw => (K u hu w hw).e⟩
  simp only [List.map_cons, List.map_nil, List.map_append, List.cons_append, List.append_assoc, List.nil_append]
  rw [k123, k125]
  exact to_ex (to_object hr) (by rw [<- hv]; exact hx)
theorem fn_shape {v : V} (R : Rt v) (hk : v.k = 10 ∨ v.k = 39) : v = .mk v.k v.nm 0 ⟨#[]⟩ v.ks v.l ∧ (v.nm.size = 0 ∨ isNm v.nm = true) ∧ (∀ u ∈ v.ks, isNm u = true) ∧ (∀ u ∈ v.l, isSt u = true) := by
  refine ⟨?_, ?_, ?_, ?_⟩
  · conv => lhs; rw [v_eta v, R.n0 (by omega), R.s0 (by omega)]
  · rcases hk with hk | hk
    · have := (nm_10 hk).symm.trans R.nm
      rw [Bool.or_eq_true, decide_eq_true_eq] at this
      exact this
    · exact .inr ((nm_39 hk).symm.trans R.nm)
  · rcases hk with hk | hk
    · exact List.all_eq_true.1 ((ns_10 hk).symm.trans R.ns)
    · exact List.all_eq_true.1 ((ns_39 hk).symm.trans R.ns)
  · rcases hk with hk | hk
    · exact all_of (kids_10 hk) R.kids
    · exact all_of (kids_39 hk) R.kids
theorem pe_10 {v : V} (R : Rt v) (hk : v.k = 10) (K : ∀ u ∈ v.l, Pv u) : PE v := by
  intro _ m no rest x _ _ _ hx
  obtain ⟨hv, h1, h2, h3⟩ := fn_shape R (.inl hk)
  have e : v.o.raw no = func v.nm v.ks (v.l.map V.o) := by rw [o_raw, hk]; rfl
  obtain ⟨q, e2, hq⟩ := fn_reads 10 v.nm v.ks v.l h1 h2 (fun u hu => ⟨K u hu, h3 u hu⟩) rest
  rw [e, e2]
  rw [hk] at hv
  exact to_ex (to_fnE hq) (by rw [<- hv]; exact hx)
theorem pe_11 {v : V} (R : Rt v) (hk : v.k = 11) (K : ∀ u ∈ v.l, Pv u) : PE v := by
  intro _ m no rest x _ hm hs hx
  obtain ⟨a, hl, ha⟩ := are1.1 ((kids_11 hk).symm.trans R.kids)
  have hv := R.nam hk (by decide) (by decide) (by decide)
  rw [hl] at hv
  have hnm : isI (bl v.nm) = true := (nm_11 hk).symm.trans R.nm
  have hlv : v.o.lvl = if 12 ≤ a.o.lvl then 12 else 11 := by rw [o_lvl, hk, hl]; rfl
  have e : v.o.raw no = a.o.at 11 no ++ [⟨#[46]⟩, v.nm] := by rw [o_raw, hk, hl]; rfl
  have ra := lvl_rm a
  rw [e]
  simp only [List.map_cons, List.map_nil, List.map_append, List.cons_append, List.append_assoc, List.nil_append]
  rw [k46]
  refine at_reads (K a (by rw [hl]; simp)).e ha (fun _ => by split at hlv <;> omega) (fun h => stop_lt (x := (1, 13)) rfl (by show 13 < rm a; omega)) (to_dot (by have := lvl_le v; omega) (tk_ident hnm).1 ?_)
  rw [(tk_ident hnm).2, <- hv]
  exact hx
theorem pe_12 {v : V} (R : Rt v) (hk : v.k = 12) (K : ∀ u ∈ v.l, Pv u) : PE v := by
  intro _ m no rest x _ hm hs hx
  obtain ⟨a, b, hl, ha, hb⟩ := are2.1 ((kids_12 hk).symm.trans R.kids)
  have hv := R.nd hk (of_decide_eq_true ((nm_12 hk).symm.trans R.nm)) (by decide) (by decide) (by decide)
  rw [hl] at hv
  have hlv : v.o.lvl = if 12 ≤ a.o.lvl then 12 else 11 := by rw [o_lvl, hk, hl]; rfl
  have e : v.o.raw no = a.o.at 11 no ++ brack ⟨#[91]⟩ ⟨#[93]⟩ (b.o.at 0 false) := by rw [o_raw, hk, hl]; rfl
  have ra := lvl_rm a
  rw [e]
  simp only [List.map_cons, List.map_nil, List.map_append, List.cons_append, List.append_assoc, List.nil_append]
  rw [k91, k93]
  refine at_reads (K a (by rw [hl]; simp)).e ha (fun _ => by split at hlv <;> omega) (fun h => stop_lt (x := (2, 13)) rfl (by show 13 < rm a; omega)) (to_idx (by have := lvl_le v; omega) (right_reads (K b (by rw [hl]; simp)).e hb (.inr (Nat.zero_le _)) (stop_none rfl)) ?_)
  rw [<- hv]
  exact hx
theorem ne_kids {l : List V} {b : Bool} {p : V → Bool} (h : b = (!l.isEmpty && l.all p)) (hb : b = true) : ∃ a r, l = a :: r ∧ p a = true ∧ ∀ u ∈ r, p u = true := by
  rw [h, Bool.and_eq_true] at hb
  cases l with
  | nil => exact absurd hb.1 (by decide)
  | cons a r =>
    have := List.all_eq_true.1 hb.2
    exact ⟨a, r, rfl, this a (by simp), fun u hu => this u (by simp [hu])⟩
theorem pe_13 {v : V} (R : Rt v) (hk : v.k = 13) (K : ∀ u ∈ v.l, Pv u) : PE v := by
  intro _ m no rest x _ hm hs hx
  obtain ⟨a, l, hl, ha, hb⟩ := ne_kids (kids_13 hk) R.kids
  have hv := R.nd hk (of_decide_eq_true ((nm_13 hk).symm.trans R.nm)) (by decide) (by decide) (by decide)
  rw [hl] at hv
  have hlv : v.o.lvl = 11 := by rw [o_lvl, hk]; rfl
  have e : v.o.raw no = a.o.at 11 no ++ brack ⟨#[40]⟩ ⟨#[41]⟩ (commas (l.map fun u => u.o.at 1 false)) := by
    rw [o_raw, hk, hl]
    show a.o.at 11 no ++ brack _ _ (commas ((l.map V.o).map fun o => o.at 1 false)) = _
    rw [List.map_map]
    rfl
  have ra := lvl_rm a
  have hr := args_reads (c := tS [41]) rfl (by decide) (by decide) rest l fun u hu => ⟨K u (by rw [hl]; simp [hu]), hb u hu⟩
  rw [e]
  simp only [List.map_cons, List.map_nil, List.map_append, List.cons_append, List.append_assoc, List.nil_append]
  rw [k40, k41]
  refine at_reads (K a (by rw [hl]; simp)).e ha (fun _ => by omega) (fun h => stop_lt (x := (3, 11)) rfl (by show 11 < rm a; omega)) (to_call (by omega) hr ?_)
  rw [<- hv]
  exact hx
theorem pe_14 {v : V} (R : Rt v) (hk : v.k = 14) (K : ∀ u ∈ v.l, Pv u) : PE v := by
  intro _ m no rest x _ hm hs hx
  obtain ⟨a, l, hl, ha, hb⟩ := ne_kids (kids_14 hk) R.kids
  have hv := R.nd hk (of_decide_eq_true ((nm_14 hk).symm.trans R.nm)) (by decide) (by decide) (by decide)
  rw [hl] at hv
  have e : v.o.raw no = ⟨#[110, 101, 119]⟩ :: (a.o.at 12 no ++ brack ⟨#[40]⟩ ⟨#[41]⟩ (commas (l.map fun u => u.o.at 1 false))) := by
    rw [o_raw, hk, hl]
    show _ :: (a.o.at 12 no ++ brack _ _ (commas ((l.map V.o).map fun o => o.at 1 false))) = _
    rw [List.map_map]
    rfl
  have hr := args_reads (c := tS [41]) rfl (by decide) (by decide) rest l fun u hu => ⟨K u (by rw [hl]; simp [hu]), hb u hu⟩
  rw [e]
  simp only [List.map_cons, List.map_nil, List.map_append, List.cons_append, List.append_assoc, List.nil_append]
  rw [k40, k41, kNew]
  refine to_ex (to_new (right_reads (K a (by rw [hl]; simp)).e ha (.inl (by decide)) (stop_lt (x := (3, 11)) rfl (by decide))) hr) ?_
  rw [<- hv]
  exact hx
theorem op_mem {k : Int} {l : List Bs} {s : Bs} (hk : ops k = l) (h : opOk k s = true) : s ∈ l := by
  unfold opOk at h
  rw [hk] at h
  exact List.contains_iff_mem.1 h
theorem pe_15 {v : V} (R : Rt v) (hk : v.k = 15) (K : ∀ u ∈ v.l, Pv u) : PE v := by
  intro _ m no rest x _ hm hs hx
  obtain ⟨a, hl, ha⟩ := are1.1 ((kids_15 hk).symm.trans R.kids)
  have hv := R.nam hk (by decide) (by decide) (by decide)
  rw [hl] at hv
  have hop : opOk 15 (bl v.nm) = true := (nm_15 hk).symm.trans R.nm
  have hr : rm v = 9 := by unfold rm; rw [hk]; rfl
  have e : v.o.raw no = v.nm :: a.o.at 9 no := by rw [o_raw, hk, hl]; rfl
  rw [e]
  simp only [List.map_cons, List.cons_append]
  rw [show tk v.nm = _ from tk_ops 15 hop]
  rw [hr] at hs
  refine to_ex (to_unary (op_mem rfl hop) (right_reads (K a (by rw [hl]; simp)).e ha (.inl (by decide)) hs)) ?_
  rw [<- hv]
  exact hx
theorem upT {s : Bs} (h : s ∈ upOps) : (s = [43, 43] ∨ s = [45, 45]) ∧ opT s = tS s := by
  have h : s = [43, 43] ∨ s = [45, 45] := by simpa [upOps] using h
  refine ⟨h, ?_⟩
  rcases h with rfl | rfl <;> rfl
theorem isTg_E {v : V} (h : isTg v = true) : isE v = true := by
  have := of_decide_eq_true h
  exact decide_eq_true (by omega)
theorem pe_16 {v : V} (R : Rt v) (hk : v.k = 16) (K : ∀ u ∈ v.l, Pv u) : PE v := by
  intro _ m no rest x _ hm hs hx
  obtain ⟨a, hl, ha⟩ := are1.1 ((kids_16 hk).symm.trans R.kids)
  have ha := isTg_E ha
  have hn := of_decide_eq_true ((num_16 hk).symm.trans R.num)
  have hop : opOk 16 (bl v.nm) = true := (nm_16 hk).symm.trans R.nm
  obtain ⟨h1, h2⟩ := upT (op_mem rfl hop)
  have hv : v = .mk 16 ⟨(bl v.nm).toArray⟩ v.n ⟨#[]⟩ [] [a] := by
    conv => lhs; rw [v_eta v, R.s0 (by omega), R.ks0 (by omega), hk, hl]
  have hlv : v.o.lvl = if v.n = 1 then 9 else 10 := by rw [o_lvl, hk]; rfl
  have e : v.o.raw no = if v.n = 1 then v.nm :: a.o.at 11 no else a.o.at 11 no ++ [v.nm] := by rw [o_raw, hk, hl]; rfl
  have ra := lvl_rm a
  rw [e]
  rcases hn with hn | hn
  · rw [if_neg (by omega)]
    rw [if_neg (by omega)] at hlv
    rw [hn] at hv
    simp only [List.map_cons, List.map_nil, List.map_append, List.cons_append, List.append_assoc, List.nil_append]
    rw [show tk v.nm = _ from tk_ops 16 hop, h2]
    refine at_reads (K a (by rw [hl]; simp)).e ha (fun _ => by omega) (fun h => stop_lt (x := (4, 10)) (by rcases h1 with h1 | h1 <;> rw [h1] <;> rfl) (by show 10 < rm a; omega)) (to_behind (by omega) h1 ?_)
    rw [show nam 16 (bl v.nm) [a] = _ from hv.symm]
    exact hx
  · rw [if_pos hn]
    have hr : rm v = 11 := by unfold rm; rw [hk, hn]; rfl
    rw [hr] at hs
    rw [hn] at hv
    simp only [List.map_cons, List.cons_append]
    rw [show tk v.nm = _ from tk_ops 16 hop, h2]
    refine to_ex (to_ahead h1 (right_reads (K a (by rw [hl]; simp)).e ha (.inl (by decide)) hs)) ?_
    rw [<- hv]
    exact hx
theorem bi_lt {s : Bs} (h : s ∈ biOps) : 3 ≤ opl s ∧ opl s ≤ 8 := by
  have : ∀ s ∈ biOps, 3 ≤ opl s ∧ opl s ≤ 8 := by decide +kernel
  exact this s h
theorem pe_17 {v : V} (R : Rt v) (hk : v.k = 17) (K : ∀ u ∈ v.l, Pv u) : PE v := by
  intro _ m no rest x hc hm hs hx
  obtain ⟨a, b, hl, ha, hb⟩ := are2.1 ((kids_17 hk).symm.trans R.kids)
  have hv := R.nam hk (by decide) (by decide) (by decide)
  rw [hl] at hv
  have hop : opOk 17 (bl v.nm) = true := (nm_17 hk).symm.trans R.nm
  have hmem : bl v.nm ∈ biOps := op_mem rfl hop
  have hb8 := bi_lt hmem
  have hr : rm v = opl (bl v.nm) + 1 := by unfold rm; rw [hk]; rfl
  have hlv : v.o.lvl = opl (bl v.nm) := by rw [o_lvl, hk]; rfl
  have e : v.o.raw no = a.o.at (opl (bl v.nm)) no ++ v.nm :: b.o.at (opl (bl v.nm) + 1) no := by rw [o_raw, hk, hl]; rfl
  have ra := lvl_rm a
  have hin : ¬ (no = true ∧ bl v.nm = wIn) := fun h => hc ⟨h.1, hk, h.2⟩
  have hcl : cl no (opT (bl v.nm)) = some (8, opl (bl v.nm)) := by
    rcases cl_bin no _ hmem with h | h
    · exact absurd h hin
    · exact h.1
  rw [e]
  simp only [List.map_cons, List.map_append, List.cons_append, List.append_assoc]
  rw [show tk v.nm = _ from tk_ops 17 hop]
  rw [hr] at hs
  refine at_reads (K a (by rw [hl]; simp)).e ha (fun _ => by omega) (fun h => stop_lt hcl (by show opl _ < rm a; omega)) (to_bin (by omega) hmem hin (right_reads (K b (by rw [hl]; simp)).e hb (.inl (by omega)) hs) ?_)
  rw [<- hv]
  exact hx
theorem pe_18 {v : V} (R : Rt v) (hk : v.k = 18) (K : ∀ u ∈ v.l, Pv u) : PE v := by
  intro _ m no rest x hc hm hs hx
  obtain ⟨a, b, hl, ha, hb⟩ := are2.1 ((kids_18 hk).symm.trans R.kids)
  have hv := R.nam hk (by decide) (by decide) (by decide)
  rw [hl] at hv
  have hop : opOk 18 (bl v.nm) = true := (nm_18 hk).symm.trans R.nm
  have hmem : bl v.nm ∈ loOps := op_mem rfl hop
  obtain ⟨hcl, _, hb4, hb3⟩ := cl_log no _ hmem
  have hr : rm v = opl (bl v.nm) + 1 := by unfold rm; rw [hk]; rfl
  have hlv : v.o.lvl = opl (bl v.nm) := by rw [o_lvl, hk]; rfl
  have e : v.o.raw no = a.o.at (opl (bl v.nm)) no ++ v.nm :: b.o.at (opl (bl v.nm) + 1) no := by rw [o_raw, hk, hl]; rfl
  have ra := lvl_rm a
  rw [e]
  simp only [List.map_cons, List.map_append, List.cons_append, List.append_assoc]
  rw [show tk v.nm = _ from tk_ops 18 hop]
  rw [hr] at hs
  refine at_reads (K a (by rw [hl]; simp)).e ha (fun _ => by omega) (fun h => stop_lt hcl (by show opl _ < rm a; omega)) (to_log (by omega) hmem (right_reads (K b (by rw [hl]; simp)).e hb (.inl (by omega)) hs) ?_)
  rw [<- hv]
  exact hx
theorem pe_19 {v : V} (R : Rt v) (hk : v.k = 19) (K : ∀ u ∈ v.l, Pv u) : PE v := by
  intro _ m no rest x _ hm hs hx
  obtain ⟨a, b, c, hl, ha, hb, hc⟩ := are3.1 ((kids_19 hk).symm.trans R.kids)
  have hv := R.nd hk (of_decide_eq_true ((nm_19 hk).symm.trans R.nm)) (by decide) (by decide) (by decide)
  rw [hl] at hv
  have hr : rm v = 1 := by unfold rm; rw [hk]; rfl
  have hlv : v.o.lvl = 2 := by rw [o_lvl, hk]; rfl
  have e : v.o.raw no = a.o.at 3 no ++ (brack ⟨#[63]⟩ ⟨#[58]⟩ (b.o.at 1 false) ++ c.o.at 1 no) := by rw [o_raw, hk, hl]; rfl
  have ra := lvl_rm a
  rw [e]
  simp only [List.map_cons, List.map_append, List.cons_append, List.append_assoc, List.nil_append]
  rw [k63, k58]
  rw [hr] at hs
  refine at_reads (K a (by rw [hl]; simp)).e ha (fun _ => by omega) (fun h => stop_lt (x := (5, 2)) rfl (by show 2 < rm a; omega))
    (to_cond (by omega) (right_reads (K b (by rw [hl]; simp)).e hb (.inr (Nat.le_refl _)) (stop_none rfl)) (right_reads (K c (by rw [hl]; simp)).e hc (.inr (Nat.le_refl _)) hs) ?_)
  rw [<- hv]
  exact hx
theorem pe_20 {v : V} (R : Rt v) (hk : v.k = 20) (K : ∀ u ∈ v.l, Pv u) : PE v := by
  intro _ m no rest x _ hm hs hx
  obtain ⟨a, b, hl, ha, hb⟩ := are2.1 ((kids_20 hk).symm.trans R.kids)
  have ha := isTg_E ha
  have hv := R.nam hk (by decide) (by decide) (by decide)
  rw [hl] at hv
  have hop : opOk 20 (bl v.nm) = true := (nm_20 hk).symm.trans R.nm
  have hmem : bl v.nm ∈ asOps := op_mem rfl hop
  have hcl : cl no (opT (bl v.nm)) = some (6, 1) := by
    have : ∀ no, ∀ s ∈ asOps, cl no (opT s) = some (6, 1) := by decide +kernel
    exact this no _ hmem
  have hr : rm v = 1 := by unfold rm; rw [hk]; rfl
  have hlv : v.o.lvl = 1 := by rw [o_lvl, hk]; rfl
  have e : v.o.raw no = a.o.at 11 no ++ v.nm :: b.o.at 1 no := by rw [o_raw, hk, hl]; rfl
  have ra := lvl_rm a
  rw [e]
  simp only [List.map_cons, List.map_append, List.cons_append, List.append_assoc]
  rw [show tk v.nm = _ from tk_ops 20 hop]
  rw [hr] at hs
  refine at_reads (K a (by rw [hl]; simp)).e ha (fun _ => by omega) (fun h => stop_lt hcl (by show 1 < rm a; omega)) (to_asg (by omega) hmem (right_reads (K b (by rw [hl]; simp)).e hb (.inr (Nat.le_refl _)) hs) ?_)
  rw [<- hv]
  exact hx
theorem pe_21 {v : V} (R : Rt v) (hk : v.k = 21) (K : ∀ u ∈ v.l, Pv u) : PE v := by
  intro _ m no rest x _ hm hs hx
  obtain ⟨a, b, hl, ha, hb⟩ := are2.1 ((kids_21 hk).symm.trans R.kids)
  have hv := R.nd hk (of_decide_eq_true ((nm_21 hk).symm.trans R.nm)) (by decide) (by decide) (by decide)
  rw [hl] at hv
  have hr : rm v = 1 := by unfold rm; rw [hk]; rfl
  have hlv : v.o.lvl = 0 := by rw [o_lvl, hk]; rfl
  have e : v.o.raw no = a.o.at 0 no ++ ⟨#[44]⟩ :: b.o.at 1 no := by rw [o_raw, hk, hl]; rfl
  have ra := lvl_rm a
  rw [e]
  simp only [List.map_cons, List.map_append, List.cons_append, List.append_assoc]
  rw [k44]
  rw [hr] at hs
  refine at_reads (K a (by rw [hl]; simp)).e ha (fun _ => by omega) (fun h => stop_lt (x := (7, 0)) rfl (by show 0 < rm a; omega)) (to_comma (by omega) (right_reads (K b (by rw [hl]; simp)).e hb (.inr (Nat.le_refl _)) hs) ?_)
  rw [<- hv]
  exact hx
theorem isE_k {v : V} (h : isE v = true) : v.k = 1 ∨ v.k = 2 ∨ v.k = 3 ∨ v.k = 4 ∨ v.k = 5 ∨ v.k = 6 ∨ v.k = 7 ∨ v.k = 8 ∨ v.k = 10 ∨ v.k = 11 ∨ v.k = 12 ∨ v.k = 13 ∨ v.k = 14 ∨ v.k = 15 ∨ v.k = 16 ∨ v.k = 17 ∨ v.k = 18 ∨ v.k = 19 ∨ v.k = 20 ∨ v.k = 21 := by
  have := of_decide_eq_true h
  omega
theorem pe_all {v : V} (hok : v.ok = true) (K : ∀ u ∈ v.l, Pv u ∧ ∀ w ∈ u.l, Pv w) : PE v := by
  intro he
  obtain ⟨R, ho⟩ := ok_right hok
  have K1 : ∀ u ∈ v.l, Pv u := fun u hu => (K u hu).1
  rcases isE_k he with h | h | h | h | h | h | h | h | h | h | h | h | h | h | h | h | h | h | h | h
  · exact pe_1 R h he
  · exact pe_2 R h he
  · exact pe_3 R h he
  · exact pe_4 R h he
  · exact pe_5 R h he
  · exact pe_6 R h he
  · exact pe_7 R h K1 he
  · exact pe_8 R h ho (fun u hu => (K u hu).2) he
  · exact pe_10 R h K1 he
  · exact pe_11 R h K1 he
  · exact pe_12 R h K1 he
  · exact pe_13 R h K1 he
  · exact pe_14 R h K1 he
  · exact pe_15 R h K1 he
  · exact pe_16 R h K1 he
  · exact pe_17 R h K1 he
  · exact pe_18 R h K1 he
  · exact pe_19 R h K1 he
  · exact pe_20 R h K1 he
  · exact pe_21 R h K1 he
/-! its head -/
theorem ph_all {v : V} (hok : v.ok = true) (K : ∀ u ∈ v.l, Pv u) (he : isE v = true) (no : Bool) : HasH (v.o.raw no) := by
  obtain ⟨R, _⟩ := ok_right hok
  have first : ∀ {p : V → Bool} {a : V}, a ∈ v.l → isE a = true → ∀ m no, HasH (a.o.at m no) := fun ha hea m no => hasH_at ((K _ ha).h hea) m no
  rcases isE_k he with h | h | h | h | h | h | h | h | h | h | h | h | h | h | h | h | h | h | h | h
  · have hn := of_decide_eq_true ((num_1 h).symm.trans R.num)
    rw [show v.o.raw no = [dec v.n] by rw [o_raw, h]; rfl]
    exact hasH_k _ (tk_dec hn.1 hn.2) (fT_kind _ (.inr (.inl rfl))) (by simp) (by simp)
  · rw [show v.o.raw no = [quo v.s] by rw [o_raw, h]; rfl]
    exact hasH_k _ (tk_quo (of_decide_eq_true ((tx_2 h).symm.trans R.tx))) (fT_kind _ (.inr (.inr rfl))) (by simp) (by simp)
  · rw [show v.o.raw no = [v.nm] by rw [o_raw, h]; rfl]
    exact hasH_k _ (show tk v.nm = _ from tk_name ((nm_3 h).symm.trans R.nm)) (fT_kind _ (.inl rfl)) (by simp) (by simp)
  · rw [show v.o.raw no = [⟨#[116, 104, 105, 115]⟩] by rw [o_raw, h]; rfl]
    exact hasH_k _ kThis (by decide) (by decide) (by decide)
  · rw [show v.o.raw no = [⟨#[110, 117, 108, 108]⟩] by rw [o_raw, h]; rfl]
    exact hasH_k _ kNull (by decide) (by decide) (by decide)
  · rw [show v.o.raw no = [if v.n = 0 then ⟨#[102, 97, 108, 115, 101]⟩ else ⟨#[116, 114, 117, 101]⟩] by rw [o_raw, h]; rfl]
    split
    · exact hasH_k _ kFalse (by decide) (by decide) (by decide)
    · exact hasH_k _ kTrue (by decide) (by decide) (by decide)
  · rw [o_raw, h]
    exact hasH_k _ k91 (by decide) (by decide) (by decide)
  · rw [o_raw, h]
    exact ⟨⟨#[123]⟩, _, rfl, by rw [k123]; decide, fun _ => rfl, fun h => by rw [k123] at h; exact absurd h (by decide)⟩
  · rw [o_raw, h]
    exact ⟨⟨#[102, 117, 110, 99, 116, 105, 111, 110]⟩, _, rfl, by rw [kFn]; decide, fun h => by rw [kFn] at h; exact absurd h (by decide), fun _ => rfl⟩
  · obtain ⟨a, hl, ha⟩ := are1.1 ((kids_11 h).symm.trans R.kids)
    rw [show v.o.raw no = a.o.at 11 no ++ [⟨#[46]⟩, v.nm] by rw [o_raw, h, hl]; rfl]
    exact (hasH_at ((K a (by rw [hl]; simp)).h ha) _ _).app _
  · obtain ⟨a, b, hl, ha, _⟩ := are2.1 ((kids_12 h).symm.trans R.kids)
    rw [show v.o.raw no = a.o.at 11 no ++ brack ⟨#[91]⟩ ⟨#[93]⟩ (b.o.at 0 false) by rw [o_raw, h, hl]; rfl]
    exact (hasH_at ((K a (by rw [hl]; simp)).h ha) _ _).app _
  · obtain ⟨a, l, hl, ha, _⟩ := ne_kids (kids_13 h) R.kids
    rw [o_raw, h, hl]
    exact (hasH_at ((K a (by rw [hl]; simp)).h ha) 11 no).app _
  · rw [o_raw, h]
    exact hasH_k _ kNew (by decide) (by decide) (by decide)
  · rw [o_raw, h]
    exact hasH_op _ ((nm_15 h).symm.trans R.nm) (.inl rfl)
  · obtain ⟨a, hl, ha⟩ := are1.1 ((kids_16 h).symm.trans R.kids)
    rw [show v.o.raw no = if v.n = 1 then v.nm :: a.o.at 11 no else a.o.at 11 no ++ [v.nm] by rw [o_raw, h, hl]; rfl]
    split
    · exact hasH_op _ ((nm_16 h).symm.trans R.nm) (.inr rfl)
    · exact (hasH_at ((K a (by rw [hl]; simp)).h (isTg_E ha)) _ _).app _
  · obtain ⟨a, b, hl, ha, _⟩ := are2.1 ((kids_17 h).symm.trans R.kids)
    rw [o_raw, h, hl]
    exact (hasH_at ((K a (by rw [hl]; simp)).h ha) (opl (bl v.nm)) no).app _
  · obtain ⟨a, b, hl, ha, _⟩ := are2.1 ((kids_18 h).symm.trans R.kids)
    rw [o_raw, h, hl]
    exact (hasH_at ((K a (by rw [hl]; simp)).h ha) (opl (bl v.nm)) no).app _
  · obtain ⟨a, b, c, hl, ha, _⟩ := are3.1 ((kids_19 h).symm.trans R.kids)
    rw [o_raw, h, hl]
    exact (hasH_at ((K a (by rw [hl]; simp)).h ha) 3 no).app _
  · obtain ⟨a, b, hl, ha, _⟩ := are2.1 ((kids_20 h).symm.trans R.kids)
    rw [o_raw, h, hl]
    exact (hasH_at ((K a (by rw [hl]; simp)).h (isTg_E ha)) 11 no).app _
  · obtain ⟨a, b, hl, ha, _⟩ := are2.1 ((kids_21 h).symm.trans R.kids)
    rw [o_raw, h, hl]
    exact (hasH_at ((K a (by rw [hl]; simp)).h ha) 0 no).app _
end Go.Proofs.YtllpgoaanbiodaaGreatDoor.R.Ps
namespace Go.Proofs.YtllpgoaanbiodaaGreatDoor.R.Ps
open Go.RowKit Go.Proofs.YtllpgoaanbiodaaGreatDoor Go.Proofs.YtllpgoaanbiodaaGreatDoor.T Go.Proofs.YtllpgoaanbiodaaGreatDoor.R

/-! what does not ask whether an in may stand -/
theorem flat_at {u : V} (h : 11 ≤ u.o.lvl → u.o.raw true = u.o.raw false) (m : Nat) (hm : 11 ≤ m) : u.o.at m true = u.o.at m false := by
  have hl : u.k = 17 → u.o.lvl ≤ 8 := fun hk => by
    rw [o_lvl, hk]
    exact opl_le _
  unfold O.at
  rw [o_k, o_nm]
  by_cases h1 : u.o.lvl < m
  · rw [if_pos (.inl h1), if_pos (.inl h1)]
  · rw [if_neg (fun hc => ?_), if_neg (fun hc => ?_)]
    · exact h (by omega)
    · rcases hc with hc | hc
      · exact h1 hc
      · cases hc.1
    · rcases hc with hc | hc
      · exact h1 hc
      · have := hl hc.2.1
        omega
theorem flat_raw : ∀ v : V, v.ok = true → isE v = true → 10 ≤ v.o.lvl → v.o.raw true = v.o.raw false := by
  refine V.ind fun k nm n s ks l ih => ?_
  generalize hv : V.mk k nm n s ks l = v
  have hvl : v.l = l := by rw [<- hv]; rfl
  rw [<- hvl] at ih
  clear hv hvl
  intro hok he hl
  obtain ⟨R, ho⟩ := ok_right hok
  have first : ∀ a ∈ v.l, isE a = true → ∀ m, 11 ≤ m → a.o.at m true = a.o.at m false := fun a ha hea m hm => flat_at (fun h => ih a ha (ho a ha) hea (by omega)) m hm
  rcases isE_k he with h | h | h | h | h | h | h | h | h | h | h | h | h | h | h | h | h | h | h | h
  all_goals rw [o_raw, o_raw, h]
  · rfl
  · rfl
  · rfl
  · rfl
  · rfl
  · rfl
  · rfl
  · rfl
  · rfl
  · obtain ⟨a, e, ha⟩ := are1.1 ((kids_11 h).symm.trans R.kids)
    have := first a (by rw [e]; simp) ha 11 (Nat.le_refl _)
    rw [e]
    show a.o.at 11 true ++ _ = a.o.at 11 false ++ _
    rw [this]
  · obtain ⟨a, b, e, ha, _⟩ := are2.1 ((kids_12 h).symm.trans R.kids)
    have := first a (by rw [e]; simp) ha 11 (Nat.le_refl _)
    rw [e]
    show a.o.at 11 true ++ _ = a.o.at 11 false ++ _
    rw [this]
  · obtain ⟨a, r, e, ha, _⟩ := ne_kids (kids_13 h) R.kids
    have := first a (by rw [e]; simp) ha 11 (Nat.le_refl _)
    rw [e]
    show a.o.at 11 true ++ _ = a.o.at 11 false ++ _
    rw [this]
  · obtain ⟨a, r, e, ha, _⟩ := ne_kids (kids_14 h) R.kids
    have := first a (by rw [e]; simp) ha 12 (by omega)
    rw [e]
    show _ :: (a.o.at 12 true ++ _) = _ :: (a.o.at 12 false ++ _)
    rw [this]
  · have : v.o.lvl = 9 := by rw [o_lvl, h]; rfl
    omega
  · obtain ⟨a, e, ha⟩ := are1.1 ((kids_16 h).symm.trans R.kids)
    have := first a (by rw [e]; simp) (isTg_E ha) 11 (Nat.le_refl _)
    rw [e]
    show (if v.n = 1 then v.nm :: a.o.at 11 true else a.o.at 11 true ++ [v.nm]) = (if v.n = 1 then v.nm :: a.o.at 11 false else a.o.at 11 false ++ [v.nm])
    rw [this]
  · have : v.o.lvl = opl (bl v.nm) := by rw [o_lvl, h]; rfl
    have := opl_le (bl v.nm)
    omega
  · have : v.o.lvl = opl (bl v.nm) := by rw [o_lvl, h]; rfl
    have := opl_le (bl v.nm)
    omega
  · have : v.o.lvl = 2 := by rw [o_lvl, h]; rfl
    omega
  · have : v.o.lvl = 1 := by rw [o_lvl, h]; rfl
    omega
  · have : v.o.lvl = 0 := by rw [o_lvl, h]; rfl
    omega
/-! sorts -/
theorem isIn_S {v : V} (h : isIn v = true) : isSt v = true := by unfold isIn at h; rw [Bool.and_eq_true] at h; exact h.1
theorem k_of {m : Int} {v : V} (h : isK m v = true) : v.k = m := of_decide_eq_true h
theorem blk_S {v : V} (h : isK 25 v = true) : isSt v = true := by
  have := k_of h
  exact decide_eq_true (by omega)
theorem empty_nd {v : V} (h : v.k = 42) (hok : v.ok = true) : v = nd 42 [] := rt_leaf (ok_right hok).1 h (nm_42 h) (kids_42 h) (by decide) (by decide) (by decide)
theorem tg_lvl {v : V} (h : isTg v = true) : 11 ≤ v.o.lvl := by
  have := of_decide_eq_true h
  rw [o_lvl]
  rcases this with h | h | h
  · rw [h]; show 11 ≤ 13; omega
  · rw [h]; show 11 ≤ if 12 ≤ _ then 12 else 11; split <;> omega
  · rw [h]; show 11 ≤ if 12 ≤ _ then 12 else 11; split <;> omega
/-! declarations -/
theorem decl_shape {d : V} (hok : d.ok = true) (hk : d.k = 23) : d = nam 23 (bl d.nm) d.l ∧ tk d.nm = tI (bl d.nm) ∧ (d.l = [] ∨ ∃ u, d.l = [u] ∧ isE u = true) ∧ ∀ no, d.o.raw no = d.nm :: (match d.l.map V.o with | [] => [] | o :: _ => ⟨#[61]⟩ :: o.at 1 no) := by
  obtain ⟨R, _⟩ := ok_right hok
  refine ⟨R.nam hk (by decide) (by decide) (by decide), tk_name ((nm_23 hk).symm.trans R.nm), ?_, fun no => by rw [o_raw, hk]; rfl⟩
  have := (kids_23 hk).symm.trans R.kids
  rw [Bool.or_eq_true] at this
  rcases this with h | h
  · exact .inl (by simpa using h)
  · exact .inr (are1.1 h)
theorem decls_read (no : Bool) (t : Tok) (q : List Tok) (h1 : ¬ t = tS [44]) (h2 : ¬ t = tS [61]) (h3 : cl no t = none) : ∀ (l : List V) (a : V), (∀ u ∈ a :: l, u.ok = true ∧ u.k = 23 ∧ ∀ w ∈ u.l, PE w) →
    To (.decl no) (TS (commas ((a :: l).map fun u => u.o.raw no)) ++ t :: q) (a :: l, t :: q)
  | [], a, h => by
    obtain ⟨hok, hk, hw⟩ := h a (by simp)
    obtain ⟨hv, hn, hs, hr⟩ := decl_shape hok hk
    rcases hs with hl | ⟨u, hl, hu⟩
    · rw [hl] at hv
      simp only [List.map_cons, List.map_nil, commas, hr, hl, List.cons_append, List.nil_append]
      rw [hn]
      generalize bl a.nm = nm at *
      subst hv
      exact to_decl0 h2 h1
    · have hx := right_reads (rest := t :: q) (hw u (by rw [hl]; simp)) hu (k := 1) (no := no) (.inr (Nat.le_refl _)) (stop_none h3)
      rw [hl] at hv
      simp only [List.map_cons, List.map_nil, commas, hr, hl, List.cons_append]
      rw [hn, k61]
      generalize bl a.nm = nm at *
      subst hv
      exact to_decl1 hx fun t' q' e => by
        injection e with e1 _
        rw [<- e1]
        exact h1
  | b :: l, a, h => by
    obtain ⟨hok, hk, hw⟩ := h a (by simp)
    obtain ⟨hv, hn, hs, hr⟩ := decl_shape hok hk
    have ih := decls_read no t q h1 h2 h3 l b fun u hu => h u (List.mem_cons_of_mem _ hu)
    rcases hs with hl | ⟨u, hl, hu⟩
    · rw [hl] at hv
      have ee : TS (commas ((a :: b :: l).map fun u => u.o.raw no)) ++ t :: q = tI (bl a.nm) :: tS [44] :: (TS (commas ((b :: l).map fun u => u.o.raw no)) ++ t :: q) := by
        simp only [List.map_cons, commas, hr, hl, List.map_nil, List.cons_append, List.nil_append]
        rw [hn, k44]
      rw [ee]
      generalize bl a.nm = nm at *
      generalize b :: l = m at *
      subst hv
      exact to_decl0c ih
    · have hx := right_reads (rest := tS [44] :: (TS (commas ((b :: l).map fun u => u.o.raw no)) ++ t :: q)) (hw u (by rw [hl]; simp)) hu (k := 1) (no := no) (.inr (Nat.le_refl _)) (stop_lt (x := (7, 0)) rfl (by decide))
      rw [hl] at hv
      have ee : TS (commas ((a :: b :: l).map fun u => u.o.raw no)) ++ t :: q = tI (bl a.nm) :: tS [61] :: (TS (u.o.at 1 no) ++ tS [44] :: (TS (commas ((b :: l).map fun u => u.o.raw no)) ++ t :: q)) := by
        simp only [List.map_cons, commas, hr, hl, ts_app, List.append_assoc, List.cons_append]
        rw [hn, k44, k61]
      rw [ee]
      generalize bl a.nm = nm at *
      generalize b :: l = m at *
      subst hv
      exact to_decl1c hx ih
theorem vars_shape {v : V} (hok : v.ok = true) (hk : v.k = 22) : v = nd 22 v.l ∧ (∃ a r, v.l = a :: r ∧ ∀ u ∈ a :: r, u.k = 23) ∧ ∀ no, v.o.raw no = ⟨#[118, 97, 114]⟩ :: commas (v.l.map fun d => d.o.raw no) := by
  obtain ⟨R, _⟩ := ok_right hok
  obtain ⟨a, r, hl, ha, hr⟩ := ne_kids (kids_22 hk) R.kids
  refine ⟨R.nd hk (of_decide_eq_true ((nm_22 hk).symm.trans R.nm)) (by decide) (by decide) (by decide), ⟨a, r, hl, fun u hu => ?_⟩, fun no => ?_⟩
  · rcases List.mem_cons.1 hu with rfl | hu
    · exact k_of ha
    · exact k_of (hr u hu)
  · rw [o_raw, hk]
    show _ :: commas ((v.l.map V.o).map fun o => o.raw no) = _
    rw [List.map_map]
    rfl
theorem vars_read {v : V} (hok : v.ok = true) (hk : v.k = 22) (K : ∀ u ∈ v.l, u.ok = true ∧ ∀ w ∈ u.l, PE w) (no : Bool) (t : Tok) (q : List Tok) (h1 : ¬ t = tS [44]) (h2 : ¬ t = tS [61]) (h3 : cl no t = none) :
    ∃ ts, TS (v.o.raw no) ++ t :: q = tW wVar :: ts ∧ To (.decl no) ts (v.l, t :: q) := by
  obtain ⟨_, ⟨a, r, hl, h23⟩, hr⟩ := vars_shape hok hk
  refine ⟨TS (commas (v.l.map fun d => d.o.raw no)) ++ t :: q, by rw [hr]; simp only [List.map_cons, List.cons_append]; rw [kVar], ?_⟩
  rw [hl] at K ⊢
  exact decls_read no t q h1 h2 h3 r a fun u hu => ⟨(K u hu).1, h23 u hu, (K u hu).2⟩
/-! parts -/
theorem part_reads {u : V} (hu : Pv u) (hok : u.ok = true) (K : ∀ d ∈ u.l, d.ok = true ∧ ∀ w ∈ d.l, PE w) (hs : isE u = true ∨ u.k = 42 ∨ u.k = 22) (no : Bool) (t : Tok) (q : List Tok) (h0 : ¬ u.k = 42 ∨ t = tS [59] ∨ t = tS [41]) (h1 : ¬ t = tS [44]) (h2 : ¬ t = tS [61]) (h3 : cl no t = none) :
    To (.part no) (TS (u.o.part no) ++ t :: q) ([u], t :: q) := by
  unfold O.part
  rw [o_k]
  by_cases h42 : u.k = 42
  · rw [if_pos h42]
    rw [empty_nd h42 hok]
    rcases h0 with h0 | h0
    · exact absurd h42 h0
    · exact to_part0 h0
  rw [if_neg h42]
  by_cases h22 : u.k = 22
  · rw [if_pos h22]
    obtain ⟨ts, e, h⟩ := vars_read hok h22 K no t q h1 h2 h3
    rw [e]
    have := to_partV h
    rw [<- (vars_shape hok h22).1] at this
    exact this
  rw [if_neg h22]
  have he : isE u = true := by
    rcases hs with hs | hs | hs
    · exact hs
    · exact absurd hs h42
    · exact absurd hs h22
  have hr := right_reads hu.e he (k := 0) (no := no) (rest := t :: q) (.inr (Nat.zero_le _)) (stop_none h3)
  obtain ⟨s, r, e, hf, _⟩ := hasH_at (hu.h he) 0 no
  rw [e] at hr ⊢
  exact to_part (fT_ne hf (by decide)) (fun h => by rcases h with h | h; exact fT_ne hf (by decide) h; exact fT_ne hf (by decide) h) hr
theorem eo_of {u : V} (h : isEO u = true) : isE u = true ∨ u.k = 42 ∨ u.k = 22 := by
  unfold isEO at h
  rw [Bool.or_eq_true] at h
  exact h.imp id fun h => .inl (k_of h)
theorem bg_of {u : V} (h : isBg u = true) : isE u = true ∨ u.k = 42 ∨ u.k = 22 := by
  unfold isBg at h
  rw [Bool.or_eq_true] at h
  rcases h with h | h
  · exact .inr (.inr (k_of h))
  · exact eo_of h
theorem taker_part {u : V} (h : isTk u = true) (hok : u.ok = true) : (isE u = true ∨ u.k = 42 ∨ u.k = 22) ∧ ¬ u.k = 42 ∧ u.o.part false = u.o.part true := by
  unfold isTk at h
  rw [Bool.or_eq_true, Bool.and_eq_true] at h
  rcases h with h | ⟨h, h2⟩
  · have hk := of_decide_eq_true h
    have hl := tg_lvl h
    have hr := flat_raw u hok (isTg_E h) (by omega)
    refine ⟨.inl (isTg_E h), by omega, ?_⟩
    unfold O.part O.at
    rw [o_k, o_nm, hr, if_neg (by omega), if_neg (by omega), if_neg (by omega), if_neg (by omega)]
    rw [if_neg (by omega), if_neg (by omega)]
  · have hk := k_of h
    refine ⟨.inr (.inr hk), by omega, ?_⟩
    obtain ⟨_, ⟨a, r, hl, h23⟩, hr⟩ := vars_shape hok hk
    rw [hl] at h2
    rcases r with _ | ⟨b, r⟩
    · have h2 : a.l = [] := by simpa using h2
      have ha := (ok_right hok).2 a (by rw [hl]; simp)
      obtain ⟨_, _, _, hd⟩ := decl_shape ha (h23 a (by simp))
      rw [h2] at hd
      have e : ∀ no, u.o.part no = u.o.raw no := fun no => by
        unfold O.part
        rw [o_k, if_neg (by omega), if_pos hk]
      rw [e, e, hr, hr, hl]
      simp only [List.map_cons, List.map_nil, commas, hd]
    · cases h2
/-! cases -/
theorem cases_read (rest : List Tok) : ∀ l : List V, (∀ u ∈ l, u.ok = true ∧ u.k = 37 ∧ ∀ w ∈ u.l, Pv w) → To .cases (TS (stmts (l.map V.o)) ++ tS [125] :: rest) (l, tS [125] :: rest) ∧ ∃ t q, TS (stmts (l.map V.o)) ++ tS [125] :: rest = t :: q ∧ (t = tS [125] ∨ t = tW wCase ∨ t = tW wDef)
  | [], _ => ⟨to_cases0 rest, _, _, rfl, .inl rfl⟩
  | c :: l, h => by
    obtain ⟨ih, t, q, e, ht⟩ := cases_read rest l fun u hu => h u (List.mem_cons_of_mem _ hu)
    obtain ⟨hok, hk, hw⟩ := h c (by simp)
    obtain ⟨R, ho⟩ := ok_right hok
    have hv := R.nd hk (of_decide_eq_true ((nm_37 hk).symm.trans R.nm)) (by decide) (by decide) (by decide)
    have hkd := (kids_37 hk).symm.trans R.kids
    rcases hl : c.l with _ | ⟨a, r⟩
    · rw [hl] at hkd; cases hkd
    rw [hl] at hkd hv hw
    simp only [Bool.and_eq_true] at hkd
    have hst : c.o.st = (if a.o.k = 42 then [⟨#[100, 101, 102, 97, 117, 108, 116]⟩, ⟨#[58]⟩] else brack ⟨#[99, 97, 115, 101]⟩ ⟨#[58]⟩ (a.o.at 0 false)) ++ stmts (r.map V.o) := by
      rw [o_st, hk, hl]
      rfl
    have hr : ∀ u ∈ r, Pv u ∧ isSt u = true := fun u hu => ⟨hw u (by simp [hu]), isIn_S (List.all_eq_true.1 hkd.2 u hu)⟩
    have hh : To .sts (TS (stmts (l.map V.o)) ++ tS [125] :: rest) ([], TS (stmts (l.map V.o)) ++ tS [125] :: rest) := by
      rw [e]
      exact to_sts0 ht
    have he : EndS (TS (stmts (l.map V.o)) ++ tS [125] :: rest) := by
      rw [e]
      refine endS_lit ?_
      rcases ht with rfl | rfl | rfl
      · unfold bad; decide
      · unfold bad; decide
      · unfold bad; decide
    have hrs := (sts_reads _ hh he r hr).1
    have ee : TS (stmts ((c :: l).map V.o)) ++ tS [125] :: rest = TS c.o.st ++ (TS (stmts (l.map V.o)) ++ tS [125] :: rest) := by
      rw [List.map_cons]
      show TS (c.o.st ++ stmts (l.map V.o)) ++ _ = _
      rw [ts_app, List.append_assoc]
    rw [ee, hst]
    by_cases h42 : a.k = 42
    · rw [o_k, if_pos h42]
      have ha := empty_nd h42 (ho a (by rw [hl]; simp))
      subst ha
      simp only [List.map_cons, List.cons_append, List.nil_append]
      rw [kDef, k58]
      generalize stmts (l.map V.o) = S at *
      subst hv
      exact ⟨to_default hrs ih, _, _, rfl, .inr (.inr rfl)⟩
    · rw [o_k, if_neg h42]
      have hea : isE a = true := by
        rcases eo_of hkd.1 with h | h | h
        · exact h
        · exact absurd h h42
        · have := hkd.1
          unfold isEO at this
          rw [Bool.or_eq_true] at this
          rcases this with this | this
          · exact this
          · exact absurd (k_of this) h42
      have hx := right_reads (rest := tS [58] :: (TS (stmts (r.map V.o)) ++ (TS (stmts (l.map V.o)) ++ tS [125] :: rest))) (hw a (by simp)).e hea (k := 0) (no := false) (.inr (Nat.zero_le _)) (stop_none rfl)
      simp only [List.map_cons, List.cons_append, List.append_assoc, ts_app, List.nil_append]
      rw [kCase, k58]
      generalize stmts (l.map V.o) = S at *
      subst hv
      exact ⟨to_case hx hrs ih, _, _, rfl, .inr (.inl rfl)⟩
end Go.Proofs.YtllpgoaanbiodaaGreatDoor.R.Ps
namespace Go.Proofs.YtllpgoaanbiodaaGreatDoor.R.Ps
open Go.RowKit Go.Proofs.YtllpgoaanbiodaaGreatDoor Go.Proofs.YtllpgoaanbiodaaGreatDoor.T Go.Proofs.YtllpgoaanbiodaaGreatDoor.R

theorem ts_cons (s : ByteArray) (l : Ts) : TS (s :: l) = tk s :: TS l := rfl
theorem fT_plain {t : Tok} (h : fT t = true) (h1 : ¬ t = tS [123]) (h2 : ¬ t = tW wFn) : plainT t = true := by
  have ha : ∀ t ∈ [tW [116, 104, 105, 115], tW [110, 117, 108, 108], tW [116, 114, 117, 101], tW [102, 97, 108, 115, 101], tW wFn, tS [40], tS [91], tS [123], tW wNew, tS [43, 43], tS [45, 45], tS [45], tS [43], tS [33], tW [116, 121, 112, 101, 111, 102], tW [100, 101, 108, 101, 116, 101], tW [118, 111, 105, 100]], t = tS [123] ∨ t = tW wFn ∨ plainT t = true := by decide +kernel
  unfold fT at h
  rw [Bool.or_eq_true] at h
  rcases h with h | h
  · unfold plainT
    rw [h]
    rfl
  · rcases ha t (List.contains_iff_mem.1 h) with h | h | h
    · exact absurd h h1
    · exact absurd h h2
    · exact h
theorem bare_reads {a : V} (ha : Pv a) (he : isE a = true) (rest : List Tok) : To .st (TS (bareT (a.o.at 0 false)) ++ tS [59] :: rest) ([nd 24 [a]], rest) := by
  obtain ⟨s, r, e, hf, hb, hn⟩ := hasH_at (ha.h he) 0 false
  unfold bareT
  by_cases hh : (a.o.at 0 false).head? = some ⟨#[123]⟩ ∨ (a.o.at 0 false).head? = some ⟨#[102, 117, 110, 99, 116, 105, 111, 110]⟩
  · rw [if_pos hh]
    have hr := right_reads ha.e he (k := 0) (no := false) (rest := tS [41] :: tS [59] :: rest) (.inr (Nat.zero_le _)) (stop_none rfl)
    simp only [List.map_cons, List.map_append, List.map_nil, List.cons_append, List.append_assoc, List.nil_append]
    rw [k40, k41]
    exact to_expr (by decide) (to_ex (to_paren hr) (to_stop (stop_none rfl)))
  · rw [if_neg hh]
    have hr := right_reads ha.e he (k := 0) (no := false) (rest := tS [59] :: rest) (.inr (Nat.zero_le _)) (stop_none rfl)
    rw [e] at hr hh ⊢
    refine to_expr (fT_plain hf (fun h => hh (.inl ?_)) (fun h => hh (.inr ?_))) hr
    · rw [hb h]; rfl
    · rw [hn h]; rfl
theorem head_ts (w : ByteArray) (t : Tok) (hw : tk w = t) (c : V) (rest : List Tok) : TS (headT w c.o) ++ rest = t :: tS [40] :: (TS (c.o.at 0 false) ++ tS [41] :: rest) := by
  unfold headT brack
  simp only [List.map_cons, List.map_append, List.map_nil, List.cons_append, List.append_assoc, List.nil_append]
  rw [hw, k40, k41]
theorem head_reads {c : V} (hc : Pv c) (he : isE c = true) (rest : List Tok) : To (.ex 0 false) (TS (c.o.at 0 false) ++ tS [41] :: rest) ([c], tS [41] :: rest) :=
  right_reads hc.e he (k := 0) (no := false) (.inr (Nat.zero_le _)) (stop_none rfl)
section
variable {v : V} (hok : v.ok = true) (K : ∀ u ∈ v.l, Pv u)
include hok K
omit K in
theorem ps_22 (h : v.k = 22) (K2 : ∀ u ∈ v.l, ∀ w ∈ u.l, Pv w) (rest : List Tok) : To .st (TS v.o.st ++ rest) ([v], rest) := by
  have e : v.o.st = v.o.raw false ++ [⟨#[59]⟩] := by rw [o_st, o_raw, h]; rfl
  obtain ⟨ts, e2, h2⟩ := vars_read hok h (fun u hu => ⟨(ok_right hok).2 u hu, fun w hw => (K2 u hu w hw).e⟩) false (tS [59]) rest (by decide) (by decide) rfl
  rw [e]
  simp only [ts_app, List.map_cons, List.map_nil, List.append_assoc, List.cons_append, List.nil_append]
  rw [k59, e2]
  have := to_var h2
  rw [<- (vars_shape hok h).1] at this
  exact this
theorem ps_24 (h : v.k = 24) (rest : List Tok) : To .st (TS v.o.st ++ rest) ([v], rest) := by
  obtain ⟨R, _⟩ := ok_right hok
  obtain ⟨a, hl, ha⟩ := are1.1 ((kids_24 h).symm.trans R.kids)
  have hv := R.nd h (of_decide_eq_true ((nm_24 h).symm.trans R.nm)) (by decide) (by decide) (by decide)
  rw [hl] at hv
  have e : v.o.st = bareT (a.o.at 0 false) ++ [⟨#[59]⟩] := by rw [o_st, h, hl]; rfl
  rw [e]
  simp only [ts_app, List.map_cons, List.map_nil, List.append_assoc, List.cons_append, List.nil_append]
  rw [k59]
  have := bare_reads (K a (by rw [hl]; simp)) ha rest
  rw [<- hv] at this
  exact this
theorem ps_25 (h : v.k = 25) (rest : List Tok) : To .st (TS v.o.st ++ rest) ([v], rest) := by
  obtain ⟨R, _⟩ := ok_right hok
  have ha := all_of (kids_25 h) R.kids
  have hv := R.nd h (of_decide_eq_true ((nm_25 h).symm.trans R.nm)) (by decide) (by decide) (by decide)
  have e : v.o.st = block (v.l.map V.o) := by rw [o_st, h]; rfl
  rw [e]
  unfold block
  simp only [List.map_cons, List.map_append, List.map_nil, List.cons_append, List.append_assoc, List.nil_append]
  rw [k123, k125]
  have := to_block (block_reads rest v.l fun u hu => ⟨K u hu, isIn_S (ha u hu)⟩)
  rw [<- hv] at this
  exact this
theorem ps_26 (h : v.k = 26) (rest : List Tok) (hr : EndS rest) : To .st (TS v.o.st ++ rest) ([v], rest) := by
  obtain ⟨R, _⟩ := ok_right hok
  have hv := R.nd h (of_decide_eq_true ((nm_26 h).symm.trans R.nm)) (by decide) (by decide) (by decide)
  have hk := (kids_26 h).symm.trans R.kids
  rw [Bool.or_eq_true] at hk
  rcases hk with hk | hk
  · obtain ⟨c, a, hl, hc, ha⟩ := are2.1 hk
    rw [hl] at hv
    have e : v.o.st = headT ⟨#[105, 102]⟩ c.o ++ (a.o.st ++ []) := by rw [o_st, h, hl]; rfl
    rw [e, List.append_nil, ts_app, List.append_assoc, head_ts _ _ kIf]
    have := to_if (head_reads (K c (by rw [hl]; simp)) hc _) ((K a (by rw [hl]; simp)).s (blk_S ha) rest (.inl (k_of ha))) fun t q e h => hr t q e (.inl h)
    rw [<- hv] at this
    exact this
  · obtain ⟨c, a, b, hl, hc, ha, hb⟩ := are3.1 hk
    rw [hl] at hv
    have e : v.o.st = headT ⟨#[105, 102]⟩ c.o ++ (a.o.st ++ ⟨#[101, 108, 115, 101]⟩ :: b.o.st) := by rw [o_st, h, hl]; rfl
    rw [e, ts_app, List.append_assoc, head_ts _ _ kIf, ts_app, ts_cons, List.append_assoc, List.cons_append, kElse]
    have := to_ifElse (head_reads (K c (by rw [hl]; simp)) hc _) ((K a (by rw [hl]; simp)).s (blk_S ha) (tW wElse :: (TS b.o.st ++ rest)) (.inl (k_of ha))) ((K b (by rw [hl]; simp)).s (blk_S hb) rest (.inl (k_of hb)))
    rw [<- hv] at this
    exact this
theorem ps_27 (h : v.k = 27) (rest : List Tok) : To .st (TS v.o.st ++ rest) ([v], rest) := by
  obtain ⟨R, _⟩ := ok_right hok
  have hv := R.nd h (of_decide_eq_true ((nm_27 h).symm.trans R.nm)) (by decide) (by decide) (by decide)
  obtain ⟨c, a, hl, hc, ha⟩ := are2.1 ((kids_27 h).symm.trans R.kids)
  rw [hl] at hv
  have e : v.o.st = headT ⟨#[119, 104, 105, 108, 101]⟩ c.o ++ a.o.st := by rw [o_st, h, hl]; rfl
  rw [e, ts_app, List.append_assoc, head_ts _ _ kWhile]
  have := to_while (head_reads (K c (by rw [hl]; simp)) hc _) ((K a (by rw [hl]; simp)).s (blk_S ha) rest (.inl (k_of ha)))
  rw [<- hv] at this
  exact this
theorem ps_28 (h : v.k = 28) (rest : List Tok) : To .st (TS v.o.st ++ rest) ([v], rest) := by
  obtain ⟨R, _⟩ := ok_right hok
  have hv := R.nd h (of_decide_eq_true ((nm_28 h).symm.trans R.nm)) (by decide) (by decide) (by decide)
  obtain ⟨a, c, hl, ha, hc⟩ := are2.1 ((kids_28 h).symm.trans R.kids)
  rw [hl] at hv
  have e : v.o.st = ⟨#[100, 111]⟩ :: (a.o.st ++ (headT ⟨#[119, 104, 105, 108, 101]⟩ c.o ++ [⟨#[59]⟩])) := by rw [o_st, h, hl]; rfl
  rw [e, ts_cons, List.cons_append, ts_app, List.append_assoc, ts_app, List.append_assoc, head_ts _ _ kWhile, kDo]
  simp only [List.map_cons, List.map_nil, List.cons_append, List.nil_append]
  rw [k59]
  have := to_do ((K a (by rw [hl]; simp)).s (blk_S ha) (tW wWhile :: tS [40] :: (TS (c.o.at 0 false) ++ tS [41] :: tS [59] :: rest)) (.inl (k_of ha))) (head_reads (K c (by rw [hl]; simp)) hc (tS [59] :: rest))
  rw [<- hv] at this
  exact this
theorem ps_29 (h : v.k = 29) (K2 : ∀ u ∈ v.l, ∀ d ∈ u.l, ∀ w ∈ d.l, Pv w) (rest : List Tok) : To .st (TS v.o.st ++ rest) ([v], rest) := by
  obtain ⟨R, ho⟩ := ok_right hok
  have hv := R.nd h (of_decide_eq_true ((nm_29 h).symm.trans R.nm)) (by decide) (by decide) (by decide)
  obtain ⟨a, b, c, d, hl, ha, hb, hc, hd⟩ := are4.1 ((kids_29 h).symm.trans R.kids)
  have hp : ∀ u ∈ v.l, (isE u = true ∨ u.k = 42 ∨ u.k = 22) → ∀ (no : Bool) (t : Tok) (q : List Tok), (t = tS [59] ∨ t = tS [41]) → To (.part no) (TS (u.o.part no) ++ t :: q) ([u], t :: q) := fun u hu hs no t q ht =>
    part_reads (K u hu) (ho u hu) (fun d hd => ⟨(ok_right (ho u hu)).2 d hd, fun w hw => (K2 u hu d hd w hw).e⟩) hs no t q (.inr ht) (by rcases ht with rfl | rfl <;> decide) (by rcases ht with rfl | rfl <;> decide) (by rcases ht with rfl | rfl <;> cases no <;> rfl)
  have e : v.o.st = ⟨#[102, 111, 114]⟩ :: (brack ⟨#[40]⟩ ⟨#[41]⟩ (a.o.part true ++ ⟨#[59]⟩ :: (b.o.part false ++ ⟨#[59]⟩ :: c.o.part false)) ++ d.o.st) := by rw [o_st, h, hl]; rfl
  rw [hl] at hv
  rw [e]
  unfold brack
  simp only [List.map_cons, List.map_append, List.cons_append, List.append_assoc, List.nil_append]
  rw [kFor, k40, k41, k59]
  have := to_for (hp a (by rw [hl]; simp) (bg_of ha) true (tS [59]) (TS (b.o.part false) ++ tS [59] :: (TS (c.o.part false) ++ tS [41] :: (TS d.o.st ++ rest))) (.inl rfl)) (hp b (by rw [hl]; simp) (eo_of hb) false _ _ (.inl rfl)) (hp c (by rw [hl]; simp) (eo_of hc) false _ _ (.inr rfl)) ((K d (by rw [hl]; simp)).s (blk_S hd) rest (.inl (k_of hd)))
  rw [<- hv] at this
  exact this
theorem ps_30 (h : v.k = 30) (K2 : ∀ u ∈ v.l, ∀ d ∈ u.l, ∀ w ∈ d.l, Pv w) (rest : List Tok) : To .st (TS v.o.st ++ rest) ([v], rest) := by
  obtain ⟨R, ho⟩ := ok_right hok
  have hv := R.nd h (of_decide_eq_true ((nm_30 h).symm.trans R.nm)) (by decide) (by decide) (by decide)
  obtain ⟨a, b, c, hl, ha, hb, hc⟩ := are3.1 ((kids_30 h).symm.trans R.kids)
  obtain ⟨h1, h2, h3⟩ := taker_part ha (ho a (by rw [hl]; simp))
  have hp := part_reads (K a (by rw [hl]; simp)) (ho a (by rw [hl]; simp)) (fun d hd => ⟨(ok_right (ho a (by rw [hl]; simp))).2 d hd, fun w hw => (K2 a (by rw [hl]; simp) d hd w hw).e⟩) h1 true (tW wIn) (TS (b.o.at 0 false) ++ tS [41] :: (TS c.o.st ++ rest)) (.inl h2) (by decide) (by decide) rfl
  have e : v.o.st = ⟨#[102, 111, 114]⟩ :: (brack ⟨#[40]⟩ ⟨#[41]⟩ (a.o.part false ++ ⟨#[105, 110]⟩ :: b.o.at 0 false) ++ c.o.st) := by rw [o_st, h, hl]; rfl
  rw [hl] at hv
  rw [e, h3]
  unfold brack
  simp only [List.map_cons, List.map_append, List.cons_append, List.append_assoc, List.nil_append]
  rw [kFor, k40, k41, kIn]
  have := to_forIn hp (head_reads (K b (by rw [hl]; simp)) hb _) ((K c (by rw [hl]; simp)).s (blk_S hc) rest (.inl (k_of hc)))
  rw [<- hv] at this
  exact this
omit K in
theorem ps_31 (h : v.k = 31 ∨ v.k = 32) (rest : List Tok) : To .st (TS v.o.st ++ rest) ([v], rest) := by
  obtain ⟨R, ho⟩ := ok_right hok
  obtain ⟨s, hs, e⟩ : ∃ s : ByteArray, (v.k = 31 ∧ bl s = [98, 114, 101, 97, 107] ∨ v.k = 32 ∧ bl s = [99, 111, 110, 116, 105, 110, 117, 101]) ∧ v.o.st = s :: (some1 v.nm ++ [⟨#[59]⟩]) := by
    rcases h with h | h
    · exact ⟨⟨#[98, 114, 101, 97, 107]⟩, .inl ⟨h, rfl⟩, by rw [o_st, h]; rfl⟩
    · exact ⟨⟨#[99, 111, 110, 116, 105, 110, 117, 101]⟩, .inr ⟨h, rfl⟩, by rw [o_st, h]; rfl⟩
  have hts : tk s = tW (bl s) := by
    refine tk_word ?_
    rcases hs with ⟨_, hs⟩ | ⟨_, hs⟩ <;> rw [hs] <;> decide
  have hl : v.l = [] := by
    rcases h with h | h
    · exact nil_of (kids_31 h) R.kids
    · exact nil_of (kids_32 h) R.kids
  have hn : v.nm.size = 0 ∨ isNm v.nm = true := by
    have : (decide (v.nm.size = 0) || isNm v.nm) = true := by
      rcases h with h | h
      · exact (nm_31 h).symm.trans R.nm
      · exact (nm_32 h).symm.trans R.nm
    rw [Bool.or_eq_true, decide_eq_true_eq] at this
    exact this
  have hv : v = nam v.k (bl v.nm) [] := by
    have := R.nam (k := v.k) rfl (by omega) (by omega) (by omega)
    rw [hl] at this
    exact this
  rw [e]
  unfold some1
  by_cases h0 : v.nm.size = 0
  · rw [if_pos h0]
    simp only [List.map_cons, List.map_nil, List.cons_append, List.nil_append]
    rw [hts, k59]
    have := to_lab0 hs rest
    rw [ba_nil h0] at hv
    rw [show nd v.k [] = nam v.k (bl ⟨#[]⟩) [] from rfl, <- hv] at this
    exact this
  · rw [if_neg h0]
    have hnm : isNm v.nm = true := by
      rcases hn with hn | hn
      · exact absurd hn h0
      · exact hn
    simp only [List.map_cons, List.map_nil, List.cons_append, List.nil_append]
    rw [hts, k59, show tk v.nm = tI (bl v.nm) from tk_name hnm]
    have := to_lab hs (bl v.nm) rest
    rw [<- hv] at this
    exact this
theorem ps_33 (h : v.k = 33) (rest : List Tok) : To .st (TS v.o.st ++ rest) ([v], rest) := by
  obtain ⟨R, ho⟩ := ok_right hok
  have hv := R.nd h (of_decide_eq_true ((nm_33 h).symm.trans R.nm)) (by decide) (by decide) (by decide)
  have hk := (kids_33 h).symm.trans R.kids
  rw [Bool.or_eq_true] at hk
  rcases hk with hk | hk
  · have hl : v.l = [] := by simpa using hk
    have e : v.o.st = [⟨#[114, 101, 116, 117, 114, 110]⟩, ⟨#[59]⟩] := by rw [o_st, h, hl]; rfl
    rw [e]
    simp only [List.map_cons, List.map_nil, List.cons_append, List.nil_append]
    rw [kReturn, k59]
    have := to_return0 rest
    rw [hl] at hv
    rw [<- hv] at this
    exact this
  · obtain ⟨a, hl, ha⟩ := are1.1 hk
    have e : v.o.st = ⟨#[114, 101, 116, 117, 114, 110]⟩ :: (a.o.at 0 false ++ [⟨#[59]⟩]) := by rw [o_st, h, hl]; rfl
    have hr := right_reads (K a (by rw [hl]; simp)).e ha (k := 0) (no := false) (rest := tS [59] :: rest) (.inr (Nat.zero_le _)) (stop_none rfl)
    obtain ⟨s, r, e2, hf, _⟩ := hasH_at ((K a (by rw [hl]; simp)).h ha) 0 false
    rw [hl] at hv
    rw [e]
    simp only [List.map_cons, List.map_append, List.map_nil, List.cons_append, List.append_assoc, List.nil_append]
    rw [kReturn, k59]
    rw [e2] at hr ⊢
    have := to_return (fT_ne hf (by decide)) hr
    rw [<- hv] at this
    exact this
theorem ps_34 (h : v.k = 34) (rest : List Tok) : To .st (TS v.o.st ++ rest) ([v], rest) := by
  obtain ⟨R, ho⟩ := ok_right hok
  have hv := R.nd h (of_decide_eq_true ((nm_34 h).symm.trans R.nm)) (by decide) (by decide) (by decide)
  obtain ⟨a, hl, ha⟩ := are1.1 ((kids_34 h).symm.trans R.kids)
  have e : v.o.st = ⟨#[116, 104, 114, 111, 119]⟩ :: (a.o.at 0 false ++ [⟨#[59]⟩]) := by rw [o_st, h, hl]; rfl
  have hr := right_reads (K a (by rw [hl]; simp)).e ha (k := 0) (no := false) (rest := tS [59] :: rest) (.inr (Nat.zero_le _)) (stop_none rfl)
  rw [hl] at hv
  rw [e]
  simp only [List.map_cons, List.map_append, List.map_nil, List.cons_append, List.append_assoc, List.nil_append]
  rw [kThrow, k59]
  have := to_throw hr
  rw [<- hv] at this
  exact this
theorem ps_35 (h : v.k = 35) (rest : List Tok) (hr : EndS rest) : To .st (TS v.o.st ++ rest) ([v], rest) := by
  obtain ⟨R, ho⟩ := ok_right hok
  have hv := R.nam h (by decide) (by decide) (by decide)
  have hk := (kids_35 h).symm.trans R.kids
  rw [Bool.and_eq_true] at hk
  obtain ⟨a, b, c, hl, ha, hb, hc⟩ := are3.1 hk.1
  have hbc := hk.2
  rw [hl] at hbc
  simp only [Bool.or_eq_true] at hbc
  have hnm := (nm_35 h).symm.trans R.nm
  have hct : ctch v = isK 25 b := by
    unfold ctch
    rw [hl]
  rw [hct] at hnm
  have e : v.o.st = ⟨#[116, 114, 121]⟩ :: (a.o.st ++ ((if b.o.k = 25 then ⟨#[99, 97, 116, 99, 104]⟩ :: (brack ⟨#[40]⟩ ⟨#[41]⟩ [v.nm] ++ b.o.st) else []) ++ (if c.o.k = 25 then ⟨#[102, 105, 110, 97, 108, 108, 121]⟩ :: c.o.st else []))) := by rw [o_st, h, hl]; rfl
  have em : ∀ u ∈ v.l, isBO u = true → ¬ u.k = 25 → u = nd 42 [] := fun u hu hb hk => by
    unfold isBO at hb
    rw [Bool.or_eq_true] at hb
    rcases hb with hb | hb
    · exact absurd (k_of hb) hk
    · exact empty_nd (k_of hb) (ho u hu)
  have hA := (K a (by rw [hl]; simp)).s (blk_S ha)
  rw [e, o_k, o_k]
  rw [hl] at hv
  by_cases hb25 : b.k = 25
  · rw [if_pos hb25]
    have hb' : isK 25 b = true := decide_eq_true hb25
    rw [hb', if_pos rfl] at hnm
    have hB := (K b (by rw [hl]; simp)).s (blk_S hb')
    by_cases hc25 : c.k = 25
    · rw [if_pos hc25]
      have hC := (K c (by rw [hl]; simp)).s (blk_S (decide_eq_true hc25)) rest (.inl hc25)
      unfold brack
      simp only [List.map_cons, List.map_append, List.cons_append, List.append_assoc, List.nil_append]
      rw [kTry, kCatch, k40, k41, kFin, show tk v.nm = tI (bl v.nm) from tk_name hnm]
      have := to_try2 (hA (tW wCatch :: tS [40] :: tI (bl v.nm) :: tS [41] :: (TS b.o.st ++ tW wFin :: (TS c.o.st ++ rest))) (.inl (k_of ha))) (hB (tW wFin :: (TS c.o.st ++ rest)) (.inl hb25)) hC
      rw [<- hv] at this
      exact this
    · rw [if_neg hc25]
      unfold brack
      simp only [List.map_cons, List.map_append, List.map_nil, List.cons_append, List.append_assoc, List.nil_append]
      rw [kTry, kCatch, k40, k41, show tk v.nm = tI (bl v.nm) from tk_name hnm]
      have := to_try1 (hA (tW wCatch :: tS [40] :: tI (bl v.nm) :: tS [41] :: (TS b.o.st ++ rest)) (.inl (k_of ha))) (hB rest (.inl hb25)) fun t q e h => hr t q e (.inr (.inr h))
      rw [em c (by rw [hl]; simp) hc hc25] at hv
      rw [<- hv] at this
      exact this
  · rw [if_neg hb25]
    have hb' : isK 25 b = false := decide_eq_false hb25
    rw [hb', if_neg (by decide)] at hnm
    have h0 := of_decide_eq_true hnm
    have hc' : isK 25 c = true := by
      rcases hbc with hbc | hbc
      · exact absurd (k_of hbc) hb25
      · exact hbc
    have hc25 := k_of hc'
    rw [if_pos hc25]
    have hC := (K c (by rw [hl]; simp)).s (blk_S hc') rest (.inl hc25)
    simp only [List.map_cons, List.map_append, List.cons_append, List.append_assoc, List.nil_append]
    rw [kTry, kFin]
    have := to_try3 (hA (tW wFin :: (TS c.o.st ++ rest)) (.inl (k_of ha))) hC
    rw [em b (by rw [hl]; simp) hb hb25, ba_nil h0] at hv
    rw [show nd 35 [a, nd 42 [], c] = nam 35 (bl ⟨#[]⟩) [a, nd 42 [], c] from rfl, <- hv] at this
    exact this
theorem ps_36 (h : v.k = 36) (K2 : ∀ u ∈ v.l, ∀ w ∈ u.l, Pv w) (rest : List Tok) : To .st (TS v.o.st ++ rest) ([v], rest) := by
  obtain ⟨R, ho⟩ := ok_right hok
  have hv := R.nd h (of_decide_eq_true ((nm_36 h).symm.trans R.nm)) (by decide) (by decide) (by decide)
  have hk := (kids_36 h).symm.trans R.kids
  rcases hl : v.l with _ | ⟨c, r⟩
  · rw [hl] at hk; cases hk
  rw [hl] at hk hv
  simp only [Bool.and_eq_true] at hk
  have e : v.o.st = headT ⟨#[115, 119, 105, 116, 99, 104]⟩ c.o ++ block (r.map V.o) := by rw [o_st, h, hl]; rfl
  have hc := (cases_read rest r fun u hu => ⟨ho u (by rw [hl]; simp [hu]), k_of (List.all_eq_true.1 hk.2.1 u hu), fun w hw => K2 u (by rw [hl]; simp [hu]) w hw⟩).1
  rw [e, ts_app, List.append_assoc, head_ts _ _ kSwitch]
  unfold block
  simp only [List.map_cons, List.map_append, List.map_nil, List.cons_append, List.append_assoc, List.nil_append]
  rw [k123, k125]
  have := to_switch (head_reads (K c (by rw [hl]; simp)) hk.1 (tS [123] :: (TS (stmts (r.map V.o)) ++ tS [125] :: rest))) hc
  rw [<- hv] at this
  exact this
theorem ps_38 (h : v.k = 38) (rest : List Tok) (hr : EndS rest) : To .st (TS v.o.st ++ rest) ([v], rest) := by
  obtain ⟨R, ho⟩ := ok_right hok
  have hv := R.nam h (by decide) (by decide) (by decide)
  obtain ⟨a, hl, ha⟩ := are1.1 ((kids_38 h).symm.trans R.kids)
  have hnm : isNm v.nm = true := (nm_38 h).symm.trans R.nm
  have e : v.o.st = v.nm :: ⟨#[58]⟩ :: a.o.st := by rw [o_st, h, hl]; rfl
  rw [hl] at hv
  rw [e]
  simp only [List.map_cons, List.cons_append]
  rw [k58, show tk v.nm = tI (bl v.nm) from tk_name hnm]
  have := to_label (nm := bl v.nm) ((K a (by rw [hl]; simp)).s (isIn_S ha) rest (.inr hr))
  rw [<- hv] at this
  exact this
theorem ps_39 (h : v.k = 39) (rest : List Tok) : To .st (TS v.o.st ++ rest) ([v], rest) := by
  obtain ⟨R, ho⟩ := ok_right hok
  obtain ⟨hv, h1, h2, h3⟩ := fn_shape R (.inr h)
  have e : v.o.st = func v.nm v.ks (v.l.map V.o) := by rw [o_st, h]; rfl
  obtain ⟨q, e2, hq⟩ := fn_reads 39 v.nm v.ks v.l h1 h2 (fun u hu => ⟨K u hu, h3 u hu⟩) rest
  rw [h] at hv
  rw [e, e2]
  rw [<- hv] at hq
  exact to_fnS hq
omit K in
theorem ps_40 (h : v.k = 40) (rest : List Tok) : To .st (TS v.o.st ++ rest) ([v], rest) := by
  have hv := rt_leaf (ok_right hok).1 h (nm_40 h) (kids_40 h) (by decide) (by decide) (by decide)
  have e : v.o.st = [⟨#[59]⟩] := by rw [o_st, h]; rfl
  rw [e]
  simp only [List.map_cons, List.map_nil, List.cons_append, List.nil_append]
  rw [k59]
  have := to_empty rest
  rw [<- hv] at this
  exact this
end
theorem isSt_k {v : V} (h : isSt v = true) : v.k = 22 ∨ v.k = 24 ∨ v.k = 25 ∨ v.k = 26 ∨ v.k = 27 ∨ v.k = 28 ∨ v.k = 29 ∨ v.k = 30 ∨ (v.k = 31 ∨ v.k = 32) ∨ v.k = 33 ∨ v.k = 34 ∨ v.k = 35 ∨ v.k = 36 ∨ v.k = 38 ∨ v.k = 39 ∨ v.k = 40 := by
  have : 22 ≤ v.k ∧ v.k ≤ 40 ∧ ¬ v.k = 23 ∧ ¬ v.k = 37 := of_decide_eq_true h
  omega
theorem ps_all {v : V} (hok : v.ok = true) (K : ∀ u ∈ v.l, Pv u) (K2 : ∀ u ∈ v.l, ∀ w ∈ u.l, Pv w) (K3 : ∀ u ∈ v.l, ∀ d ∈ u.l, ∀ w ∈ d.l, Pv w) : PS v := by
  intro hs rest hr
  have hr2 : ¬ v.k = 25 → EndS rest := fun h => by
    rcases hr with hr | hr
    · exact absurd hr h
    · exact hr
  rcases isSt_k hs with h | h | h | h | h | h | h | h | h | h | h | h | h | h | h | h
  · exact ps_22 hok h K2 rest
  · exact ps_24 hok K h rest
  · exact ps_25 hok K h rest
  · exact ps_26 hok K h rest (hr2 (by omega))
  · exact ps_27 hok K h rest
  · exact ps_28 hok K h rest
  · exact ps_29 hok K h K3 rest
  · exact ps_30 hok K h K3 rest
  · exact ps_31 hok h rest
  · exact ps_33 hok K h rest
  · exact ps_34 hok K h rest
  · exact ps_35 hok K h rest (hr2 (by omega))
  · exact ps_36 hok K h K2 rest
  · exact ps_38 hok K h rest (hr2 (by omega))
  · exact ps_39 hok K h rest
  · exact ps_40 hok h rest
theorem ph_st {v : V} (hok : v.ok = true) (K : ∀ u ∈ v.l, Pv u) (hs : isSt v = true) : HasS v.o.st := by
  obtain ⟨R, ho⟩ := ok_right hok
  rcases isSt_k hs with h | h | h | h | h | h | h | h | (h | h) | h | h | h | h | h | h | h
  all_goals rw [o_st, h]
  · exact hasS_k _ kVar (by decide)
  · obtain ⟨a, hl, ha⟩ := are1.1 ((kids_24 h).symm.trans R.kids)
    rw [hl]
    show HasS (bareT (a.o.at 0 false) ++ _)
    refine HasS.app ?_ _
    unfold bareT
    split
    · exact hasS_k _ k40 (by decide)
    · exact (hasH_at ((K a (by rw [hl]; simp)).h ha) 0 false).s
  · exact hasS_k _ k123 (by decide)
  · exact hasS_k _ kIf (by decide)
  · exact hasS_k _ kWhile (by decide)
  · exact hasS_k _ kDo (by decide)
  · exact hasS_k _ kFor (by decide)
  · exact hasS_k _ kFor (by decide)
  · exact hasS_k _ kBreak (by decide)
  · exact hasS_k _ kCont (by decide)
  · exact hasS_k _ kReturn (by decide)
  · exact hasS_k _ kThrow (by decide)
  · exact hasS_k _ kTry (by decide)
  · exact hasS_k _ kSwitch (by decide)
  · exact hasS_k _ (show tk v.nm = _ from tk_name ((nm_38 h).symm.trans R.nm)) (by unfold sT; rw [fT_kind _ (.inl rfl)]; rfl)
  · exact hasS_k _ kFn (by decide)
  · exact hasS_k _ k59 (by decide)
/-- every tree that may be is read as itself -/
theorem pv_all : ∀ (n : Nat) (v : V), v.size ≤ n → v.ok = true → Pv v
  | 0, v, h, _ => by have := size_pos v; omega
  | n + 1, v, h, hok => by
    have ho := (ok_right hok).2
    have K : ∀ u ∈ v.l, Pv u := fun u hu => pv_all n u (by have := size_kid hu; omega) (ho u hu)
    have K2 : ∀ u ∈ v.l, ∀ w ∈ u.l, Pv w := fun u hu w hw => pv_all n w (by have := size_kid hu; have := size_kid hw; omega) ((ok_right (ho u hu)).2 w hw)
    have K3 : ∀ u ∈ v.l, ∀ d ∈ u.l, ∀ w ∈ d.l, Pv w := fun u hu d hd w hw => pv_all n w (by have := size_kid hu; have := size_kid hd; have := size_kid hw; omega) ((ok_right ((ok_right (ho u hu)).2 d hd)).2 w hw)
    refine ⟨fun he no => ph_all hok K he no, pe_all hok fun u hu => ⟨K u hu, K2 u hu⟩, ph_st hok K, ps_all hok K K2 K3, fun hk no t q h1 h2 h3 => ?_⟩
    obtain ⟨ts, e, h⟩ := vars_read hok hk (fun u hu => ⟨ho u hu, fun w hw => (K2 u hu w hw).e⟩) no t q h1 h2 h3
    obtain ⟨_, _, hr⟩ := vars_shape hok hk
    rw [hr, ts_cons, kVar, List.cons_append] at e
    injection e with _ e
    rw [e]
    exact h
/-- two programs of the same tokens are the same -/
theorem toks_apart {v u : V} (hv : v.ok = true) (hu : u.ok = true) (kv : v.k = 41) (ku : u.k = 41) (h : TS v.toks = TS u.toks) : v = u := by
  have one : ∀ {v : V}, v.ok = true → v.k = 41 → v = nd 41 v.l ∧ To .sts (TS v.toks) (v.l, []) := by
    intro v hv kv
    obtain ⟨R, ho⟩ := ok_right hv
    have ha := all_of (kids_41 kv) R.kids
    refine ⟨R.nd kv (of_decide_eq_true ((nm_41 kv).symm.trans R.nm)) (by decide) (by decide) (by decide), ?_⟩
    have := (sts_reads [] to_stsE (fun t q e => by cases e) v.l fun u hu => ⟨pv_all u.size u (Nat.le_refl _) (ho u hu), ha u hu⟩).1
    rw [List.append_nil] at this
    exact this
  obtain ⟨h1, h2⟩ := one hv kv
  obtain ⟨h3, h4⟩ := one hu ku
  rw [h] at h2
  have := congrArg Prod.fst (h2.one h4)
  simp only at this
  rw [h1, h3, this]
end Go.Proofs.YtllpgoaanbiodaaGreatDoor.R.Ps
namespace Go.Proofs.YtllpgoaanbiodaaGreatDoor.R.Ps
open Go.RowKit Go.Proofs.YtllpgoaanbiodaaGreatDoor Go.Proofs.YtllpgoaanbiodaaGreatDoor.T Go.Proofs.YtllpgoaanbiodaaGreatDoor.R

/-- a text that is a token's -/
def G (s : ByteArray) : Prop := ∃ p : Tk, T.Good p (bl s)
def AG (l : Ts) : Prop := ∀ s ∈ l, G s
theorem ag_nil : AG [] := fun _ h => by cases h
theorem ag_cons {s : ByteArray} {l : Ts} (h : G s) (k : AG l) : AG (s :: l) := fun x hx => by
  rcases List.mem_cons.1 hx with rfl | hx
  · exact h
  · exact k x hx
theorem ag_app {a b : Ts} (h : AG a) (k : AG b) : AG (a ++ b) := fun x hx => by
  rcases List.mem_append.1 hx with hx | hx
  · exact h x hx
  · exact k x hx
theorem g_sign (l : Bs) (h : l ∈ signs) : G ⟨l.toArray⟩ := ⟨⟨5, l, 0, 0, false⟩, by
  show T.Good _ (l.toArray.toList)
  rw [List.toList_toArray]
  exact good_sign rfl h⟩
theorem g_word (l : Bs) (h : isW l = true) : G ⟨l.toArray⟩ := ⟨⟨2, l, 0, 0, false⟩, by
  show T.Good _ (l.toArray.toList)
  rw [List.toList_toArray]
  exact good_word rfl h⟩
theorem g_ident {s : ByteArray} (h : isI (bl s) = true) : G s := by
  cases hw : isW (bl s) with
  | true => exact ⟨⟨2, bl s, 0, 0, false⟩, good_word rfl hw⟩
  | false => exact ⟨⟨1, bl s, 0, 0, false⟩, good_name rfl h hw⟩
theorem g_nm {s : ByteArray} (h : isNm s = true) : G s := by
  unfold isNm at h
  rw [Bool.and_eq_true] at h
  exact g_ident h.1
theorem g_op {k : Int} {s : ByteArray} (h : opOk k (bl s) = true) : G s := by
  have ha : ∀ l ∈ unOps ++ (upOps ++ (biOps ++ (loOps ++ asOps))), isW l = true ∨ (isW l = false ∧ l ∈ signs) := by decide +kernel
  have hm : bl s ∈ unOps ++ (upOps ++ (biOps ++ (loOps ++ asOps))) := by
    unfold opOk ops at h
    simp only [List.mem_append]
    split at h
    · exact .inl (List.contains_iff_mem.1 h)
    split at h
    · exact .inr (.inl (List.contains_iff_mem.1 h))
    split at h
    · exact .inr (.inr (.inl (List.contains_iff_mem.1 h)))
    split at h
    · exact .inr (.inr (.inr (.inl (List.contains_iff_mem.1 h))))
    split at h
    · exact .inr (.inr (.inr (.inr (List.contains_iff_mem.1 h))))
    · cases h
  rcases ha _ hm with h1 | ⟨_, h2⟩
  · exact ⟨⟨2, bl s, 0, 0, false⟩, good_word rfl h1⟩
  · exact ⟨⟨5, bl s, 0, 0, false⟩, good_sign rfl h2⟩
theorem g_quo {s : ByteArray} (h : s.size % 2 = 0) : G (quo s) := ⟨⟨4, bl s, 0, 0, false⟩, by
  have e : bl (quo s) = quote (us (bl s)) := by simp [quo, bl]
  rw [e]
  exact good_text rfl (by show (bl s).length % 2 = 0; rw [size_list]; exact h)⟩
theorem g_dec {n : Int} (h0 : 0 ≤ n) (h1 : n ≤ 9007199254740991) : G (dec n) := ⟨⟨3, [], n, 0, false⟩, by
  have e : bl (dec n) = Lib.decDigits n.toNat := by
    have : Lib.itoa n = Lib.decDigits n.toNat := by
      unfold Lib.itoa
      rw [if_neg (by omega)]
    simp [dec, bl, this]
  rw [e]
  exact good_num (u := n.toNat) rfl (by show n = _; omega) (by omega)⟩
theorem ag_one {s : ByteArray} (h : G s) : AG [s] := ag_cons h ag_nil
theorem ag_some {s : ByteArray} (h : s.size = 0 ∨ isNm s = true) : AG (some1 s) := by
  unfold some1
  split
  · exact ag_nil
  · rename_i h0
    rcases h with h | h
    · exact absurd h h0
    · exact ag_one (g_nm h)
theorem ag_brack {a b : ByteArray} {t : Ts} (ha : G a) (hb : G b) (ht : AG t) : AG (brack a b t) := ag_cons ha (ag_app ht (ag_one hb))
theorem ag_commas : ∀ l : List Ts, (∀ t ∈ l, AG t) → AG (commas l)
  | [], _ => ag_nil
  | [a], h => h a (by simp)
  | a :: b :: r, h => ag_app (h a (by simp)) (ag_cons (g_sign [44] (by decide)) (ag_commas (b :: r) fun t ht => h t (List.mem_cons_of_mem _ ht)))
theorem g40 : G ⟨#[40]⟩ := g_sign [40] (by decide)
theorem g41 : G ⟨#[41]⟩ := g_sign [41] (by decide)
theorem g91 : G ⟨#[91]⟩ := g_sign [91] (by decide)
theorem g93 : G ⟨#[93]⟩ := g_sign [93] (by decide)
theorem g123 : G ⟨#[123]⟩ := g_sign [123] (by decide)
theorem g125 : G ⟨#[125]⟩ := g_sign [125] (by decide)
theorem g46 : G ⟨#[46]⟩ := g_sign [46] (by decide)
theorem g44 : G ⟨#[44]⟩ := g_sign [44] (by decide)
theorem g58 : G ⟨#[58]⟩ := g_sign [58] (by decide)
theorem g59 : G ⟨#[59]⟩ := g_sign [59] (by decide)
theorem g61 : G ⟨#[61]⟩ := g_sign [61] (by decide)
theorem g63 : G ⟨#[63]⟩ := g_sign [63] (by decide)
/-- what a node offers is good -/
structure Og (o : O) : Prop where
  raw : ∀ no, AG (o.raw no)
  st : AG o.st
theorem og_default : Og default := ⟨fun _ => ag_nil, ag_nil⟩
theorem Og.at_ {o : O} (h : Og o) (m : Nat) (no : Bool) : AG (o.at m no) := by
  unfold O.at
  split
  · exact ag_brack g40 g41 (h.raw false)
  · exact h.raw no
theorem Og.part {o : O} (h : Og o) (no : Bool) : AG (o.part no) := by
  unfold O.part
  split
  · exact ag_nil
  split
  · exact h.raw no
  · exact h.at_ 0 no
theorem og_getD {l : List O} (h : ∀ o ∈ l, Og o) (i : Nat) : Og (l.getD i default) := by
  by_cases hi : i < l.length
  · have : l.getD i default = l[i] := by simp [List.getD, hi]
    rw [this]
    exact h _ (List.getElem_mem hi)
  · have : l.getD i default = default := by simp [List.getD, Nat.not_lt.1 hi]
    rw [this]
    exact og_default
theorem ag_stmts {l : List O} (h : ∀ o ∈ l, Og o) : AG (stmts l) := fun s hs => by
  obtain ⟨o, ho, hs⟩ := List.mem_flatMap.1 hs
  exact (h o ho).st s hs
theorem ag_block {l : List O} (h : ∀ o ∈ l, Og o) : AG (block l) := ag_brack g123 g125 (ag_stmts h)
theorem ag_head {w : ByteArray} {o : O} (hw : G w) (h : Og o) : AG (headT w o) := ag_cons hw (ag_brack g40 g41 (h.at_ 0 false))
theorem ag_func {nm : ByteArray} {ks : List ByteArray} {l : List O} (h1 : nm.size = 0 ∨ isNm nm = true) (h2 : ∀ k ∈ ks, isNm k = true) (h : ∀ o ∈ l, Og o) : AG (func nm ks l) := by
  refine ag_cons (g_word [102, 117, 110, 99, 116, 105, 111, 110] (by decide)) (ag_app (ag_some h1) (ag_app (ag_brack g40 g41 (ag_commas _ fun t ht => ?_)) (ag_block h)))
  obtain ⟨k, hk, rfl⟩ := List.mem_map.1 ht
  exact ag_one (g_nm (h2 k hk))
theorem ag_row {l : List O} (h : ∀ o ∈ l, Og o) {f : O → Ts} (hf : ∀ o, Og o → AG (f o)) : AG (commas (l.map f)) := ag_commas _ fun t ht => by
  obtain ⟨o, ho, rfl⟩ := List.mem_map.1 ht
  exact hf o (h o ho)
theorem ag_bare {t : Ts} (h : AG t) : AG (bareT t) := by
  unfold bareT
  split
  · exact ag_brack g40 g41 h
  · exact h
theorem ag_ite {c : Prop} [Decidable c] {a b : Ts} (h1 : c → AG a) (h2 : ¬ c → AG b) : AG (if c then a else b) := by
  by_cases h : c
  · rw [if_pos h]
    exact h1 h
  · rw [if_neg h]
    exact h2 h
theorem raw_good {v : V} (R : Rt v) (L : List O) (H : ∀ o ∈ L, Og o) (no : Bool) : AG (rawN v.k v.nm v.n v.s v.ks L no) := by
  have HT : ∀ o ∈ L.tail, Og o := fun o ho => H o (List.mem_of_mem_tail ho)
  have A := fun i m b => (og_getD H i).at_ m b
  have hn : ∀ o : O, Og o → AG (o.at 1 false) := fun o h => h.at_ 1 false
  unfold rawN
  refine ag_ite (fun h => ?_) (fun _ => ?_)
  · have := of_decide_eq_true ((num_1 h).symm.trans R.num)
    exact ag_one (g_dec this.1 this.2)
  refine ag_ite (fun h => ?_) (fun _ => ?_)
  · exact ag_one (g_quo (of_decide_eq_true ((tx_2 h).symm.trans R.tx)))
  refine ag_ite (fun h => ?_) (fun _ => ?_)
  · exact ag_one (g_nm ((nm_3 h).symm.trans R.nm))
  refine ag_ite (fun _ => ?_) (fun _ => ?_)
  · exact ag_one (g_word [116, 104, 105, 115] (by decide))
  refine ag_ite (fun _ => ?_) (fun _ => ?_)
  · exact ag_one (g_word [110, 117, 108, 108] (by decide))
  refine ag_ite (fun _ => ?_) (fun _ => ?_)
  · split
    · exact ag_one (g_word [102, 97, 108, 115, 101] (by decide))
    · exact ag_one (g_word [116, 114, 117, 101] (by decide))
  refine ag_ite (fun _ => ?_) (fun _ => ?_)
  · exact ag_brack g91 g93 (ag_row H hn)
  refine ag_ite (fun _ => ?_) (fun _ => ?_)
  · exact ag_brack g123 g125 (ag_row H fun o h => h.raw false)
  refine ag_ite (fun h => ?_) (fun _ => ?_)
  · exact ag_cons (g_quo (of_decide_eq_true ((tx_9 h).symm.trans R.tx))) (ag_cons g58 (A 0 1 false))
  refine ag_ite (fun h => ?_) (fun _ => ?_)
  · obtain ⟨_, h1, h2, _⟩ := fn_shape R h
    exact ag_func h1 h2 H
  refine ag_ite (fun h => ?_) (fun _ => ?_)
  · exact ag_app (A 0 11 no) (ag_cons g46 (ag_one (g_ident ((nm_11 h).symm.trans R.nm))))
  refine ag_ite (fun _ => ?_) (fun _ => ?_)
  · exact ag_app (A 0 11 no) (ag_brack g91 g93 (A 1 0 false))
  refine ag_ite (fun _ => ?_) (fun _ => ?_)
  · exact ag_app (A 0 11 no) (ag_brack g40 g41 (ag_row HT hn))
  refine ag_ite (fun _ => ?_) (fun _ => ?_)
  · exact ag_cons (g_word wNew (by decide)) (ag_app (A 0 12 no) (ag_brack g40 g41 (ag_row HT hn)))
  refine ag_ite (fun h => ?_) (fun _ => ?_)
  · exact ag_cons (g_op ((nm_15 h).symm.trans R.nm)) (A 0 9 no)
  refine ag_ite (fun h => ?_) (fun _ => ?_)
  · have ho : G v.nm := g_op ((nm_16 h).symm.trans R.nm)
    split
    · exact ag_cons ho (A 0 11 no)
    · exact ag_app (A 0 11 no) (ag_one ho)
  refine ag_ite (fun h => ?_) (fun _ => ?_)
  · have ho : G v.nm := by
      rcases h with h | h
      · exact g_op ((nm_17 h).symm.trans R.nm)
      · exact g_op ((nm_18 h).symm.trans R.nm)
    exact ag_app (A 0 _ no) (ag_cons ho (A 1 _ no))
  refine ag_ite (fun _ => ?_) (fun _ => ?_)
  · exact ag_app (A 0 3 no) (ag_app (ag_brack g63 g58 (A 1 1 false)) (A 2 1 no))
  refine ag_ite (fun h => ?_) (fun _ => ?_)
  · exact ag_app (A 0 11 no) (ag_cons (g_op ((nm_20 h).symm.trans R.nm)) (A 1 1 no))
  refine ag_ite (fun _ => ?_) (fun _ => ?_)
  · exact ag_app (A 0 0 no) (ag_cons g44 (A 1 1 no))
  refine ag_ite (fun _ => ?_) (fun _ => ?_)
  · exact ag_cons (g_word wVar (by decide)) (ag_row H fun o h => h.raw no)
  refine ag_ite (fun h => ?_) (fun _ => ?_)
  · refine ag_cons (g_nm ((nm_23 h).symm.trans R.nm)) ?_
    split
    · exact ag_nil
    · exact ag_cons g61 ((H _ (by simp)).at_ 1 no)
  · exact ag_nil
theorem st_good {v : V} (R : Rt v) (L : List O) (hL : L = v.l.map V.o) (H : ∀ o ∈ L, Og o) : AG (stN v.k v.nm v.n v.s v.ks L) := by
  have HT : ∀ o ∈ L.tail, Og o := fun o ho => H o (List.mem_of_mem_tail ho)
  have A := fun i m b => (og_getD H i).at_ m b
  have P := fun i b => (og_getD H i).part b
  have S := fun i => (og_getD H i).st
  unfold stN
  refine ag_ite (fun _ => ?_) (fun _ => ?_)
  · exact ag_app (raw_good R L H false) (ag_one g59)
  refine ag_ite (fun _ => ?_) (fun _ => ?_)
  · exact ag_app (ag_bare (A 0 0 false)) (ag_one g59)
  refine ag_ite (fun _ => ?_) (fun _ => ?_)
  · exact ag_block H
  refine ag_ite (fun _ => ?_) (fun _ => ?_)
  · refine ag_app (ag_head (g_word [105, 102] (by decide)) (og_getD H 0)) (ag_app (S 1) ?_)
    split
    · exact ag_cons (g_word wElse (by decide)) (S 2)
    · exact ag_nil
  refine ag_ite (fun _ => ?_) (fun _ => ?_)
  · exact ag_app (ag_head (g_word wWhile (by decide)) (og_getD H 0)) (S 1)
  refine ag_ite (fun _ => ?_) (fun _ => ?_)
  · exact ag_cons (g_word [100, 111] (by decide)) (ag_app (S 0) (ag_app (ag_head (g_word wWhile (by decide)) (og_getD H 1)) (ag_one g59)))
  refine ag_ite (fun _ => ?_) (fun _ => ?_)
  · exact ag_cons (g_word [102, 111, 114] (by decide)) (ag_app (ag_brack g40 g41 (ag_app (P 0 true) (ag_cons g59 (ag_app (P 1 false) (ag_cons g59 (P 2 false)))))) (S 3))
  refine ag_ite (fun _ => ?_) (fun _ => ?_)
  · exact ag_cons (g_word [102, 111, 114] (by decide)) (ag_app (ag_brack g40 g41 (ag_app (P 0 false) (ag_cons (g_word wIn (by decide)) (A 1 0 false)))) (S 2))
  refine ag_ite (fun h => ?_) (fun _ => ?_)
  · have hn := (nm_31 h).symm.trans R.nm
    rw [Bool.or_eq_true, decide_eq_true_eq] at hn
    exact ag_cons (g_word [98, 114, 101, 97, 107] (by decide)) (ag_app (ag_some hn) (ag_one g59))
  refine ag_ite (fun h => ?_) (fun _ => ?_)
  · have hn := (nm_32 h).symm.trans R.nm
    rw [Bool.or_eq_true, decide_eq_true_eq] at hn
    exact ag_cons (g_word [99, 111, 110, 116, 105, 110, 117, 101] (by decide)) (ag_app (ag_some hn) (ag_one g59))
  have V0 : AG (valT L) := by
    unfold valT
    split
    · exact ag_nil
    · exact (H _ (by simp)).at_ 0 false
  refine ag_ite (fun _ => ?_) (fun _ => ?_)
  · exact ag_cons (g_word [114, 101, 116, 117, 114, 110] (by decide)) (ag_app V0 (ag_one g59))
  refine ag_ite (fun _ => ?_) (fun _ => ?_)
  · exact ag_cons (g_word [116, 104, 114, 111, 119] (by decide)) (ag_app V0 (ag_one g59))
  refine ag_ite (fun h => ?_) (fun _ => ?_)
  · refine ag_cons (g_word [116, 114, 121] (by decide)) (ag_app (S 0) (ag_app ?_ ?_))
    · split
      · rename_i h25
        have hn := (nm_35 h).symm.trans R.nm
        have hc : ctch v = true := by
          have hk := (kids_35 h).symm.trans R.kids
          rw [Bool.and_eq_true] at hk
          obtain ⟨a, b, c, hl, _, _, _⟩ := are3.1 hk.1
          rw [hL, hl] at h25
          unfold ctch
          rw [hl]
          exact decide_eq_true (by rw [<- o_k]; exact h25)
        rw [hc, if_pos rfl] at hn
        exact ag_cons (g_word wCatch (by decide)) (ag_app (ag_brack g40 g41 (ag_one (g_nm hn))) (S 1))
      · exact ag_nil
    · split
      · exact ag_cons (g_word wFin (by decide)) (S 2)
      · exact ag_nil
  refine ag_ite (fun _ => ?_) (fun _ => ?_)
  · exact ag_app (ag_head (g_word [115, 119, 105, 116, 99, 104] (by decide)) (og_getD H 0)) (ag_block HT)
  refine ag_ite (fun _ => ?_) (fun _ => ?_)
  · refine ag_app ?_ (ag_stmts HT)
    split
    · exact ag_cons (g_word wDef (by decide)) (ag_one g58)
    · exact ag_brack (g_word wCase (by decide)) g58 (A 0 0 false)
  refine ag_ite (fun h => ?_) (fun _ => ?_)
  · exact ag_cons (g_nm ((nm_38 h).symm.trans R.nm)) (ag_cons g58 (S 0))
  refine ag_ite (fun h => ?_) (fun _ => ?_)
  · obtain ⟨_, h1, h2, _⟩ := fn_shape R (.inr h)
    exact ag_func h1 h2 H
  · exact ag_one g59
theorem og_all : ∀ v : V, v.ok = true → Og v.o := by
  refine V.ind fun k nm n s ks l ih => ?_
  generalize hv : V.mk k nm n s ks l = v
  have hvl : v.l = l := by rw [<- hv]; rfl
  rw [<- hvl] at ih
  clear hv hvl
  intro hok
  obtain ⟨R, ho⟩ := ok_right hok
  have H : ∀ o ∈ v.l.map V.o, Og o := fun o h => by
    obtain ⟨u, hu, rfl⟩ := List.mem_map.1 h
    exact ih u hu (ho u hu)
  refine ⟨fun no => ?_, ?_⟩
  · rw [o_raw]
    exact raw_good R _ H no
  · rw [o_st]
    exact st_good R _ rfl H
theorem toks_good {v : V} (h : v.ok = true) : AG v.toks := ag_stmts fun o ho => by
  obtain ⟨u, hu, rfl⟩ := List.mem_map.1 ho
  exact og_all u ((ok_right h).2 u hu)
/-! from texts to tokens -/
theorem g_pair {s : ByteArray} (h : G s) : Pair (bl s, tk s) := by
  obtain ⟨p, h1, h2, t, h3, _⟩ := h
  refine ⟨h1, h2, ?_⟩
  show T.one (bl s) = some (tkb (bl s), (bl s).length)
  have : tkb (bl s) = t := by
    unfold tkb
    rw [h3]
  rw [this]
  exact h3
theorem join_src : ∀ (l : Ts), l ≠ [] → Lib.join (l.map bl) [32] ++ [32] = srcOf (l.map fun s => (bl s, tk s))
  | [], h => absurd rfl h
  | [a], _ => by simp [srcOf, Lib.join]
  | a :: b :: r, _ => by
    have ih := join_src (b :: r) (by simp)
    simp only [List.map_cons] at ih ⊢
    rw [srcOf, <- ih]
    simp [Lib.join]
theorem join_ne {l : Ts} (h : AG l) (hl : l ≠ []) : Lib.join (l.map bl) [32] ≠ [] := by
  cases l with
  | nil => exact absurd rfl hl
  | cons a r =>
    obtain ⟨p, _, h2, _⟩ := h a (by simp)
    intro e
    cases r with
    | nil => exact h2 (by simpa [Lib.join] using e)
    | cons b r => simp [Lib.join] at e
theorem mk_inj {x y : Tok} {a b : Nat} {f g : Bool} (h : T.mk x a f = T.mk y b g) : x = y := by
  obtain ⟨k, t, n⟩ := x
  obtain ⟨k', t', n'⟩ := y
  unfold T.mk at h
  injection h with h1 h2 h3 _ _
  simp only at h1 h2 h3
  have e1 : k = k' := by omega
  have e3 : n = n' := by omega
  rw [e1, h2, e3]
theorem toks_inj : ∀ (W W' : List (Bs × Tok)) (a b : Nat), T.toks a W = T.toks b W' → W.map (·.2) = W'.map (·.2)
  | [], [], _, _, _ => rfl
  | [], _ :: _, _, _, h => by cases h
  | _ :: _, [], _, _, h => by cases h
  | x :: r, y :: r', a, b, h => by
    rw [T.toks, T.toks] at h
    injection h with h1 h2
    rw [List.map_cons, List.map_cons, mk_inj h1, toks_inj r r' _ _ h2]
theorem txt_tok {v u : V} (hv : v.ok = true) (hu : u.ok = true) (h : v.txt = u.txt) : TS v.toks = TS u.toks := by
  have gv := toks_good hv
  have gu := toks_good hu
  unfold V.txt at h
  have hp : ∀ {l : Ts}, AG l → ∀ x ∈ l.map (fun s => (bl s, tk s)), Pair x := fun hl x hx => by
    obtain ⟨s, hs, rfl⟩ := List.mem_map.1 hx
    exact g_pair (hl s hs)
  generalize v.toks = l at *
  generalize u.toks = m at *
  by_cases hl : l = []
  · by_cases hm : m = []
    · rw [hl, hm]
    · subst hl
      exact absurd h.symm (join_ne gu hm)
  by_cases hm : m = []
  · subst hm
    exact absurd h (join_ne gv hl)
  have hs : srcOf (l.map fun s => (bl s, tk s)) = srcOf (m.map fun s => (bl s, tk s)) := by rw [<- join_src l hl, <- join_src m hm, h]
  have b1 := back _ 0 (hp gv)
  have b2 := back _ 0 (hp gu)
  rw [hs, b2] at b1
  have e := Sum.inr.inj b1
  have e2 := (List.append_inj' e rfl).1
  have e3 := toks_inj _ _ _ _ e2
  rw [List.map_map, List.map_map] at e3
  exact e3.symm
/-- the stage's: two programs that may be have the same text, just if they are the same -/
theorem txt_apart {v u : V} (hv : v.chk = 0) (hu : u.chk = 0) : v.txt = u.txt ↔ v = u := by
  have one : ∀ {v : V}, v.chk = 0 → v.k = 41 ∧ v.ok = true := fun {v} h => by
    unfold V.chk at h
    by_cases hc : v.k = 41 ∧ v.ok = true
    · exact hc
    · rw [if_neg hc] at h
      cases h
  obtain ⟨kv, ov⟩ := one hv
  obtain ⟨ku, ou⟩ := one hu
  exact ⟨fun h => toks_apart ov ou kv ku (txt_tok ov ou h), fun h => by rw [h]⟩
end Go.Proofs.YtllpgoaanbiodaaGreatDoor.R.Ps
namespace Go.Proofs.YtllpgoaanbiodaaGreatDoor.R.Ps
open Go.RowKit Go.Proofs.YtllpgoaanbiodaaGreatDoor Go.Proofs.YtllpgoaanbiodaaGreatDoor.T Go.Proofs.YtllpgoaanbiodaaGreatDoor.R

/-- bytes, and one for each token -/
def tl : Ts → Nat
  | [] => 0
  | s :: r => s.size + 1 + tl r
theorem tl_cons (s : ByteArray) (r : Ts) : tl (s :: r) = s.size + 1 + tl r := rfl
theorem tl_nil : tl [] = 0 := rfl
theorem tl_app (a b : Ts) : tl (a ++ b) = tl a + tl b := by
  induction a with
  | nil => simp [tl]
  | cons x r ih => rw [List.cons_append, tl_cons, tl_cons, ih]; omega
theorem tl_len (l : Ts) : l.length ≤ tl l := by
  induction l with
  | nil => exact Nat.le_refl _
  | cons x r ih => rw [List.length_cons, tl_cons]; omega
theorem tl_brack (a b : ByteArray) (t : Ts) : tl (brack a b t) = a.size + b.size + 2 + tl t := by
  unfold brack
  rw [tl_cons, tl_app, tl_cons, tl_nil]
  omega
theorem join_one (a : Bs) : Lib.join [a] [32] = a := by simp [Lib.join]
theorem join_two (a b : Bs) (r : List Bs) : Lib.join (a :: b :: r) [32] = a ++ 32 :: Lib.join (b :: r) [32] := by simp [Lib.join]
theorem tl_join : ∀ l : Ts, (Lib.join (l.map bl) [32]).length ≤ tl l
  | [] => Nat.le_refl _
  | [a] => by
    have : (bl a).length = a.size := size_list a
    rw [List.map_cons, List.map_nil, join_one, tl_cons, tl_nil]
    omega
  | a :: b :: r => by
    have ih := tl_join (b :: r)
    have : (bl a).length = a.size := size_list a
    rw [List.map_cons] at ih
    rw [tl_cons, List.map_cons, List.map_cons, join_two, List.length_append, List.length_cons]
    omega
/-- what a node offers is no longer than so -/
structure Le (o : O) (c : Nat) : Prop where
  raw : ∀ no, tl (o.raw no) + 8 ≤ c
  st : tl o.st + 8 ≤ c
theorem Le.at_ {o : O} {c : Nat} (h : Le o c) (m : Nat) (no : Bool) : tl (o.at m no) + 4 ≤ c := by
  unfold O.at
  split
  · have := h.raw false
    show tl (brack ⟨#[40]⟩ ⟨#[41]⟩ (o.raw false)) + 4 ≤ c
    rw [tl_brack]
    show 1 + 1 + 2 + tl (o.raw false) + 4 ≤ c
    omega
  · have := h.raw no
    omega
theorem Le.part {o : O} {c : Nat} (h : Le o c) (no : Bool) : tl (o.part no) + 4 ≤ c := by
  unfold O.part
  split
  · have := h.raw no
    rw [tl_nil]
    omega
  split
  · have := h.raw no
    omega
  · exact h.at_ 0 no
theorem le_default : Le default 8 := ⟨fun _ => Nat.le_refl _, Nat.le_refl _⟩
/-- a child's bound, or a missing one's -/
def gb (l : List V) (i : Nat) : Nat := if h : i < l.length then 64 * l[i].bulk else 8
theorem gb4 (l : List V) : gb l 0 + gb l 1 + gb l 2 + gb l 3 ≤ 64 * V.bulks l + 32 := by
  rcases l with _ | ⟨a, _ | ⟨b, _ | ⟨c, _ | ⟨d, r⟩⟩⟩⟩ <;> simp [gb, V.bulks] <;> omega
section
variable {l : List V} (H : ∀ u ∈ l, Le u.o (64 * u.bulk))
include H
theorem gb_le (i : Nat) : Le ((l.map V.o).getD i default) (gb l i) := by
  unfold gb
  by_cases h : i < l.length
  · rw [dif_pos h]
    have : (l.map V.o).getD i default = l[i].o := by simp [List.getD, h]
    rw [this]
    exact H _ (List.getElem_mem h)
  · rw [dif_neg h]
    have : (l.map V.o).getD i default = default := by simp [List.getD, Nat.not_lt.1 h]
    rw [this]
    exact le_default
theorem row_le {f : O → Ts} (hf : ∀ o c, Le o c → tl (f o) + 4 ≤ c) : tl (commas ((l.map V.o).map f)) ≤ 64 * V.bulks l := by
  induction l with
  | nil => exact Nat.zero_le _
  | cons a r ih =>
    have h1 := hf _ _ (H a (by simp))
    have h2 := ih fun u hu => H u (by simp [hu])
    have e : V.bulks (a :: r) = a.bulk + V.bulks r := rfl
    rw [e]
    cases r with
    | nil =>
      show tl (f a.o) ≤ _
      omega
    | cons b r =>
      show tl (f a.o ++ ⟨#[44]⟩ :: commas (((b :: r).map V.o).map f)) ≤ _
      rw [tl_app, tl_cons]
      show tl (f a.o) + (1 + 1 + _) ≤ _
      omega
theorem tail_le {f : O → Ts} (hf : ∀ o c, Le o c → tl (f o) + 4 ≤ c) : gb l 0 + tl (commas ((l.map V.o).tail.map f)) ≤ 64 * V.bulks l + 8 := by
  cases l with
  | nil => exact Nat.le_refl _
  | cons a r =>
    have := row_le (l := r) (fun u hu => H u (by simp [hu])) hf
    show 64 * a.bulk + tl (commas ((r.map V.o).map f)) ≤ 64 * (a.bulk + V.bulks r) + 8
    omega
theorem stmts_le : tl (stmts (l.map V.o)) ≤ 64 * V.bulks l := by
  induction l with
  | nil => exact Nat.zero_le _
  | cons a r ih =>
    have h1 := (H a (by simp)).st
    have h2 := ih fun u hu => H u (by simp [hu])
    show tl (a.o.st ++ stmts (r.map V.o)) ≤ 64 * (a.bulk + V.bulks r)
    rw [tl_app]
    omega
theorem stail_le : gb l 0 + tl (stmts (l.map V.o).tail) ≤ 64 * V.bulks l + 8 := by
  cases l with
  | nil => exact Nat.le_refl _
  | cons a r =>
    have := stmts_le (l := r) (fun u hu => H u (by simp [hu]))
    show 64 * a.bulk + tl (stmts (r.map V.o)) ≤ 64 * (a.bulk + V.bulks r) + 8
    omega
end
theorem names_le : ∀ ks : List ByteArray, tl (commas (ks.map fun k => [k])) ≤ 3 * keysBulk ks
  | [] => Nat.zero_le _
  | [a] => by
    simp only [List.map_cons, List.map_nil, commas, tl_cons, tl_nil, keysBulk]
    omega
  | a :: b :: r => by
    have ih := names_le (b :: r)
    have e : keysBulk (a :: b :: r) = a.size + 1 + keysBulk (b :: r) := rfl
    rw [e]
    show tl ([a] ++ ⟨#[44]⟩ :: commas ((b :: r).map fun k => [k])) ≤ _
    rw [tl_app, tl_cons, tl_cons, tl_nil]
    show a.size + 1 + 0 + (1 + 1 + _) ≤ _
    omega
theorem some_le (s : ByteArray) : tl (some1 s) ≤ s.size + 1 := by
  unfold some1
  split
  · exact Nat.zero_le _
  · exact Nat.le_refl _
theorem quo_le (s : ByteArray) : (quo s).size ≤ 2 + 6 * s.size := by
  have h := quote_length (us (bl s))
  have h2 : (us (bl s)).length ≤ (bl s).length := by
    have : ∀ l : Bs, (us l).length ≤ l.length := by
      intro l
      induction l using us.induct with
      | case1 a b r ih => simp only [us, List.length_cons]; omega
      | case2 l _ => simp [us]
    exact this _
  have h3 : (bl s).length = s.size := size_list s
  have e : (quo s).size = (quote (us (bl s))).length := by
    show (quote (us (bl s))).toArray.size = _
    simp
  omega
theorem dec_le {n : Int} (h0 : 0 ≤ n) (h1 : n ≤ 9007199254740991) : (dec n).size ≤ 21 := by
  have h := dec_len n.toNat (by omega)
  have e : bl (dec n) = Lib.decDigits n.toNat := by
    have : Lib.itoa n = Lib.decDigits n.toNat := by
      unfold Lib.itoa
      rw [if_neg (by omega)]
    simp [dec, bl, this]
  have h3 : (bl (dec n)).length = (dec n).size := size_list _
  rw [e] at h3
  omega
theorem sz (l : List UInt8) : (⟨l.toArray⟩ : ByteArray).size = l.length := by show l.toArray.size = _; simp
theorem tl_ite {c : Prop} [Decidable c] {a b : Ts} {m : Nat} (h1 : c → tl a + 8 ≤ m) (h2 : ¬ c → tl b + 8 ≤ m) : tl (if c then a else b) + 8 ≤ m := by
  by_cases h : c
  · rw [if_pos h]
    exact h1 h
  · rw [if_neg h]
    exact h2 h
theorem func_le {nm : ByteArray} {ks : List ByteArray} {l : List V} (H : ∀ u ∈ l, Le u.o (64 * u.bulk)) : tl (func nm ks (l.map V.o)) ≤ 18 + nm.size + 3 * keysBulk ks + 64 * V.bulks l := by
  have h1 := some_le nm
  have h2 := names_le ks
  have h3 := stmts_le H
  have h4 := tl_brack ⟨#[40]⟩ ⟨#[41]⟩ (commas (ks.map fun k => [k]))
  have h5 : tl (block (l.map V.o)) = 4 + tl (stmts (l.map V.o)) := tl_brack ⟨#[123]⟩ ⟨#[125]⟩ (stmts (l.map V.o))
  unfold func
  rw [tl_cons, tl_app, tl_app, h4, h5, sz, sz, sz]
  simp only [List.length_cons, List.length_nil]
  omega
theorem raw_le {v : V} (R : Rt v) (H : ∀ u ∈ v.l, Le u.o (64 * u.bulk)) (no : Bool) : tl (rawN v.k v.nm v.n v.s v.ks (v.l.map V.o) no) + 8 ≤ 64 * v.bulk := by
  have hb : v.bulk = 1 + v.nm.size + v.s.size + keysBulk v.ks + V.bulks v.l := by cases v; rfl
  have g := gb4 v.l
  have A := fun i m b => (gb_le H i).at_ m b
  have a1 := A 0 1 false
  have a2 := A 0 11 no
  have a3 := A 1 0 false
  have a4 := A 0 12 no
  have a5 := A 0 9 no
  have a6 := A 0 (opl (bl v.nm)) no
  have a7 := A 1 (opl (bl v.nm) + 1) no
  have a8 := A 0 3 no
  have a9 := A 1 1 false
  have a10 := A 2 1 no
  have a11 := A 1 1 no
  have a12 := A 0 0 no
  have r1 := row_le H (f := fun o => o.at 1 false) fun o c h => h.at_ 1 false
  have r2 := row_le H (f := fun o => o.raw false) fun o c h => by have := h.raw false; omega
  have r3 := row_le H (f := fun o => o.raw no) fun o c h => by have := h.raw no; omega
  have r4 := tail_le H (f := fun o => o.at 1 false) fun o c h => h.at_ 1 false
  have hf := func_le (nm := v.nm) (ks := v.ks) H
  have hq := quo_le v.s
  have hd : v.k = 1 → (dec v.n).size ≤ 21 := fun h => by
    have := of_decide_eq_true ((num_1 h).symm.trans R.num)
    exact dec_le this.1 this.2
  have h6 : ((if v.n = 0 then ⟨#[102, 97, 108, 115, 101]⟩ else ⟨#[116, 114, 117, 101]⟩ : ByteArray)).size ≤ 5 := by
    split
    · exact Nat.le_refl _
    · exact Nat.le_succ _
  by_cases h23 : v.k = 23
  · have a13 := A 0 1 no
    rw [hb, h23]
    cases hl : v.l with
    | nil =>
      show tl [v.nm] + 8 ≤ _
      rw [tl_cons, tl_nil]
      omega
    | cons a r =>
      rw [hl] at a13 g
      have ha : tl (a.o.at 1 no) + 4 ≤ gb (a :: r) 0 := a13
      show tl (v.nm :: ⟨#[61]⟩ :: a.o.at 1 no) + 8 ≤ _
      rw [tl_cons, tl_cons, sz [61]]
      simp only [List.length_cons, List.length_nil]
      omega
  rw [hb]
  clear hb
  unfold rawN
  refine tl_ite (fun h => ?_) (fun _ => ?_)
  · have := hd h
    rw [tl_cons, tl_nil]
    omega
  clear hd
  repeat' (refine tl_ite (fun _ => ?_) (fun _ => ?_))
  all_goals try simp only [tl_app, tl_cons, tl_nil, sz, List.length_cons, List.length_nil]
  all_goals omega
theorem bare_le (t : Ts) : tl (bareT t) ≤ tl t + 4 := by
  unfold bareT
  split
  · have := tl_brack ⟨#[40]⟩ ⟨#[41]⟩ t
    rw [this, sz, sz]
    simp only [List.length_cons, List.length_nil]
    omega
  · omega
theorem head_le (w : ByteArray) (o : O) : tl (headT w o) = w.size + 5 + tl (o.at 0 false) := by
  unfold headT
  rw [tl_cons, tl_brack, sz [40], sz [41]]
  simp only [List.length_cons, List.length_nil]
  omega
theorem block_le (l : List O) : tl (block l) = 4 + tl (stmts l) := tl_brack ⟨#[123]⟩ ⟨#[125]⟩ (stmts l)
theorem st_le {v : V} (R : Rt v) (H : ∀ u ∈ v.l, Le u.o (64 * u.bulk)) : tl (stN v.k v.nm v.n v.s v.ks (v.l.map V.o)) + 8 ≤ 64 * v.bulk := by
  have hb : v.bulk = 1 + v.nm.size + v.s.size + keysBulk v.ks + V.bulks v.l := by cases v; rfl
  have g := gb4 v.l
  have A := fun i => (gb_le H i).at_ 0 false
  have S := fun i => (gb_le H i).st
  have P := fun i b => (gb_le H i).part b
  have a0 := A 0
  have a1 := A 1
  have s0 := S 0
  have s1 := S 1
  have s2 := S 2
  have s3 := S 3
  have p0 := P 0 true
  have p1 := P 0 false
  have p2 := P 1 false
  have p3 := P 2 false
  have hb0 := bare_le (((v.l.map V.o).getD 0 default).at 0 false)
  have r1 := row_le H (f := fun o => o.raw false) fun o c h => by have := h.raw false; omega
  have t1 := stmts_le H
  have t2 := stail_le H
  have hf := func_le (nm := v.nm) (ks := v.ks) H
  have hn := some_le v.nm
  have h22 : v.k = 22 → tl (rawN v.k v.nm v.n v.s v.ks (v.l.map V.o) false) ≤ 4 + 64 * V.bulks v.l := fun h => by
    rw [h]
    show tl (⟨#[118, 97, 114]⟩ :: commas ((v.l.map V.o).map fun o => o.raw false)) ≤ _
    rw [tl_cons, sz]
    simp only [List.length_cons, List.length_nil]
    omega
  have hv : tl (valT (v.l.map V.o)) ≤ gb v.l 0 := by
    cases hl : v.l with
    | nil => exact Nat.zero_le _
    | cons a r =>
      rw [hl] at a0
      show tl (a.o.at 0 false) ≤ _
      have : tl (a.o.at 0 false) + 4 ≤ gb (a :: r) 0 := a0
      omega
  rw [hb]
  clear hb
  unfold stN
  refine tl_ite (fun h => ?_) (fun _ => ?_)
  · have := h22 h
    rw [tl_app, tl_cons, tl_nil, sz]
    simp only [List.length_cons, List.length_nil]
    omega
  clear h22
  have hi : ∀ {c : Prop} [Decidable c] {t : Ts}, tl (if c then t else []) ≤ tl t := fun {c} _ {t} => by
    by_cases h : c
    · rw [if_pos h]
      exact Nat.le_refl _
    · rw [if_neg h]
      exact Nat.zero_le _
  have i1 := hi (c := 2 < (v.l.map V.o).length) (t := ⟨#[101, 108, 115, 101]⟩ :: ((v.l.map V.o).getD 2 default).st)
  have i2 := hi (c := ((v.l.map V.o).getD 1 default).k = 25) (t := ⟨#[99, 97, 116, 99, 104]⟩ :: (brack ⟨#[40]⟩ ⟨#[41]⟩ [v.nm] ++ ((v.l.map V.o).getD 1 default).st))
  have i3 := hi (c := ((v.l.map V.o).getD 2 default).k = 25) (t := ⟨#[102, 105, 110, 97, 108, 108, 121]⟩ :: ((v.l.map V.o).getD 2 default).st)
  have i4 : tl (if ((v.l.map V.o).getD 0 default).k = 42 then [⟨#[100, 101, 102, 97, 117, 108, 116]⟩, ⟨#[58]⟩] else brack ⟨#[99, 97, 115, 101]⟩ ⟨#[58]⟩ (((v.l.map V.o).getD 0 default).at 0 false)) ≤ 10 + gb v.l 0 := by
    split
    · rw [tl_cons, tl_cons, tl_nil, sz, sz]
      simp only [List.length_cons, List.length_nil]
      omega
    · rw [tl_brack, sz, sz]
      simp only [List.length_cons, List.length_nil]
      omega
  simp only [tl_cons, tl_app, sz, List.length_cons, List.length_nil, tl_nil] at i1 i2 i3
  repeat' (refine tl_ite (fun _ => ?_) (fun _ => ?_))
  all_goals try simp only [tl_app, tl_cons, tl_nil, sz, head_le, block_le, List.length_cons, List.length_nil]
  all_goals omega
theorem le_all : ∀ v : V, v.ok = true → Le v.o (64 * v.bulk) := by
  refine V.ind fun k nm n s ks l ih => ?_
  generalize hv : V.mk k nm n s ks l = v
  have hvl : v.l = l := by rw [<- hv]; rfl
  rw [<- hvl] at ih
  clear hv hvl
  intro hok
  obtain ⟨R, ho⟩ := ok_right hok
  have H : ∀ u ∈ v.l, Le u.o (64 * u.bulk) := fun u hu => ih u hu (ho u hu)
  refine ⟨fun no => ?_, ?_⟩
  · rw [o_raw]
    exact raw_le R H no
  · rw [o_st]
    exact st_le R H
/-- a program's tokens, and its text -/
theorem toks_le {v : V} (h : v.ok = true) : v.toks.length ≤ 64 * v.bulk ∧ v.txt.length ≤ 64 * v.bulk := by
  have h1 := stmts_le fun u hu => le_all u ((ok_right h).2 u hu)
  have hb := bulk_ge v
  have h2 := tl_len v.toks
  have h3 := tl_join v.toks
  have h4 : tl v.toks ≤ 64 * V.bulks v.l := h1
  unfold V.txt
  omega
end Go.Proofs.YtllpgoaanbiodaaGreatDoor.R.Ps
namespace Go.Proofs.YtllpgoaanbiodaaGreatDoor.R
open Go.RowKit Go.Proofs.YtllpgoaanbiodaaGreatDoor Go.Proofs.YtllpgoaanbiodaaGreatDoor.T

abbrev blkV (l : List V) : V := .mk 25 ⟨#[]⟩ 0 ⟨#[]⟩ [] l
abbrev prgV (l : List V) : V := .mk 41 ⟨#[]⟩ 0 ⟨#[]⟩ [] l
theorem chk0 {v : V} (h : v.chk = 0) : v.k = 41 ∧ v.ok = true ∧ v.deep ≤ 64 := by
  unfold V.chk at h
  by_cases hc : v.k = 41 ∧ v.ok = true
  · rw [if_pos hc] at h
    refine ⟨hc.1, hc.2, ?_⟩
    by_cases hd : 64 < v.deep
    · rw [if_pos hd] at h; cases h
    · omega
  · rw [if_neg hc] at h
    cases h
theorem kids_st {v : V} (hk : v.k = 41) (hok : v.ok = true) : v.l.all isSt = true ∧ V.oks v.l = true := by
  obtain ⟨R, ho⟩ := Ps.ok_right hok
  refine ⟨(kids_41 hk).symm.trans R.kids, ?_⟩
  rw [oks_all]
  exact List.all_eq_true.2 ho
theorem blk_right (l : List V) : right (blkV l) = l.all isIn := by
  have h1 : fields (ctch (blkV l)) (blkV l) = true := rfl
  have h2 : kids (blkV l) = l.all isIn := rfl
  unfold right
  rw [h1, h2, Bool.true_and]
theorem prg_right (l : List V) : right (prgV l) = l.all isSt := by
  have h1 : fields (ctch (prgV l)) (prgV l) = true := rfl
  have h2 : kids (prgV l) = l.all isSt := rfl
  unfold right
  rw [h1, h2, Bool.true_and]
theorem prg_ok (l : List V) : (prgV l).ok = (l.all isSt && V.oks l) := by rw [ok_eq, prg_right]; rfl
theorem blk_ok (l : List V) : (prgV [blkV l]).ok = (l.all isIn && V.oks l) := by
  rw [prg_ok]
  have e : V.oks [blkV l] = ((blkV l).ok && true) := rfl
  have e2 : [blkV l].all isSt = true := rfl
  rw [e, e2, Bool.and_true, Bool.true_and, ok_eq, blk_right]
  rfl
theorem blk_deep (v : V) : (prgV [blkV v.l]).deep = v.deep + 1 := by
  rw [deep_eq v]
  have : (prgV [blkV v.l]).deep = max (V.deeps v.l + 1) 0 + 1 := rfl
  omega
theorem blk_size (v : V) : (prgV [blkV v.l]).size = v.size + 1 := by
  rw [size_eq v]
  have : (prgV [blkV v.l]).size = 1 + (1 + V.sizes v.l + 0) := rfl
  omega
theorem blk_bulk (v : V) : (prgV [blkV v.l]).bulk ≤ v.bulk + 1 := by
  have := bulk_ge v
  have e : (prgV [blkV v.l]).bulk = 1 + 0 + 0 + 0 + (1 + 0 + 0 + 0 + V.bulks v.l + 0) := rfl
  omega
theorem prg_bulk (a b : V) : (prgV (a.l ++ b.l)).bulk ≤ a.bulk + b.bulk := by
  have h1 := bulk_ge a
  have h2 := bulk_ge b
  have e : (prgV (a.l ++ b.l)).bulk = 1 + 0 + 0 + 0 + V.bulks (a.l ++ b.l) := rfl
  rw [bulks_append] at e
  omega
/-- a declaration of a function among statements -/
theorem isIn_iff (l : List V) (h : l.all isSt = true) : l.all isIn = !(l.any fun u => decide (u.k = 39)) := by
  induction l with
  | nil => rfl
  | cons a r ih =>
    rw [List.all_cons, Bool.and_eq_true] at h
    rw [List.all_cons, List.any_cons, ih h.2]
    unfold isIn
    rw [h.1]
    by_cases hk : a.k = 39
    · simp [hk]
    · simp [hk]
theorem blk_toks (l : List V) : (prgV [blkV l]).toks = ⟨#[123]⟩ :: (stmts (l.map V.o) ++ [⟨#[125]⟩]) := by
  unfold V.toks
  show stmts [(blkV l).o] = _
  have e : (blkV l).o.st = block (l.map V.o) := by rw [o_st]; rfl
  show (blkV l).o.st ++ [] = _
  rw [List.append_nil, e]
  rfl
theorem join_snoc : ∀ (l : List Bs) (b : Bs), l ≠ [] → Lib.join (l ++ [b]) [32] = Lib.join l [32] ++ 32 :: b
  | [], _, h => absurd rfl h
  | [a], b, _ => by
    show Lib.join [a, b] [32] = _
    rw [Ps.join_two, Ps.join_one, Ps.join_one]
  | a :: c :: r, b, _ => by
    have ih := join_snoc (c :: r) b (by simp)
    rw [List.cons_append, List.cons_append, Ps.join_two, Ps.join_two]
    rw [List.cons_append] at ih
    rw [ih]
    simp
theorem join_app : ∀ (l m : List Bs), l ≠ [] → m ≠ [] → Lib.join (l ++ m) [32] = Lib.join l [32] ++ 32 :: Lib.join m [32]
  | [], _, h, _ => absurd rfl h
  | [a], m, _, hm => by
    cases m with
    | nil => exact absurd rfl hm
    | cons b r =>
      show Lib.join (a :: b :: r) [32] = _
      rw [Ps.join_two, Ps.join_one]
  | a :: c :: r, m, _, hm => by
    have ih := join_app (c :: r) m (by simp) hm
    rw [List.cons_append, List.cons_append, Ps.join_two, Ps.join_two]
    rw [List.cons_append] at ih
    rw [ih]
    simp
theorem txt_nil {v : V} (h : v.ok = true) : v.txt = [] ↔ v.toks = [] := by
  constructor
  · intro e
    by_cases ht : v.toks = []
    · exact ht
    · exact absurd e (Ps.join_ne (Ps.toks_good h) ht)
  · intro e
    unfold V.txt
    rw [e]
    rfl
theorem blk_txt_nil {v : V} (h : v.toks = []) : (prgV [blkV v.l]).txt = [123, 32, 125] := by
  unfold V.txt
  rw [blk_toks]
  have : stmts (v.l.map V.o) = [] := h
  rw [this]
  show Lib.join [[123], [125]] [32] = _
  rw [Ps.join_two, Ps.join_one]
  rfl
theorem blk_txt {v : V} (h : v.toks ≠ []) : (prgV [blkV v.l]).txt = [123, 32] ++ v.txt ++ [32, 125] := by
  unfold V.txt
  rw [blk_toks]
  have hm : v.toks.map bl ≠ [] := by simpa using h
  rw [List.map_cons, List.map_append]
  show Lib.join ([123] :: (v.toks.map bl ++ [[125]])) [32] = _
  rw [show [123] :: (v.toks.map bl ++ [[125]]) = [[123]] ++ (v.toks.map bl ++ [[125]]) from rfl, join_app _ _ (by simp) (by simp), join_snoc _ _ hm, Ps.join_one]
  simp
theorem prg_txt {a b : V} (ha : a.toks ≠ []) (hb : b.toks ≠ []) : (prgV (a.l ++ b.l)).txt = a.txt ++ 32 :: b.txt := by
  have e : (prgV (a.l ++ b.l)).toks = a.toks ++ b.toks := by
    show stmts ((a.l ++ b.l).map V.o) = stmts (a.l.map V.o) ++ stmts (b.l.map V.o)
    unfold stmts
    rw [List.map_append, List.flatMap_append]
  unfold V.txt
  rw [e, List.map_append]
  exact join_app _ _ (by simpa using ha) (by simpa using hb)
/-- what Text answers, as a string and a number -/
def V.tx (v : V) : ByteArray := if v.chk = 0 then (if 4096 < v.txt.length then ⟨#[]⟩ else ⟨v.txt.toArray⟩) else ⟨#[]⟩
def V.te (v : V) : Int := if v.chk = 0 then (if 4096 < v.txt.length then 2 else 0) else v.chk
theorem tres_eq (v : V) : v.tres = .tuple #[.string v.tx, .int .i64 v.te] := by
  unfold V.tres V.tx V.te
  by_cases h : v.chk = 0
  · rw [if_pos h, if_pos h, if_pos h]
    by_cases h2 : 4096 < v.txt.length
    · rw [if_pos h2, if_pos h2, if_pos h2]
    · rw [if_neg h2, if_neg h2, if_neg h2]
  · rw [if_neg h, if_neg h, if_neg h]
theorem te_zero {v : V} : v.te = 0 ↔ v.chk = 0 ∧ v.txt.length ≤ 4096 := by
  unfold V.te
  by_cases h : v.chk = 0
  · rw [if_pos h]
    by_cases h2 : 4096 < v.txt.length
    · rw [if_pos h2]
      constructor
      · intro h; cases h
      · intro h; omega
    · rw [if_neg h2]
      exact ⟨fun _ => ⟨h, by omega⟩, fun _ => rfl⟩
  · rw [if_neg h]
    exact ⟨fun h' => absurd h' h, fun h' => absurd h'.1 h⟩
theorem tx_ok {v : V} (h : v.te = 0) : v.tx = ⟨v.txt.toArray⟩ := by
  obtain ⟨h1, h2⟩ := te_zero.1 h
  unfold V.tx
  rw [if_pos h1, if_neg (by omega)]
theorem chk_val (v : V) : v.chk = 70 ∨ v.chk = 31 ∨ v.chk = 0 := by
  unfold V.chk
  split
  · split
    · exact .inr (.inl rfl)
    · exact .inr (.inr rfl)
  · exact .inl rfl
theorem te_val (v : V) : v.te = 70 ∨ v.te = 31 ∨ v.te = 2 ∨ v.te = 0 := by
  unfold V.te
  rcases chk_val v with h | h | h
  · rw [h]; exact .inl rfl
  · rw [h]; exact .inr (.inl rfl)
  · rw [h, if_pos rfl]
    split
    · exact .inr (.inr (.inl rfl))
    · exact .inr (.inr (.inr rfl))
theorem tx_nil {v : V} (h : v.te = 0) : v.tx = ⟨#[]⟩ ↔ v.toks = [] := by
  obtain ⟨h1, h2⟩ := te_zero.1 h
  rw [← txt_nil (chk0 h1).2.1, tx_ok h]
  constructor
  · intro e
    have := congrArg (fun b : ByteArray => b.data.toList) e
    simpa using this
  · intro e
    rw [e]
/-- TreeBlocks, plain -/
theorem blk_bad {v : V} (h : v.te = 0) (hf : (v.l.any fun u => decide (u.k = 39)) = true) : (prgV [blkV v.l]).te = 70 := by
  obtain ⟨h1, _⟩ := te_zero.1 h
  obtain ⟨hk, hok, _⟩ := chk0 h1
  obtain ⟨hs, _⟩ := kids_st hk hok
  have hb : (prgV [blkV v.l]).ok = false := by rw [blk_ok, isIn_iff _ hs, hf]; rfl
  have hc : (prgV [blkV v.l]).chk = 70 := by
    unfold V.chk
    rw [if_neg (by rw [hb]; simp)]
  unfold V.te
  rw [if_neg (by rw [hc]; decide), hc]
theorem blk_fine {v : V} (h : v.te = 0) (hf : (v.l.any fun u => decide (u.k = 39)) = false) : (prgV [blkV v.l]).te = 31 ∨ (prgV [blkV v.l]).te = 2 ∨ (prgV [blkV v.l]).te = 0 := by
  obtain ⟨h1, _⟩ := te_zero.1 h
  obtain ⟨hk, hok, _⟩ := chk0 h1
  obtain ⟨hs, ho⟩ := kids_st hk hok
  have hb : (prgV [blkV v.l]).ok = true := by rw [blk_ok, isIn_iff _ hs, hf, ho]; rfl
  have hc : ¬ (prgV [blkV v.l]).chk = 70 := by
    unfold V.chk
    rw [if_pos ⟨rfl, hb⟩]
    split <;> decide
  rcases te_val (prgV [blkV v.l]) with h | h | h | h
  · unfold V.te at h
    by_cases h0 : (prgV [blkV v.l]).chk = 0
    · rw [if_pos h0] at h
      split at h <;> cases h
    · rw [if_neg h0] at h
      exact absurd h hc
  · exact .inl h
  · exact .inr (.inl h)
  · exact .inr (.inr h)
theorem blk_tx {v : V} (h : v.te = 0) (hb : (prgV [blkV v.l]).te = 0) : (v.tx = ⟨#[]⟩ → (prgV [blkV v.l]).tx = ⟨#[123, 32, 125]⟩) ∧ (¬ v.tx = ⟨#[]⟩ → (prgV [blkV v.l]).tx = ⟨#[123, 32]⟩ ++ v.tx ++ ⟨#[32, 125]⟩) := by
  rw [tx_nil h, tx_ok hb]
  refine ⟨fun e => ?_, fun e => ?_⟩
  · rw [blk_txt_nil e]
  · rw [blk_txt e, tx_ok h]
    apply ByteArray.ext
    simp
end Go.Proofs.YtllpgoaanbiodaaGreatDoor.R
namespace Go.Proofs.YtllpgoaanbiodaaGreatDoor.R
open Go.RowKit Go.Proofs.YtllpgoaanbiodaaGreatDoor Go.Proofs.YtllpgoaanbiodaaGreatDoor.T

theorem ba_size (l : Bs) : (⟨l.toArray⟩ : ByteArray).size = l.length := by show l.toArray.size = _; simp
theorem join_chk {a b : V} (ha : a.chk = 0) (hb : b.chk = 0) : (prgV (a.l ++ b.l)).chk = 0 := by
  obtain ⟨ka, oa, da⟩ := chk0 ha
  obtain ⟨kb, ob, db⟩ := chk0 hb
  obtain ⟨sa, xa⟩ := kids_st ka oa
  obtain ⟨sb, xb⟩ := kids_st kb ob
  have ho : (prgV (a.l ++ b.l)).ok = true := by rw [prg_ok, List.all_append, oks_append, sa, sb, xa, xb]; rfl
  have hd : (prgV (a.l ++ b.l)).deep ≤ 64 := by
    have e : (prgV (a.l ++ b.l)).deep = V.deeps (a.l ++ b.l) + 1 := rfl
    rw [deep_eq a] at da
    rw [deep_eq b] at db
    rw [e, deeps_append]
    omega
  unfold V.chk
  rw [if_pos ⟨rfl, ho⟩, if_neg (by omega)]
theorem join_te {a b : V} (ha : a.te = 0) (hb : b.te = 0) (na : ¬ a.tx = ⟨#[]⟩) (nb : ¬ b.tx = ⟨#[]⟩) :
    (4096 < a.tx.size + 1 + b.tx.size → (prgV (a.l ++ b.l)).te = 2) ∧ (¬ 4096 < a.tx.size + 1 + b.tx.size → (prgV (a.l ++ b.l)).te = 0 ∧ (prgV (a.l ++ b.l)).tx = a.tx ++ ⟨#[32]⟩ ++ b.tx) := by
  rw [tx_nil ha] at na
  rw [tx_nil hb] at nb
  have hc := join_chk (te_zero.1 ha).1 (te_zero.1 hb).1
  have ht := prg_txt na nb
  rw [tx_ok ha, tx_ok hb, ba_size, ba_size]
  have hl : (prgV (a.l ++ b.l)).txt.length = a.txt.length + 1 + b.txt.length := by rw [ht, List.length_append, List.length_cons]; omega
  refine ⟨fun h => ?_, fun h => ?_⟩
  · unfold V.te
    rw [if_pos hc, if_pos (by omega)]
  · have h0 : (prgV (a.l ++ b.l)).te = 0 := te_zero.2 ⟨hc, by omega⟩
    refine ⟨h0, ?_⟩
    rw [tx_ok h0, ht]
    apply ByteArray.ext
    simp
theorem tx_size {v : V} (h : v.te = 0) : v.tx.size ≤ 4096 := by
  rw [tx_ok h, ba_size]
  exact (te_zero.1 h).2
/-- the block's text, with what the law puts between -/
theorem grow_tx {v : V} (h : v.te = 0) (hb : (prgV [blkV v.l]).te = 0) : (prgV [blkV v.l]).tx = ⟨#[123, 32]⟩ ++ (if v.tx = ⟨#[]⟩ then ⟨#[]⟩ else v.tx ++ ⟨#[32]⟩) ++ ⟨#[125]⟩ := by
  obtain ⟨h1, h2⟩ := blk_tx h hb
  by_cases hn : v.tx = ⟨#[]⟩
  · rw [h1 hn, if_pos hn]
    rfl
  · rw [h2 hn, if_neg hn]
    apply ByteArray.ext
    apply Array.toList_inj.1
    simp
theorem apart_tx {a b : V} (ha : a.te = 0) (hb : b.te = 0) : a.tx = b.tx ↔ a = b := by
  rw [tx_ok ha, tx_ok hb, ← Ps.txt_apart (te_zero.1 ha).1 (te_zero.1 hb).1]
  constructor
  · intro e
    have := congrArg (fun b : ByteArray => b.data.toList) e
    simpa using this
  · intro e
    rw [e]
end Go.Proofs.YtllpgoaanbiodaaGreatDoor.R
