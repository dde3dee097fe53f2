/-
  PLAIN: a parser of a tree's tokens, and its rules.
  PLAIN: the parser's rules.
  PLAIN: tokens of what a tree is written as; heads, levels.
  PLAIN: expressions, kind for kind.
  PLAIN: every token that is written is cut as itself; two trees of the same text are the same.
  PLAIN: how long what is written is at most.
-/
import Derived.Test.YtllpgoaanbiodaaGreatDoorMO
import Derived.Test.YtllpgoaanbiodaaGreatDoorMTC
import Derived.Test.YtllpgoaanbiodaaGreatDoorMKd
import Derived.Test.YtllpgoaanbiodaaGreatDoorMWk
namespace Go.Proofs.YtllpgoaanbiodaaGreatDoor.R.Ps
open Go.RowKit Go.Proofs.YtllpgoaanbiodaaGreatDoor Go.Proofs.YtllpgoaanbiodaaGreatDoor.T Go.Proofs.YtllpgoaanbiodaaGreatDoor.R
abbrev tS (s : Bs) : Tok := ⟨5, s, 0⟩
abbrev tW (s : Bs) : Tok := ⟨2, s, 0⟩
abbrev wFn : Bs := [102, 117, 110, 99, 116, 105, 111, 110]
abbrev wIn : Bs := [105, 110]
abbrev wNew : Bs := [110, 101, 119]
abbrev wCase : Bs := [99, 97, 115, 101]
abbrev wDef : Bs := [100, 101, 102, 97, 117, 108, 116]
abbrev wElse : Bs := [101, 108, 115, 101]
abbrev wCatch : Bs := [99, 97, 116, 99, 104]
abbrev wFin : Bs := [102, 105, 110, 97, 108, 108, 121]
abbrev wWhile : Bs := [119, 104, 105, 108, 101]
abbrev wVar : Bs := [118, 97, 114]
/-- a node with children alone; with a name besides -/
def nd (k : Int) (l : List V) : V := .mk k ⟨#[]⟩ 0 ⟨#[]⟩ [] l
def nam (k : Int) (s : Bs) (l : List V) : V := .mk k ⟨s.toArray⟩ 0 ⟨#[]⟩ [] l
/-- what is to be read: an expression; one that begins; what stands behind it; a function's rest; .. -/
inductive Md where
  | ex (m : Nat) (no : Bool)
  | pre (no : Bool)
  | lo (m : Nat) (no : Bool) (v : V)
  | args (c : Tok)
  | more (c : Tok)
  | props
  | moreP
  | pars
  | moreN
  | fn (k : Int)
  | sts
  | st
  | decl (no : Bool)
  | cases
  | part (no : Bool)
abbrev Rs := Option (List V × List Tok)
abbrev Rd := Md → List Tok → Rs
def bnd (x : Rs) (g : List V → List Tok → Rs) : Rs := match x with
  | some (l, r) => g l r
  | none => none
def need (c : Tok) (ts : List Tok) (g : List Tok → Rs) : Rs := match ts with
  | t :: r => if t = c then g r else none
  | [] => none
/-- which sort of continuation a token is, and how tight it binds -/
def cl (no : Bool) (t : Tok) : Option (Nat × Nat) :=
  if t.k = 1 ∨ t.k = 3 ∨ t.k = 4 then none
  else if t = tS [46] then some (1, 13)
  else if t = tS [91] then some (2, 13)
  else if t = tS [40] then some (3, 11)
  else if t = tS [43, 43] ∨ t = tS [45, 45] then some (4, 10)
  else if t = tS [63] then some (5, 2)
  else if t = tS [44] then some (7, 0)
  else if t.k = 5 ∧ asOps.contains t.t = true then some (6, 1)
  else if (t.k = 5 ∨ t = tW [105, 110, 115, 116, 97, 110, 99, 101, 111, 102] ∨ (t = tW wIn ∧ no = false)) ∧ ¬ opl t.t = 0 then some (8, opl t.t)
  else none
def cont (R : Rd) (m : Nat) (no : Bool) (k : Nat) (v : V) (t : Tok) (r : List Tok) : Rs := match k with
  | 1 => match r with
    | x :: r => if x.k = 1 ∨ x.k = 2 then R (.lo m no (nam 11 x.t [v])) r else none
    | [] => none
  | 2 => bnd (R (.ex 0 false) r) fun l r => need (tS [93]) r fun r => R (.lo m no (nd 12 (v :: l))) r
  | 3 => bnd (R (.args (tS [41])) r) fun l r => R (.lo m no (nd 13 (v :: l))) r
  | 4 => R (.lo m no (nam 16 t.t [v])) r
  | 5 => bnd (R (.ex 1 false) r) fun a r => need (tS [58]) r fun r => bnd (R (.ex 1 no) r) fun b r => R (.lo m no (nd 19 (v :: (a ++ b)))) r
  | 6 => bnd (R (.ex 1 no) r) fun b r => R (.lo m no (nam 20 t.t (v :: b))) r
  | 7 => bnd (R (.ex 1 no) r) fun b r => R (.lo m no (nd 21 (v :: b))) r
  | _ => bnd (R (.ex (opl t.t + 1) no) r) fun b r => R (.lo m no (nam (if opl t.t ≤ 4 then 18 else 17) t.t (v :: b))) r
def pre (R : Rd) (no : Bool) (t : Tok) (r : List Tok) : Rs :=
  if t.k = 3 then some ([.mk 1 ⟨#[]⟩ t.n ⟨#[]⟩ [] []], r)
  else if t.k = 4 then some ([.mk 2 ⟨#[]⟩ 0 ⟨t.t.toArray⟩ [] []], r)
  else if t.k = 1 then some ([nam 3 t.t []], r)
  else if t = tW [116, 104, 105, 115] then some ([nd 4 []], r)
  else if t = tW [110, 117, 108, 108] then some ([nd 5 []], r)
  else if t = tW [102, 97, 108, 115, 101] then some ([nd 6 []], r)
  else if t = tW [116, 114, 117, 101] then some ([.mk 6 ⟨#[]⟩ 1 ⟨#[]⟩ [] []], r)
  else if t = tW wFn then R (.fn 10) r
  else if t = tS [40] then bnd (R (.ex 0 false) r) fun l r => need (tS [41]) r fun r => some (l, r)
  else if t = tS [91] then bnd (R (.args (tS [93])) r) fun l r => some ([nd 7 l], r)
  else if t = tS [123] then bnd (R .props r) fun l r => some ([nd 8 l], r)
  else if t = tW wNew then bnd (R (.ex 12 no) r) fun l r => need (tS [40]) r fun r => bnd (R (.args (tS [41])) r) fun a r => some ([nd 14 (l ++ a)], r)
  else if t = tS [43, 43] ∨ t = tS [45, 45] then bnd (R (.ex 11 no) r) fun l r => some ([.mk 16 ⟨t.t.toArray⟩ 1 ⟨#[]⟩ [] l], r)
  else if unOps.contains t.t = true then bnd (R (.ex 9 no) r) fun l r => some ([nam 15 t.t l], r)
  else none
def prop (R : Rd) (ts : List Tok) : Rs := match ts with
  | x :: r => if x.k = 4 then need (tS [58]) r fun r => bnd (R (.ex 1 false) r) fun l r => bnd (R .moreP r) fun m r => some (.mk 9 ⟨#[]⟩ 0 ⟨x.t.toArray⟩ [] l :: m, r) else none
  | [] => none
def func1 (R : Rd) (k : Int) (nm : Bs) (ts : List Tok) : Rs :=
  need (tS [40]) ts fun r => bnd (R .pars r) fun ks r => need (tS [123]) r fun r => bnd (R .sts r) fun l r => need (tS [125]) r fun r => some ([.mk k ⟨nm.toArray⟩ 0 ⟨#[]⟩ (ks.map V.nm) l], r)
def moreD (R : Rd) (no : Bool) (v : V) (r : List Tok) : Rs := match r with
  | t :: q => if t = tS [44] then bnd (R (.decl no) q) fun l r => some (v :: l, r) else some ([v], r)
  | [] => some ([v], [])
def head (R : Rd) (r : List Tok) (g : List V → List Tok → Rs) : Rs := need (tS [40]) r fun r => bnd (R (.ex 0 false) r) fun c r => need (tS [41]) r fun r => g c r
def els (R : Rd) (l : List V) (r : List Tok) : Rs := match r with
  | x :: q => if x = tW wElse then bnd (R .st q) fun b r => some ([nd 26 (l ++ b)], r) else some ([nd 26 l], r)
  | [] => some ([nd 26 l], [])
def fin (R : Rd) (nm : Bs) (l : List V) (r : List Tok) : Rs := match r with
  | x :: q => if x = tW wFin then bnd (R .st q) fun c r => some ([nam 35 nm (l ++ c)], r) else some ([nam 35 nm (l ++ [nd 42 []])], r)
  | [] => some ([nam 35 nm (l ++ [nd 42 []])], [])
def tryS (R : Rd) (r : List Tok) : Rs := bnd (R .st r) fun a r => match r with
  | x :: q => if x = tW wCatch then need (tS [40]) q fun r => (match r with
      | y :: r => need (tS [41]) r fun r => bnd (R .st r) fun b r => fin R y.t (a ++ b) r
      | [] => none) else fin R [] (a ++ [nd 42 []]) r
  | [] => fin R [] (a ++ [nd 42 []]) []
def lab (k : Int) (r : List Tok) : Rs := match r with
  | x :: q => if x.k = 1 then need (tS [59]) q fun r => some ([nam k x.t []], r) else need (tS [59]) r fun r => some ([nd k []], r)
  | [] => none
def loop (R : Rd) (r : List Tok) : Rs := need (tS [40]) r fun r => bnd (R (.part true) r) fun a r => match r with
  | x :: q => if x = tW wIn then bnd (R (.ex 0 false) q) fun b r => need (tS [41]) r fun r => bnd (R .st r) fun c r => some ([nd 30 (a ++ (b ++ c))], r)
      else need (tS [59]) r fun r => bnd (R (.part false) r) fun b r => need (tS [59]) r fun r => bnd (R (.part false) r) fun c r => need (tS [41]) r fun r => bnd (R .st r) fun d r => some ([nd 29 (a ++ (b ++ (c ++ d)))], r)
  | [] => none
def short (R : Rd) (ts : List Tok) : Rs := bnd (R (.ex 0 false) ts) fun l r => match r with
  | x :: q => if x = tS [59] then some ([nd 24 l], q) else if x = tS [58] then bnd (R .st q) fun m r => some ([nam 38 (bl (l.headD default).nm) m], r) else none
  | [] => none
def stm (R : Rd) (t : Tok) (r : List Tok) : Rs :=
  if t.k = 1 ∨ t.k = 3 ∨ t.k = 4 then short R (t :: r)
  else if t = tS [123] then bnd (R .sts r) fun l r => need (tS [125]) r fun r => some ([nd 25 l], r)
  else if t = tS [59] then some ([nd 40 []], r)
  else if t = tW wVar then bnd (R (.decl false) r) fun l r => need (tS [59]) r fun r => some ([nd 22 l], r)
  else if t = tW wFn then R (.fn 39) r
  else if t = tW [105, 102] then head R r fun c r => bnd (R .st r) fun a r => els R (c ++ a) r
  else if t = tW wWhile then head R r fun c r => bnd (R .st r) fun a r => some ([nd 27 (c ++ a)], r)
  else if t = tW [100, 111] then bnd (R .st r) fun a r => need (tW wWhile) r fun r => head R r fun c r => need (tS [59]) r fun r => some ([nd 28 (a ++ c)], r)
  else if t = tW [102, 111, 114] then loop R r
  else if t = tW [116, 114, 121] then tryS R r
  else if t = tW [115, 119, 105, 116, 99, 104] then head R r fun c r => need (tS [123]) r fun r => bnd (R .cases r) fun l r => need (tS [125]) r fun r => some ([nd 36 (c ++ l)], r)
  else if t = tW [98, 114, 101, 97, 107] then lab 31 r
  else if t = tW [99, 111, 110, 116, 105, 110, 117, 101] then lab 32 r
  else if t = tW [114, 101, 116, 117, 114, 110] then (match r with
    | x :: q => if x = tS [59] then some ([nd 33 []], q) else bnd (R (.ex 0 false) r) fun l r => need (tS [59]) r fun r => some ([nd 33 l], r)
    | [] => none)
  else if t = tW [116, 104, 114, 111, 119] then bnd (R (.ex 0 false) r) fun l r => need (tS [59]) r fun r => some ([nd 34 l], r)
  else short R (t :: r)
/-- a step: what lies within is read by R -/
def step (R : Rd) : Md → List Tok → Rs
  | .ex m no, ts => bnd (R (.pre no) ts) fun l r => R (.lo m no (l.headD default)) r
  | .pre no, ts => match ts with
    | t :: r => pre R no t r
    | [] => none
  | .lo m no v, ts => match ts with
    | t :: r => (match cl no t with
      | some (k, c) => if c < m then some ([v], ts) else cont R m no k v t r
      | none => some ([v], ts))
    | [] => some ([v], [])
  | .args c, ts => match ts with
    | t :: r => if t = c then some ([], r) else bnd (R (.ex 1 false) ts) fun l r => bnd (R (.more c) r) fun m r => some (l ++ m, r)
    | [] => none
  | .more c, ts => match ts with
    | t :: r => if t = c then some ([], r) else if t = tS [44] then bnd (R (.ex 1 false) r) fun l r => bnd (R (.more c) r) fun m r => some (l ++ m, r) else none
    | [] => none
  | .props, ts => match ts with
    | t :: r => if t = tS [125] then some ([], r) else prop R ts
    | [] => none
  | .moreP, ts => match ts with
    | t :: r => if t = tS [125] then some ([], r) else if t = tS [44] then prop R r else none
    | [] => none
  | .pars, ts => match ts with
    | t :: r => if t = tS [41] then some ([], r) else bnd (R .moreN r) fun l r => some (nam 3 t.t [] :: l, r)
    | [] => none
  | .moreN, ts => match ts with
    | t :: r => if t = tS [41] then some ([], r) else if t = tS [44] then (match r with
        | x :: r => bnd (R .moreN r) fun l r => some (nam 3 x.t [] :: l, r)
        | [] => none) else none
    | [] => none
  | .fn k, ts => match ts with
    | t :: r => if t.k = 1 then func1 R k t.t r else func1 R k [] ts
    | [] => none
  | .sts, ts => match ts with
    | t :: _ => if t = tS [125] ∨ t = tW wCase ∨ t = tW wDef then some ([], ts) else bnd (R .st ts) fun l r => bnd (R .sts r) fun m r => some (l ++ m, r)
    | [] => some ([], [])
  | .st, ts => match ts with
    | t :: r => stm R t r
    | [] => none
  | .decl no, ts => match ts with
    | t :: r => (match r with
      | x :: q => if x = tS [61] then bnd (R (.ex 1 no) q) fun l r => moreD R no (nam 23 t.t l) r else moreD R no (nam 23 t.t []) r
      | [] => none)
    | [] => none
  | .cases, ts => match ts with
    | t :: r => if t = tS [125] then some ([], ts)
      else if t = tW wDef then need (tS [58]) r fun r => bnd (R .sts r) fun l r => bnd (R .cases r) fun m r => some (nd 37 (nd 42 [] :: l) :: m, r)
      else bnd (R (.ex 0 false) r) fun a r => need (tS [58]) r fun r => bnd (R .sts r) fun l r => bnd (R .cases r) fun m r => some (nd 37 (a ++ l) :: m, r)
    | [] => none
  | .part no, ts => match ts with
    | t :: r => if t = tW wVar then bnd (R (.decl no) r) fun l r => some ([nd 22 l], r) else if t = tS [59] ∨ t = tS [41] then some ([nd 42 []], ts) else R (.ex 0 no) ts
    | [] => none
def run : Nat → Rd
  | 0 => fun _ _ => none
  | f + 1 => step (run f)
/-- so it is read, whatever depth from some on -/
def To (m : Md) (ts : List Tok) (x : List V × List Tok) : Prop := ∃ N, ∀ f, N ≤ f → run f m ts = some x
theorem To.one {m : Md} {ts : List Tok} {x y : List V × List Tok} (h : To m ts x) (k : To m ts y) : x = y := by
  obtain ⟨N, h⟩ := h
  obtain ⟨M, k⟩ := k
  have e := (h (max N M) (Nat.le_max_left _ _)).symm.trans (k (max N M) (Nat.le_max_right _ _))
  exact Option.some.inj e
theorem To.of {m : Md} {ts : List Tok} {x : List V × List Tok} (N : Nat) (h : ∀ f, N ≤ f → step (run f) m ts = some x) : To m ts x :=
  ⟨N + 1, fun f hf => by
    cases f with
    | zero => omega
    | succ f => exact h f (by omega)⟩
theorem To.zero {m : Md} {ts : List Tok} {x : List V × List Tok} (h : ∀ R : Rd, step R m ts = some x) : To m ts x := To.of 0 fun _ _ => h _
end Go.Proofs.YtllpgoaanbiodaaGreatDoor.R.Ps
namespace Go.Proofs.YtllpgoaanbiodaaGreatDoor.R.Ps
open Go.RowKit Go.Proofs.YtllpgoaanbiodaaGreatDoor Go.Proofs.YtllpgoaanbiodaaGreatDoor.T Go.Proofs.YtllpgoaanbiodaaGreatDoor.R
/-- what stands behind an expression of that level does not go on with it -/
def stop (m : Nat) (no : Bool) (ts : List Tok) : Bool := match ts with
  | [] => true
  | t :: _ => match cl no t with
    | some x => decide (x.2 < m)
    | none => true
end Go.Proofs.YtllpgoaanbiodaaGreatDoor.R.Ps
namespace Go.Proofs.YtllpgoaanbiodaaGreatDoor.R.Ps
open Go.RowKit Go.Proofs.YtllpgoaanbiodaaGreatDoor Go.Proofs.YtllpgoaanbiodaaGreatDoor.T Go.Proofs.YtllpgoaanbiodaaGreatDoor.R
/-- a token's text as a token -/
def tkb (l : Bs) : Tok := match T.one l with
  | some x => x.1
  | none => ⟨0, [], 0⟩
abbrev tk (s : ByteArray) : Tok := tkb (bl s)
/-! a node's fields -/
theorem ba_eta (s : ByteArray) : (⟨(bl s).toArray⟩ : ByteArray) = s := by cases s; simp [bl]
theorem ba_nil {s : ByteArray} (h : s.size = 0) : s = ⟨#[]⟩ := by
  rw [<- ba_eta s, List.eq_nil_of_length_eq_zero (show (bl s).length = 0 by rw [size_list]; exact h)]
structure Rt (v : V) : Prop where
  nm : nmOk (ctch v) v = true
  num : numOk v = true
  tx : txOk v = true
  ns : nsOk v = true
  kids : kids v = true
theorem rt {v : V} (h : right v = true) : Rt v := by
  unfold right fields at h
  simp only [Bool.and_eq_true] at h
  obtain ⟨⟨h1, h2, h3, h4⟩, h5⟩ := h
  exact ⟨h1, h2, h3, h4, h5⟩
theorem Rt.n0 {v : V} (h : Rt v) (hk : ¬ (v.k = 1 ∨ v.k = 6 ∨ v.k = 16)) : v.n = 0 := by
  have := h.num
  unfold numOk at this
  rw [if_neg (by omega), if_neg (by omega)] at this
  exact of_decide_eq_true this
theorem Rt.s0 {v : V} (h : Rt v) (hk : ¬ (v.k = 2 ∨ v.k = 9)) : v.s = ⟨#[]⟩ := by
  have := h.tx
  unfold txOk at this
  rw [if_neg hk] at this
  exact ba_nil (of_decide_eq_true this)
theorem Rt.ks0 {v : V} (h : Rt v) (hk : ¬ (v.k = 10 ∨ v.k = 39)) : v.ks = [] := by
  have := h.ns
  unfold nsOk at this
  rw [if_neg hk] at this
  simpa using this
theorem v_eta (v : V) : v = .mk v.k v.nm v.n v.s v.ks v.l := by cases v; rfl
theorem Rt.nam {v : V} (h : Rt v) {k : Int} (hk : v.k = k) (h1 : ¬ (k = 1 ∨ k = 6 ∨ k = 16)) (h2 : ¬ (k = 2 ∨ k = 9)) (h3 : ¬ (k = 10 ∨ k = 39)) : v = nam k (bl v.nm) v.l := by
  conv => lhs; rw [v_eta v, h.n0 (by rw [hk]; exact h1), h.s0 (by rw [hk]; exact h2), h.ks0 (by rw [hk]; exact h3), hk]
  unfold Ps.nam
  rw [ba_eta]
theorem Rt.nd {v : V} (h : Rt v) {k : Int} (hk : v.k = k) (h0 : v.nm.size = 0) (h1 : ¬ (k = 1 ∨ k = 6 ∨ k = 16)) (h2 : ¬ (k = 2 ∨ k = 9)) (h3 : ¬ (k = 10 ∨ k = 39)) : v = nd k v.l := by
  conv => lhs; rw [v_eta v, h.n0 (by rw [hk]; exact h1), h.s0 (by rw [hk]; exact h2), h.ks0 (by rw [hk]; exact h3), hk, ba_nil h0]
  rfl
theorem ok_right {v : V} (h : v.ok = true) : Rt v ∧ ∀ u ∈ v.l, u.ok = true := by
  rw [ok_eq, Bool.and_eq_true, oks_all, List.all_eq_true] at h
  exact ⟨rt h.1, h.2⟩
theorem opl_le (s : Bs) : opl s ≤ 8 := by
  unfold opl
  repeat' split
  all_goals omega
theorem lvl_le (v : V) : v.o.lvl ≤ 13 := by
  rw [o_lvl]
  have := opl_le (bl v.nm)
  unfold lvlN
  repeat' split
  all_goals omega
/-! heads -/
/-- an expression may begin so -/
def fT (t : Tok) : Bool := decide (t.k = 1 ∨ t.k = 3 ∨ t.k = 4) || [tW [116, 104, 105, 115], tW [110, 117, 108, 108], tW [116, 114, 117, 101], tW [102, 97, 108, 115, 101], tW wFn, tS [40], tS [91], tS [123], tW wNew, tS [43, 43], tS [45, 45], tS [45], tS [43], tS [33], tW [116, 121, 112, 101, 111, 102], tW [100, 101, 108, 101, 116, 101], tW [118, 111, 105, 100]].contains t
/-- a statement may begin so -/
def sT (t : Tok) : Bool := fT t || [tS [59], tW wVar, tW [105, 102], tW wWhile, tW [100, 111], tW [102, 111, 114], tW [116, 114, 121], tW [115, 119, 105, 116, 99, 104], tW [98, 114, 101, 97, 107], tW [99, 111, 110, 116, 105, 110, 117, 101], tW [114, 101, 116, 117, 114, 110], tW [116, 104, 114, 111, 119]].contains t
def HasH (l : Ts) : Prop := ∃ s r, l = s :: r ∧ fT (tk s) = true ∧ (tk s = tS [123] → s = ⟨#[123]⟩) ∧ (tk s = tW wFn → s = ⟨#[102, 117, 110, 99, 116, 105, 111, 110]⟩)
def HasS (l : Ts) : Prop := ∃ s r, l = s :: r ∧ sT (tk s) = true
theorem HasH.app {a : Ts} (h : HasH a) (b : Ts) : HasH (a ++ b) := by
  obtain ⟨s, r, rfl, h⟩ := h
  exact ⟨s, r ++ b, rfl, h⟩
theorem HasH.s {a : Ts} (h : HasH a) : HasS a := by
  obtain ⟨s, r, rfl, h, _⟩ := h
  exact ⟨s, r, rfl, by unfold sT; rw [h]; rfl⟩
theorem HasS.app {a : Ts} (h : HasS a) (b : Ts) : HasS (a ++ b) := by
  obtain ⟨s, r, rfl, h⟩ := h
  exact ⟨s, r ++ b, rfl, h⟩
end Go.Proofs.YtllpgoaanbiodaaGreatDoor.R.Ps
namespace Go.Proofs.YtllpgoaanbiodaaGreatDoor.R.Ps
open Go.RowKit Go.Proofs.YtllpgoaanbiodaaGreatDoor Go.Proofs.YtllpgoaanbiodaaGreatDoor.T Go.Proofs.YtllpgoaanbiodaaGreatDoor.R
theorem nil_of {l : List V} {b : Bool} (h : b = l.isEmpty) (hb : b = true) : l = [] := by
  rw [h] at hb
  simpa using hb
theorem isE_k {v : V} (h : isE v = true) : v.k = 1 ∨ v.k = 2 ∨ v.k = 3 ∨ v.k = 4 ∨ v.k = 5 ∨ v.k = 6 ∨ v.k = 7 ∨ v.k = 8 ∨ v.k = 10 ∨ v.k = 11 ∨ v.k = 12 ∨ v.k = 13 ∨ v.k = 14 ∨ v.k = 15 ∨ v.k = 16 ∨ v.k = 17 ∨ v.k = 18 ∨ v.k = 19 ∨ v.k = 20 ∨ v.k = 21 := by
  have := of_decide_eq_true h
  omega
end Go.Proofs.YtllpgoaanbiodaaGreatDoor.R.Ps
namespace Go.Proofs.YtllpgoaanbiodaaGreatDoor.R.Ps
open Go.RowKit Go.Proofs.YtllpgoaanbiodaaGreatDoor Go.Proofs.YtllpgoaanbiodaaGreatDoor.T Go.Proofs.YtllpgoaanbiodaaGreatDoor.R
/-- a text that is a token's -/
def G (s : ByteArray) : Prop := ∃ p : Tk, T.Good p (bl s)
def AG (l : Ts) : Prop := ∀ s ∈ l, G s
theorem ag_nil : AG [] := fun _ h => by cases h
theorem ag_cons {s : ByteArray} {l : Ts} (h : G s) (k : AG l) : AG (s :: l) := fun x hx => by
  rcases List.mem_cons.1 hx with rfl | hx
  · exact h
  · exact k x hx
theorem ag_app {a b : Ts} (h : AG a) (k : AG b) : AG (a ++ b) := fun x hx => by
  rcases List.mem_append.1 hx with hx | hx
  · exact h x hx
  · exact k x hx
theorem g_sign (l : Bs) (h : l ∈ signs) : G ⟨l.toArray⟩ := ⟨⟨5, l, 0, 0, false⟩, by
  show T.Good _ (l.toArray.toList)
  rw [List.toList_toArray]
  exact good_sign rfl h⟩
theorem ag_one {s : ByteArray} (h : G s) : AG [s] := ag_cons h ag_nil
theorem ag_brack {a b : ByteArray} {t : Ts} (ha : G a) (hb : G b) (ht : AG t) : AG (brack a b t) := ag_cons ha (ag_app ht (ag_one hb))
theorem g40 : G ⟨#[40]⟩ := g_sign [40] (by decide)
theorem g41 : G ⟨#[41]⟩ := g_sign [41] (by decide)
/-- what a node offers is good -/
structure Og (o : O) : Prop where
  raw : ∀ no, AG (o.raw no)
  st : AG o.st
theorem Og.at_ {o : O} (h : Og o) (m : Nat) (no : Bool) : AG (o.at m no) := by
  unfold O.at
  split
  · exact ag_brack g40 g41 (h.raw false)
  · exact h.raw no
theorem Og.part {o : O} (h : Og o) (no : Bool) : AG (o.part no) := by
  unfold O.part
  split
  · exact ag_nil
  split
  · exact h.raw no
  · exact h.at_ 0 no
end Go.Proofs.YtllpgoaanbiodaaGreatDoor.R.Ps
namespace Go.Proofs.YtllpgoaanbiodaaGreatDoor.R.Ps
open Go.RowKit Go.Proofs.YtllpgoaanbiodaaGreatDoor Go.Proofs.YtllpgoaanbiodaaGreatDoor.T Go.Proofs.YtllpgoaanbiodaaGreatDoor.R
/-- bytes, and one for each token -/
def tl : Ts → Nat
  | [] => 0
  | s :: r => s.size + 1 + tl r
theorem tl_cons (s : ByteArray) (r : Ts) : tl (s :: r) = s.size + 1 + tl r := rfl
theorem tl_nil : tl [] = 0 := rfl
theorem tl_app (a b : Ts) : tl (a ++ b) = tl a + tl b := by
  induction a with
  | nil => simp [tl]
  | cons x r ih => rw [List.cons_append, tl_cons, tl_cons, ih]; omega
theorem tl_len (l : Ts) : l.length ≤ tl l := by
  induction l with
  | nil => exact Nat.le_refl _
  | cons x r ih => rw [List.length_cons, tl_cons]; omega
theorem tl_brack (a b : ByteArray) (t : Ts) : tl (brack a b t) = a.size + b.size + 2 + tl t := by
  unfold brack
  rw [tl_cons, tl_app, tl_cons, tl_nil]
  omega
theorem join_one (a : Bs) : Lib.join [a] [32] = a := by simp [Lib.join]
theorem join_two (a b : Bs) (r : List Bs) : Lib.join (a :: b :: r) [32] = a ++ 32 :: Lib.join (b :: r) [32] := by simp [Lib.join]
theorem tl_join : ∀ l : Ts, (Lib.join (l.map bl) [32]).length ≤ tl l
  | [] => Nat.le_refl _
  | [a] => by
    have : (bl a).length = a.size := size_list a
    rw [List.map_cons, List.map_nil, join_one, tl_cons, tl_nil]
    omega
  | a :: b :: r => by
    have ih := tl_join (b :: r)
    have : (bl a).length = a.size := size_list a
    rw [List.map_cons] at ih
    rw [tl_cons, List.map_cons, List.map_cons, join_two, List.length_append, List.length_cons]
    omega
/-- what a node offers is no longer than so -/
structure Le (o : O) (c : Nat) : Prop where
  raw : ∀ no, tl (o.raw no) + 8 ≤ c
  st : tl o.st + 8 ≤ c
theorem Le.at_ {o : O} {c : Nat} (h : Le o c) (m : Nat) (no : Bool) : tl (o.at m no) + 4 ≤ c := by
  unfold O.at
  split
  · have := h.raw false
    show tl (brack ⟨#[40]⟩ ⟨#[41]⟩ (o.raw false)) + 4 ≤ c
    rw [tl_brack]
    show 1 + 1 + 2 + tl (o.raw false) + 4 ≤ c
    omega
  · have := h.raw no
    omega
theorem Le.part {o : O} {c : Nat} (h : Le o c) (no : Bool) : tl (o.part no) + 4 ≤ c := by
  unfold O.part
  split
  · have := h.raw no
    rw [tl_nil]
    omega
  split
  · have := h.raw no
    omega
  · exact h.at_ 0 no
theorem le_default : Le default 8 := ⟨fun _ => Nat.le_refl _, Nat.le_refl _⟩
/-- a child's bound, or a missing one's -/
def gb (l : List V) (i : Nat) : Nat := if h : i < l.length then 64 * l[i].bulk else 8
theorem gb4 (l : List V) : gb l 0 + gb l 1 + gb l 2 + gb l 3 ≤ 64 * V.bulks l + 32 := by
  rcases l with _ | ⟨a, _ | ⟨b, _ | ⟨c, _ | ⟨d, r⟩⟩⟩⟩ <;> simp [gb, V.bulks] <;> omega
section
variable {l : List V} (H : ∀ u ∈ l, Le u.o (64 * u.bulk))
include H
theorem gb_le (i : Nat) : Le ((l.map V.o).getD i default) (gb l i) := by
  unfold gb
  by_cases h : i < l.length
  · rw [dif_pos h]
    have : (l.map V.o).getD i default = l[i].o := by simp [List.getD, h]
    rw [this]
    exact H _ (List.getElem_mem h)
  · rw [dif_neg h]
    have : (l.map V.o).getD i default = default := by simp [List.getD, Nat.not_lt.1 h]
    rw [this]
    exact le_default
theorem row_le {f : O → Ts} (hf : ∀ o c, Le o c → tl (f o) + 4 ≤ c) : tl (commas ((l.map V.o).map f)) ≤ 64 * V.bulks l := by
  induction l with
  | nil => exact Nat.zero_le _
  | cons a r ih =>
    have h1 := hf _ _ (H a (by simp))
    have h2 := ih fun u hu => H u (by simp [hu])
    have e : V.bulks (a :: r) = a.bulk + V.bulks r := rfl
    rw [e]
    cases r with
    | nil =>
      show tl (f a.o) ≤ _
      omega
    | cons b r =>
      show tl (f a.o ++ ⟨#[44]⟩ :: commas (((b :: r).map V.o).map f)) ≤ _
      rw [tl_app, tl_cons]
      show tl (f a.o) + (1 + 1 + _) ≤ _
      omega
theorem tail_le {f : O → Ts} (hf : ∀ o c, Le o c → tl (f o) + 4 ≤ c) : gb l 0 + tl (commas ((l.map V.o).tail.map f)) ≤ 64 * V.bulks l + 8 := by
  cases l with
  | nil => exact Nat.le_refl _
  | cons a r =>
    have := row_le (l := r) (fun u hu => H u (by simp [hu])) hf
    show 64 * a.bulk + tl (commas ((r.map V.o).map f)) ≤ 64 * (a.bulk + V.bulks r) + 8
    omega
theorem stmts_le : tl (stmts (l.map V.o)) ≤ 64 * V.bulks l := by
  induction l with
  | nil => exact Nat.zero_le _
  | cons a r ih =>
    have h1 := (H a (by simp)).st
    have h2 := ih fun u hu => H u (by simp [hu])
    show tl (a.o.st ++ stmts (r.map V.o)) ≤ 64 * (a.bulk + V.bulks r)
    rw [tl_app]
    omega
theorem stail_le : gb l 0 + tl (stmts (l.map V.o).tail) ≤ 64 * V.bulks l + 8 := by
  cases l with
  | nil => exact Nat.le_refl _
  | cons a r =>
    have := stmts_le (l := r) (fun u hu => H u (by simp [hu]))
    show 64 * a.bulk + tl (stmts (r.map V.o)) ≤ 64 * (a.bulk + V.bulks r) + 8
    omega
end
theorem names_le : ∀ ks : List ByteArray, tl (commas (ks.map fun k => [k])) ≤ 3 * keysBulk ks
  | [] => Nat.zero_le _
  | [a] => by
    simp only [List.map_cons, List.map_nil, commas, tl_cons, tl_nil, keysBulk]
    omega
  | a :: b :: r => by
    have ih := names_le (b :: r)
    have e : keysBulk (a :: b :: r) = a.size + 1 + keysBulk (b :: r) := rfl
    rw [e]
    show tl ([a] ++ ⟨#[44]⟩ :: commas ((b :: r).map fun k => [k])) ≤ _
    rw [tl_app, tl_cons, tl_cons, tl_nil]
    show a.size + 1 + 0 + (1 + 1 + _) ≤ _
    omega
theorem some_le (s : ByteArray) : tl (some1 s) ≤ s.size + 1 := by
  unfold some1
  split
  · exact Nat.zero_le _
  · exact Nat.le_refl _
theorem quo_le (s : ByteArray) : (quo s).size ≤ 2 + 6 * s.size := by
  have h := quote_length (us (bl s))
  have h2 : (us (bl s)).length ≤ (bl s).length := by
    have : ∀ l : Bs, (us l).length ≤ l.length := by
      intro l
      induction l using us.induct with
      | case1 a b r ih => simp only [us, List.length_cons]; omega
      | case2 l _ => simp [us]
    exact this _
  have h3 : (bl s).length = s.size := size_list s
  have e : (quo s).size = (quote (us (bl s))).length := by
    show (quote (us (bl s))).toArray.size = _
    simp
  omega
theorem dec_le {n : Int} (h0 : 0 ≤ n) (h1 : n ≤ 9007199254740991) : (dec n).size ≤ 21 := by
  have h := dec_len n.toNat (by omega)
  have e : bl (dec n) = Lib.decDigits n.toNat := by
    have : Lib.itoa n = Lib.decDigits n.toNat := by
      unfold Lib.itoa
      rw [if_neg (by omega)]
    simp [dec, bl, this]
  have h3 : (bl (dec n)).length = (dec n).size := size_list _
  rw [e] at h3
  omega
theorem sz (l : List UInt8) : (⟨l.toArray⟩ : ByteArray).size = l.length := by show l.toArray.size = _; simp
theorem tl_ite {c : Prop} [Decidable c] {a b : Ts} {m : Nat} (h1 : c → tl a + 8 ≤ m) (h2 : ¬ c → tl b + 8 ≤ m) : tl (if c then a else b) + 8 ≤ m := by
  by_cases h : c
  · rw [if_pos h]
    exact h1 h
  · rw [if_neg h]
    exact h2 h
theorem func_le {nm : ByteArray} {ks : List ByteArray} {l : List V} (H : ∀ u ∈ l, Le u.o (64 * u.bulk)) : tl (func nm ks (l.map V.o)) ≤ 18 + nm.size + 3 * keysBulk ks + 64 * V.bulks l := by
  have h1 := some_le nm
  have h2 := names_le ks
  have h3 := stmts_le H
  have h4 := tl_brack ⟨#[40]⟩ ⟨#[41]⟩ (commas (ks.map fun k => [k]))
  have h5 : tl (block (l.map V.o)) = 4 + tl (stmts (l.map V.o)) := tl_brack ⟨#[123]⟩ ⟨#[125]⟩ (stmts (l.map V.o))
  unfold func
  rw [tl_cons, tl_app, tl_app, h4, h5, sz, sz, sz]
  simp only [List.length_cons, List.length_nil]
  omega
theorem raw_le {v : V} (R : Rt v) (H : ∀ u ∈ v.l, Le u.o (64 * u.bulk)) (no : Bool) : tl (rawN v.k v.nm v.n v.s v.ks (v.l.map V.o) no) + 8 ≤ 64 * v.bulk := by
  have hb : v.bulk = 1 + v.nm.size + v.s.size + keysBulk v.ks + V.bulks v.l := by cases v; rfl
  have g := gb4 v.l
  have A := fun i m b => (gb_le H i).at_ m b
  have a1 := A 0 1 false
  have a2 := A 0 11 no
  have a3 := A 1 0 false
  have a4 := A 0 12 no
  have a5 := A 0 9 no
  have a6 := A 0 (opl (bl v.nm)) no
  have a7 := A 1 (opl (bl v.nm) + 1) no
  have a8 := A 0 3 no
  have a9 := A 1 1 false
  have a10 := A 2 1 no
  have a11 := A 1 1 no
  have a12 := A 0 0 no
  have r1 := row_le H (f := fun o => o.at 1 false) fun o c h => h.at_ 1 false
  have r2 := row_le H (f := fun o => o.raw false) fun o c h => by have := h.raw false; omega
  have r3 := row_le H (f := fun o => o.raw no) fun o c h => by have := h.raw no; omega
  have r4 := tail_le H (f := fun o => o.at 1 false) fun o c h => h.at_ 1 false
  have hf := func_le (nm := v.nm) (ks := v.ks) H
  have hq := quo_le v.s
  have hd : v.k = 1 → (dec v.n).size ≤ 21 := fun h => by
    have := of_decide_eq_true ((num_1 h).symm.trans R.num)
    exact dec_le this.1 this.2
  have h6 : ((if v.n = 0 then ⟨#[102, 97, 108, 115, 101]⟩ else ⟨#[116, 114, 117, 101]⟩ : ByteArray)).size ≤ 5 := by
    split
    · exact Nat.le_refl _
    · exact Nat.le_succ _
  by_cases h23 : v.k = 23
  · have a13 := A 0 1 no
    rw [hb, h23]
    cases hl : v.l with
    | nil =>
      show tl [v.nm] + 8 ≤ _
      rw [tl_cons, tl_nil]
      omega
    | cons a r =>
      rw [hl] at a13 g
      have ha : tl (a.o.at 1 no) + 4 ≤ gb (a :: r) 0 := a13
      show tl (v.nm :: ⟨#[61]⟩ :: a.o.at 1 no) + 8 ≤ _
      rw [tl_cons, tl_cons, sz [61]]
      simp only [List.length_cons, List.length_nil]
      omega
  rw [hb]
  clear hb
  unfold rawN
  refine tl_ite (fun h => ?_) (fun _ => ?_)
  · have := hd h
    rw [tl_cons, tl_nil]
    omega
  clear hd
  repeat' (refine tl_ite (fun _ => ?_) (fun _ => ?_))
  all_goals try simp only [tl_app, tl_cons, tl_nil, sz, List.length_cons, List.length_nil]
  all_goals omega
theorem bare_le (t : Ts) : tl (bareT t) ≤ tl t + 4 := by
  unfold bareT
  split
  · have := tl_brack ⟨#[40]⟩ ⟨#[41]⟩ t
    rw [this, sz, sz]
    simp only [List.length_cons, List.length_nil]
    omega
  · omega
theorem head_le (w : ByteArray) (o : O) : tl (headT w o) = w.size + 5 + tl (o.at 0 false) := by
  unfold headT
  rw [tl_cons, tl_brack, sz [40], sz [41]]
  simp only [List.length_cons, List.length_nil]
  omega
theorem block_le (l : List O) : tl (block l) = 4 + tl (stmts l) := tl_brack ⟨#[123]⟩ ⟨#[125]⟩ (stmts l)
theorem st_le {v : V} (R : Rt v) (H : ∀ u ∈ v.l, Le u.o (64 * u.bulk)) : tl (stN v.k v.nm v.n v.s v.ks (v.l.map V.o)) + 8 ≤ 64 * v.bulk := by
  have hb : v.bulk = 1 + v.nm.size + v.s.size + keysBulk v.ks + V.bulks v.l := by cases v; rfl
  have g := gb4 v.l
  have A := fun i => (gb_le H i).at_ 0 false
  have S := fun i => (gb_le H i).st
  have P := fun i b => (gb_le H i).part b
  have a0 := A 0
  have a1 := A 1
  have s0 := S 0
  have s1 := S 1
  have s2 := S 2
  have s3 := S 3
  have p0 := P 0 true
  have p1 := P 0 false
  have p2 := P 1 false
  have p3 := P 2 false
  have hb0 := bare_le (((v.l.map V.o).getD 0 default).at 0 false)
  have r1 := row_le H (f := fun o => o.raw false) fun o c h => by have := h.raw false; omega
  have t1 := stmts_le H
  have t2 := stail_le H
  have hf := func_le (nm := v.nm) (ks := v.ks) H
  have hn := some_le v.nm
  have h22 : v.k = 22 → tl (rawN v.k v.nm v.n v.s v.ks (v.l.map V.o) false) ≤ 4 + 64 * V.bulks v.l := fun h => by
    rw [h]
    show tl (⟨#[118, 97, 114]⟩ :: commas ((v.l.map V.o).map fun o => o.raw false)) ≤ _
    rw [tl_cons, sz]
    simp only [List.length_cons, List.length_nil]
    omega
  have hv : tl (valT (v.l.map V.o)) ≤ gb v.l 0 := by
    cases hl : v.l with
    | nil => exact Nat.zero_le _
    | cons a r =>
      rw [hl] at a0
      show tl (a.o.at 0 false) ≤ _
      have : tl (a.o.at 0 false) + 4 ≤ gb (a :: r) 0 := a0
      omega
  rw [hb]
  clear hb
  unfold stN
  refine tl_ite (fun h => ?_) (fun _ => ?_)
  · have := h22 h
    rw [tl_app, tl_cons, tl_nil, sz]
    simp only [List.length_cons, List.length_nil]
    omega
  clear h22
  have hi : ∀ {c : Prop} [Decidable c] {t : Ts}, tl (if c then t else []) ≤ tl t := fun {c} _ {t} => by
    by_cases h : c
    · rw [if_pos h]
      exact Nat.le_refl _
    · rw [if_neg h]
      exact Nat.zero_le _
  have i1 := hi (c := 2 < (v.l.map V.o).length) (t := ⟨#[101, 108, 115, 101]⟩ :: ((v.l.map V.o).getD 2 default).st)
  have i2 := hi (c := ((v.l.map V.o).getD 1 default).k = 25) (t := ⟨#[99, 97, 116, 99, 104]⟩ :: (brack ⟨#[40]⟩ ⟨#[41]⟩ [v.nm] ++ ((v.l.map V.o).getD 1 default).st))
  have i3 := hi (c := ((v.l.map V.o).getD 2 default).k = 25) (t := ⟨#[102, 105, 110, 97, 108, 108, 121]⟩ :: ((v.l.map V.o).getD 2 default).st)
  have i4 : tl (if ((v.l.map V.o).getD 0 default).k = 42 then [⟨#[100, 101, 102, 97, 117, 108, 116]⟩, ⟨#[58]⟩] else brack ⟨#[99, 97, 115, 101]⟩ ⟨#[58]⟩ (((v.l.map V.o).getD 0 default).at 0 false)) ≤ 10 + gb v.l 0 := by
    split
    · rw [tl_cons, tl_cons, tl_nil, sz, sz]
      simp only [List.length_cons, List.length_nil]
      omega
    · rw [tl_brack, sz, sz]
      simp only [List.length_cons, List.length_nil]
      omega
  simp only [tl_cons, tl_app, sz, List.length_cons, List.length_nil, tl_nil] at i1 i2 i3
  repeat' (refine tl_ite (fun _ => ?_) (fun _ => ?_))
  all_goals try simp only [tl_app, tl_cons, tl_nil, sz, head_le, block_le, List.length_cons, List.length_nil]
  all_goals omega
theorem le_all : ∀ v : V, v.ok = true → Le v.o (64 * v.bulk) := by
  refine V.ind fun k nm n s ks l ih => ?_
  generalize hv : V.mk k nm n s ks l = v
  have hvl : v.l = l := by rw [<- hv]; rfl
  rw [<- hvl] at ih
  clear hv hvl
  intro hok
  obtain ⟨R, ho⟩ := ok_right hok
  have H : ∀ u ∈ v.l, Le u.o (64 * u.bulk) := fun u hu => ih u hu (ho u hu)
  refine ⟨fun no => ?_, ?_⟩
  · rw [o_raw]
    exact raw_le R H no
  · rw [o_st]
    exact st_le R H
/-- a program's tokens, and its text -/
theorem toks_le {v : V} (h : v.ok = true) : v.toks.length ≤ 64 * v.bulk ∧ v.txt.length ≤ 64 * v.bulk := by
  have h1 := stmts_le fun u hu => le_all u ((ok_right h).2 u hu)
  have hb := bulk_ge v
  have h2 := tl_len v.toks
  have h3 := tl_join v.toks
  have h4 : tl v.toks ≤ 64 * V.bulks v.l := h1
  unfold V.txt
  omega
end Go.Proofs.YtllpgoaanbiodaaGreatDoor.R.Ps
