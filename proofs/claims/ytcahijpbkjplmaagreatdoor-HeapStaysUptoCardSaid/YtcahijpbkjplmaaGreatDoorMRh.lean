/-
  AN ARRAY IS CUT INDEX BY INDEX, from the greatest on: the same as property by property. No Go in sight.
-/
import Derived.Test.YtcahijpbkjplmaaGreatDoorMHe
namespace Go.Proofs.YtcahijpbkjplmaaGreatDoor.G

section
variable (ix : ByteArray → Option Nat)
def isI (y : Nat) (p : Pr) : Bool := decide (ix p.key = some y)
/-- the properties of one index are removed, the first ones first, until one may not -/
def rmI (y : Nat) : Nat → Ob → Ob × Bool
  | 0, o => (o, true)
  | f + 1, o => match o.ps.findIdx? (isI ix y) with
    | none => (o, true)
    | some k => if ((o.ps[k]?).map (·.f)).getD true then rmI y f { o with ps := o.ps.eraseIdx k } else (o, false)
/-- index by index: d of them, from n + d - 1 down to n -/
def setGo (n : Nat) : Nat → Ob → Ob × Int
  | 0, o => ({ o with len := n }, 0)
  | d + 1, o => if (rmI ix (n + d) (o.ps.length + 1) o).2 then setGo n d (rmI ix (n + d) (o.ps.length + 1) o).1 else ({ (rmI ix (n + d) (o.ps.length + 1) o).1 with len := n + d + 1 }, 110)
theorem worst_stay {n y : Nat} {k0 : Nat} : ∀ {ps : List Pr} {k : Nat}, (∀ p ∈ ps, ∀ x, ix p.key = some x → x ≤ y) → worst ix n ps k (some (k0, y)) = some (k0, y)
  | [], _, _ => rfl
  | p :: r, k, h => by
    rw [worst]
    have ih := worst_stay (n := n) (k0 := k0) (ps := r) (k := k + 1) (fun q hq => h q (List.mem_cons_of_mem _ hq))
    cases hx : ix p.key with
    | none => exact ih
    | some x =>
      have hle := h p (List.mem_cons_self ..) x hx
      dsimp only
      rw [if_neg]
      · exact ih
      · simp only [Option.all_some, decide_eq_true_eq, not_and]
        omega
theorem worst_is {n y : Nat} (hn : n ≤ y) : ∀ {ps : List Pr} {k j : Nat} {b : Option (Nat × Nat)}, (∀ p ∈ ps, ∀ x, ix p.key = some x → x ≤ y) → b.all (fun z => decide (z.2 < y)) = true → ps.findIdx? (isI ix y) = some j → worst ix n ps k b = some (k + j, y)
  | [], _, _, _, _, _, h => by simp at h
  | p :: r, k, j, b, h, hb, hj => by
    rw [worst]
    rw [List.findIdx?_cons] at hj
    have hr : ∀ q ∈ r, ∀ x, ix q.key = some x → x ≤ y := fun q hq => h q (List.mem_cons_of_mem _ hq)
    by_cases hp : ix p.key = some y
    · rw [isI, decide_eq_true hp, if_pos rfl] at hj
      cases hj
      rw [hp]
      dsimp only
      rw [if_pos ⟨hn, hb⟩]
      exact worst_stay ix hr
    · rw [isI, decide_eq_false hp, if_neg Bool.false_ne_true] at hj
      obtain ⟨j', hj', rfl⟩ := Option.map_eq_some_iff.1 hj
      rw [show k + (j' + 1) = k + 1 + j' by omega]
      refine worst_is hn hr ?_ hj'
      cases hx : ix p.key with
      | none => exact hb
      | some x =>
        have hle := h p (List.mem_cons_self ..) x hx
        have hne : x ≠ y := fun e => hp (by rw [hx, e])
        dsimp only
        split
        · simp only [Option.all_some, decide_eq_true_eq]
          omega
        · exact hb
theorem rmI_sub (y : Nat) : ∀ (f : Nat) (o : Ob), ∀ p ∈ (rmI ix y f o).1.ps, p ∈ o.ps
  | 0, _, _, h => h
  | f + 1, o, p, h => by
    rw [rmI] at h
    split at h
    · exact h
    · split at h
      · exact List.mem_of_mem_eraseIdx (rmI_sub y f _ p h)
      · exact h
theorem rmI_none (y : Nat) : ∀ (f : Nat) (o : Ob), o.ps.length < f → (rmI ix y f o).2 = true → ∀ p ∈ (rmI ix y f o).1.ps, ix p.key ≠ some y
  | 0, _, h, _ => by omega
  | f + 1, o, hf, ht => by
    rw [rmI] at ht ⊢
    cases hk : o.ps.findIdx? (isI ix y) with
    | none =>
      intro p hp e
      have := List.findIdx?_eq_none_iff.1 hk p hp
      rw [isI, decide_eq_true e] at this
      cases this
    | some k =>
      rw [hk] at ht
      dsimp only at ht ⊢
      have hk' : k < o.ps.length := (List.findIdx?_eq_some_iff_getElem.1 hk).1
      split
      · rename_i hc
        rw [if_pos hc] at ht
        refine rmI_none y f _ ?_ ht
        show (o.ps.eraseIdx k).length < f
        rw [List.length_eraseIdx_of_lt hk']
        omega
      · rename_i hc
        rw [if_neg hc] at ht
        cases ht
theorem rmI_end {y f : Nat} {o : Ob} (h : o.ps.findIdx? (isI ix y) = none) : rmI ix y (f + 1) o = (o, true) := by
  rw [rmI, h]
theorem rmI_go {y f k : Nat} {o : Ob} {p : Pr} (h : o.ps.findIdx? (isI ix y) = some k) (hp : o.ps[k]? = some p) (hf : p.f = true) : rmI ix y (f + 1) o = rmI ix y f { o with ps := o.ps.eraseIdx k } := by
  rw [rmI, h]
  dsimp only
  rw [if_pos (by rw [hp]; exact hf)]
theorem rmI_bar {y f k : Nat} {o : Ob} {p : Pr} (h : o.ps.findIdx? (isI ix y) = some k) (hp : o.ps[k]? = some p) (hf : p.f = false) : rmI ix y (f + 1) o = (o, false) := by
  rw [rmI, h]
  dsimp only
  rw [if_neg (by rw [hp]; show ¬ p.f = true; rw [hf]; exact Bool.false_ne_true)]
theorem rmI_cut {n y : Nat} (hn : n ≤ y) : ∀ (f : Nat) (o : Ob), o.ps.length < f → (∀ p ∈ o.ps, ∀ x, ix p.key = some x → x ≤ y) → o.cut ix n = if (rmI ix y f o).2 then (rmI ix y f o).1.cut ix n else ({ (rmI ix y f o).1 with len := y + 1 }, 110)
  | 0, _, h, _ => by omega
  | f + 1, o, hf, hm => by
    cases hk : o.ps.findIdx? (isI ix y) with
    | none => rw [rmI_end ix hk]; rfl
    | some k =>
      have hk' : k < o.ps.length := (List.findIdx?_eq_some_iff_getElem.1 hk).1
      have hw := worst_is ix hn (ps := o.ps) (k := 0) (b := none) hm rfl hk
      rw [Nat.zero_add] at hw
      have hp : o.ps[k]? = some o.ps[k] := List.getElem?_eq_getElem hk'
      cases hf' : o.ps[k].f with
      | true =>
        rw [rmI_go ix hk hp hf', cut_go ix hw hp hf']
        refine rmI_cut hn f _ ?_ fun p h => hm p (List.mem_of_mem_eraseIdx h)
        show (o.ps.eraseIdx k).length < f
        rw [List.length_eraseIdx_of_lt hk']
        omega
      | false =>
        rw [rmI_bar ix hk hp hf', cut_bar ix hw hp hf']
        rfl
theorem setGo_cut (n : Nat) : ∀ (d : Nat) (o : Ob), (∀ p ∈ o.ps, ∀ x, ix p.key = some x → x < n + d) → setGo ix n d o = o.cut ix n
  | 0, o, h => by
    rw [setGo, cut_none]
    cases hw : worst ix n o.ps 0 none with
    | none => rfl
    | some z =>
      obtain ⟨k, x⟩ := z
      obtain ⟨p, hp, e1, e2, -⟩ := worst_some ix hw
      have := h p (List.mem_of_getElem? hp) x e1
      omega
  | d + 1, o, h => by
    have hr := rmI_cut ix (n := n) (y := n + d) (by omega) (o.ps.length + 1) o (by omega) (fun p hp x hx => by have := h p hp x hx; omega)
    rw [setGo, hr]
    split
    · rename_i ht
      refine setGo_cut n d _ fun p hp x hx => ?_
      have h1 := h p (rmI_sub ix _ _ _ p hp) x hx
      have h2 := rmI_none ix (n + d) _ o (by omega) ht p hp
      rw [hx] at h2
      have : x ≠ n + d := fun e => h2 (by rw [e])
      omega
    · rfl
theorem length_is (o : Ob) (x : Vl) (h1 : x.k = 3) (h2 : 0 ≤ x.n) (h3 : x.n ≤ 1000) (h : ∀ p ∈ o.ps, ∀ y, ix p.key = some y → y < o.len) : o.length ix x = setGo ix x.n.toNat (o.len - x.n.toNat) o := by
  unfold Ob.length
  rw [if_neg (by omega)]
  split
  · exact (setGo_cut ix _ _ _ fun p hp y hy => by have := h p hp y hy; omega).symm
  · rw [show o.len - x.n.toNat = 0 by omega]
    rfl
end
end Go.Proofs.YtcahijpbkjplmaaGreatDoor.G
