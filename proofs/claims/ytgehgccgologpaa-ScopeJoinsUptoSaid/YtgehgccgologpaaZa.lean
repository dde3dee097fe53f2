/-
  PLAIN: what is within statements, in the order of the text; early errors; what is declared.
-/
import Derived.Test.YtgehgccgologpaaS
import Derived.Test.YtgehgccgologpaaWn
namespace Go.Proofs.Ytgehgccgologpaa.Z
open Go.RowKit Go.Proofs.Ytgehgccgologpaa Go.Proofs.Ytgehgccgologpaa.R Go.Proofs.Ytgehgccgologpaa.T

def isFn (v : V) : Bool := decide (v.k = 10) || decide (v.k = 39)
def isLp (v : V) : Bool := decide (v.k = 27 ∨ v.k = 28 ∨ v.k = 29 ∨ v.k = 30)
def isLS (v : V) : Bool := isLp v || decide (v.k = 36)
def isLb (s : ByteArray) (v : V) : Bool := decide (v.k = 38) && decide (v.nm = s)
def isNam (v : V) : Bool := decide (v.k = 3)
def evalS : ByteArray := ⟨#[101, 118, 97, 108]⟩
def argsS : ByteArray := ⟨#[97, 114, 103, 117, 109, 101, 110, 116, 115]⟩
def delS : ByteArray := ⟨#[100, 101, 108, 101, 116, 101]⟩
def bar (s : ByteArray) : Bool := decide (s = evalS) || decide (s = argsS)
def dup (l : List ByteArray) : Bool := !decide l.Nodup
/-- the statement of a label, skipping labels -/
def lbl : V → V
  | .mk k nm n s ks [] => .mk k nm n s ks []
  | .mk k nm n s ks (x :: r) => if k = 38 then lbl x else .mk k nm n s ks (x :: r)
def hd (l : List V) (p : V → Bool) : Bool := match l with | [] => false | x :: _ => p x

/-- an early error wherever it stands -/
def wrong (v : V) : Bool :=
  if v.k = 23 ∨ v.k = 35 then bar v.nm
  else if v.k = 39 ∨ v.k = 10 then bar v.nm || v.ks.any bar || dup v.ks
  else if v.k = 20 ∨ v.k = 16 ∨ v.k = 30 then hd v.l fun x => isNam x && bar x.nm
  else if v.k = 15 then decide (v.nm = delS) && hd v.l isNam
  else if v.k = 8 then dup (v.l.map V.s)
  else false
/-- an early error where it stands: within ar, in a function or not -/
def astray (v : V) (ar : List V) (fb : Bool) : Bool :=
  if v.k = 33 then !fb
  else if v.k = 31 then (if v.nm.size = 0 then !ar.any isLS else !ar.any (isLb v.nm))
  else if v.k = 32 then (if v.nm.size = 0 then !ar.any isLp else match ar.find? (isLb v.nm) with | none => true | some u => !isLp (lbl u))
  else if v.k = 38 then ar.any (isLb v.nm)
  else false
def badN (ar : List V) (v : V) (fb : Bool) : Bool := wrong v || astray v ar fb

/-! what is within, in the order of the text, each with what it stands in -/
abbrev It := List V × V
mutual
def wiV (ar : List V) : V → List It
  | .mk k nm n s ks l => (ar, .mk k nm n s ks l) :: (if k = 10 ∨ k = 39 then [] else wi (ar ++ [.mk k nm n s ks l]) l)
def wi (ar : List V) : List V → List It
  | [] => []
  | v :: r => wiV ar v ++ wi ar r
end
theorem isFn_iff (v : V) : isFn v = true ↔ v.k = 10 ∨ v.k = 39 := by
  unfold isFn
  rw [Bool.or_eq_true, decide_eq_true_eq, decide_eq_true_eq]
theorem wiV_eq (ar : List V) (v : V) : wiV ar v = (ar, v) :: (if isFn v then [] else wi (ar ++ [v]) v.l) := by
  have hi := isFn_iff v
  cases v with
  | mk k nm n s ks l =>
    rw [wiV]
    by_cases h : k = 10 ∨ k = 39
    · rw [if_pos h, if_pos (hi.2 h)]
    · rw [if_neg h, if_neg (fun e => h (hi.1 e))]
      rfl
theorem wi_cons (ar : List V) (v : V) (r : List V) : wi ar (v :: r) = wiV ar v ++ wi ar r := by rw [wi]
theorem wi_nil (ar : List V) : wi ar [] = [] := by rw [wi]
theorem wi_append (ar : List V) : ∀ a b : List V, wi ar (a ++ b) = wi ar a ++ wi ar b
  | [], b => by rw [wi_nil]; rfl
  | v :: r, b => by rw [List.cons_append, wi_cons, wi_cons, wi_append ar r b, List.append_assoc]
/-- what is left of a stack: L the lists, A what is around, the innermost first -/
def remR : List (List V) → List V → List It
  | [], _ => []
  | l :: L, A => wi A.reverse l ++ remR L A.tail
theorem remR_pop (L : List (List V)) (A : List V) : remR ([] :: L) A = remR L A.tail := by rw [remR, wi_nil]; rfl
theorem remR_fn (v : V) (r : List V) (L : List (List V)) (A : List V) (h : isFn v = true) : remR ((v :: r) :: L) A = (A.reverse, v) :: remR (r :: L) A := by
  rw [remR, remR, wi_cons, wiV_eq, if_pos h]
  rfl
theorem remR_in (v : V) (r : List V) (L : List (List V)) (A : List V) (h : isFn v = false) : remR ((v :: r) :: L) A = (A.reverse, v) :: remR (v.l :: r :: L) (v :: A) := by
  rw [remR, remR, remR, wi_cons, wiV_eq, if_neg (by rw [h]; simp), List.reverse_cons, List.tail_cons]
  simp only [List.cons_append, List.append_assoc]
/-- how much is left -/
def szL : List (List V) → Nat
  | [] => 0
  | l :: L => V.sizes l + szL L
def blL : List (List V) → Nat
  | [] => 0
  | l :: L => V.bulks l + blL L
theorem szL_cons (l : List V) (L : List (List V)) : szL (l :: L) = V.sizes l + szL L := rfl
theorem sizes_cons (v : V) (r : List V) : V.sizes (v :: r) = 1 + V.sizes v.l + V.sizes r := by rw [V.sizes, size_eq]
theorem sizes_append (a b : List V) : V.sizes (a ++ b) = V.sizes a + V.sizes b := by
  induction a with
  | nil => simp [V.sizes]
  | cons v r ih => rw [List.cons_append, V.sizes, V.sizes, ih]; omega
theorem len_wiV_wi : ∀ n : Nat, (∀ v : V, v.size ≤ n → ∀ ar, (wiV ar v).length ≤ v.size) ∧ ∀ l : List V, V.sizes l ≤ n → ∀ ar, (wi ar l).length ≤ V.sizes l
  | 0 => ⟨fun v h => by rw [size_eq] at h; omega, fun l h ar => by
      cases l with
      | nil => rw [wi_nil]; exact Nat.zero_le _
      | cons v r => rw [sizes_cons] at h; omega⟩
  | n + 1 => by
    have ih := len_wiV_wi n
    have hv : ∀ v : V, v.size ≤ n + 1 → ∀ ar, (wiV ar v).length ≤ v.size := by
      intro v h ar
      rw [size_eq] at h ⊢
      rw [wiV_eq]
      split
      · simp
      · have := ih.2 v.l (by omega) (ar ++ [v])
        rw [List.length_cons]
        omega
    refine ⟨hv, fun l => ?_⟩
    induction l with
    | nil => intro _ ar; rw [wi_nil]; exact Nat.zero_le _
    | cons v r ihl =>
      intro h ar
      rw [V.sizes] at h ⊢
      have h1 := hv v (by omega) ar
      have h2 := ihl (by omega) ar
      rw [wi_cons, List.length_append]
      omega
theorem len_wi (ar l : List V) : (wi ar l).length ≤ V.sizes l := (len_wiV_wi (V.sizes l)).2 l (Nat.le_refl _) ar

/-! what is declared -/
mutual
def declV : V → List ByteArray
  | .mk k nm _ _ _ l => if k = 10 ∨ k = 39 then [] else (if k = 23 then [nm] else []) ++ decl l
def decl : List V → List ByteArray
  | [] => []
  | v :: r => declV v ++ decl r
end
theorem declV_eq (v : V) : declV v = if isFn v then [] else (if v.k = 23 then [v.nm] else []) ++ decl v.l := by
  have hi := isFn_iff v
  cases v with
  | mk k nm n s ks l =>
    rw [declV]
    by_cases h : k = 10 ∨ k = 39
    · rw [if_pos h, if_pos (hi.2 h)]
    · rw [if_neg h, if_neg (fun e => h (hi.1 e))]
      rfl
theorem decl_cons (v : V) (r : List V) : decl (v :: r) = declV v ++ decl r := by rw [decl]
theorem decl_append : ∀ a b : List V, decl (a ++ b) = decl a ++ decl b
  | [], b => by rw [decl]; rfl
  | v :: r, b => by rw [List.cons_append, decl_cons, decl_cons, decl_append r b, List.append_assoc]
def is23 (x : It) : Bool := decide (x.2.k = 23)
def nms (xs : List It) : List ByteArray := (xs.filter is23).map fun x => x.2.nm
theorem nms_append (a b : List It) : nms (a ++ b) = nms a ++ nms b := by simp [nms]
theorem nms_wi_all : ∀ n : Nat, (∀ v : V, v.size ≤ n → ∀ ar, nms (wiV ar v) = declV v) ∧ ∀ l : List V, V.sizes l ≤ n → ∀ ar, nms (wi ar l) = decl l
  | 0 => ⟨fun v h => by rw [size_eq] at h; omega, fun l h ar => by
      cases l with
      | nil => rw [wi_nil, decl]; rfl
      | cons v r => rw [sizes_cons] at h; omega⟩
  | n + 1 => by
    have ih := nms_wi_all n
    have hv : ∀ v : V, v.size ≤ n + 1 → ∀ ar, nms (wiV ar v) = declV v := by
      intro v h ar
      rw [size_eq] at h
      rw [wiV_eq, declV_eq]
      by_cases hf : isFn v = true
      · rw [if_pos hf, if_pos hf]
        have : is23 (ar, v) = false := by
          unfold isFn at hf
          unfold is23
          rw [Bool.or_eq_true, decide_eq_true_eq, decide_eq_true_eq] at hf
          rw [decide_eq_false_iff_not]
          show ¬ v.k = 23
          omega
        simp [nms, this]
      · rw [if_neg hf, if_neg hf, ← ih.2 v.l (by omega) (ar ++ [v])]
        show nms ([(ar, v)] ++ wi (ar ++ [v]) v.l) = _
        rw [nms_append]
        congr 1
        by_cases h23 : v.k = 23
        · rw [if_pos h23]; simp [nms, is23, h23]
        · rw [if_neg h23]; simp [nms, is23, h23]
    refine ⟨hv, fun l => ?_⟩
    induction l with
    | nil => intro _ ar; rw [wi_nil, decl]; rfl
    | cons v r ihl =>
      intro h ar
      rw [V.sizes] at h
      rw [wi_cons, nms_append, decl_cons, hv v (by omega) ar, ihl (by omega) ar]
theorem nms_wi (ar l : List V) : nms (wi ar l) = decl l := (nms_wi_all (V.sizes l)).2 l (Nat.le_refl _) ar
/-- each once, at its first occurrence -/
def hasB (l : List ByteArray) (s : ByteArray) : Bool := l.any fun t => decide (t = s)
theorem hasB_iff (l : List ByteArray) (s : ByteArray) : hasB l s = true ↔ s ∈ l := by
  unfold hasB
  rw [List.any_eq_true]
  constructor
  · rintro ⟨t, h, e⟩
    rw [decide_eq_true_eq] at e
    exact e ▸ h
  · exact fun h => ⟨s, h, by simp⟩
def unqF (out : List ByteArray) (s : ByteArray) : List ByteArray := if hasB out s then out else out ++ [s]
def unq (l : List ByteArray) : List ByteArray := l.foldl unqF []
theorem unq_snoc (l : List ByteArray) (s : ByteArray) : unq (l ++ [s]) = unqF (unq l) s := by simp [unq]
theorem mem_foldl : ∀ (l out : List ByteArray) (s : ByteArray), s ∈ l.foldl unqF out ↔ s ∈ out ∨ s ∈ l
  | [], out, s => by simp
  | t :: l, out, s => by
    rw [List.foldl_cons, mem_foldl l]
    unfold unqF
    split
    · rename_i h
      rw [hasB_iff] at h
      constructor
      · rintro (h1 | h1)
        · exact .inl h1
        · exact .inr (List.mem_cons_of_mem _ h1)
      · rintro (h1 | h1)
        · exact .inl h1
        · rcases List.mem_cons.1 h1 with rfl | h1
          · exact .inl h
          · exact .inr h1
    · rw [List.mem_append, List.mem_singleton, or_assoc, List.mem_cons]
theorem mem_unq (l : List ByteArray) (s : ByteArray) : s ∈ unq l ↔ s ∈ l := by simp [unq, mem_foldl]
theorem nodup_foldl : ∀ (l out : List ByteArray), out.Nodup → (l.foldl unqF out).Nodup
  | [], _, h => h
  | t :: l, out, h => by
    rw [List.foldl_cons]
    refine nodup_foldl l _ ?_
    unfold unqF
    split
    · exact h
    · rename_i hc
      rw [hasB_iff] at hc
      exact List.nodup_append.2 ⟨h, by simp, fun a ha b hb e => by simp at hb; subst hb; subst e; exact hc ha⟩
theorem nodup_unq (l : List ByteArray) : (unq l).Nodup := nodup_foldl l [] List.nodup_nil
theorem prefix_foldl : ∀ (l out : List ByteArray), ∃ r, l.foldl unqF out = out ++ r
  | [], out => ⟨[], by simp⟩
  | t :: l, out => by
    obtain ⟨r, hr⟩ := prefix_foldl l (unqF out t)
    rw [List.foldl_cons, hr]
    unfold unqF
    split
    · exact ⟨r, rfl⟩
    · exact ⟨[t] ++ r, by simp⟩
theorem unq_prefix (a b : List ByteArray) : ∃ r, unq (a ++ b) = unq a ++ r := by
  unfold unq
  rw [List.foldl_append]
  exact prefix_foldl b _
theorem unq_len (l : List ByteArray) : (unq l).length ≤ l.length := by
  have : ∀ (l out : List ByteArray), (l.foldl unqF out).length ≤ out.length + l.length := by
    intro l
    induction l with
    | nil => intro out; simp
    | cons t l ih =>
      intro out
      have := ih (unqF out t)
      rw [List.foldl_cons, List.length_cons]
      have h2 : (unqF out t).length ≤ out.length + 1 := by unfold unqF; split <;> simp
      omega
  have := this l []
  rw [List.length_nil, Nat.zero_add] at this
  exact this
/-- .. of what has come -/
def vrs (xs : List It) : List ByteArray := unq (nms xs)
theorem vrs_no (xs : List It) (x : It) (h : is23 x = false) : vrs (xs ++ [x]) = vrs xs := by
  unfold vrs
  rw [nms_append]
  simp [nms, h]
theorem vrs_yes (xs : List It) (x : It) (h : is23 x = true) : vrs (xs ++ [x]) = unqF (vrs xs) x.2.nm := by
  unfold vrs
  rw [nms_append, ← unq_snoc]
  congr 2
  simp [nms, h]
def vars (l : List V) : List ByteArray := unq (decl l)
theorem vrs_wi (l : List V) : vrs (wi [] l) = vars l := by unfold vrs vars; rw [nms_wi]
end Go.Proofs.Ytgehgccgologpaa.Z
