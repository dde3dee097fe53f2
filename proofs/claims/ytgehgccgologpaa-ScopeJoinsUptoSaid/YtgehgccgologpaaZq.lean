/-
  PLAIN: early errors of a program: of it, and of its functions at any depth.
-/
import Derived.Test.YtgehgccgologpaaZa
import Derived.Test.YtgehgccgologpaaKd
namespace Go.Proofs.Ytgehgccgologpaa.Z
open Go.RowKit Go.Proofs.Ytgehgccgologpaa Go.Proofs.Ytgehgccgologpaa.R Go.Proofs.Ytgehgccgologpaa.T

def bads (fb : Bool) (xs : List It) : Bool := xs.any fun x => badN x.1 x.2 fb
def fnsP (xs : List It) : List V := (xs.filter fun x => isFn x.2).map fun x => x.2
abbrev fns (l : List V) : List V := fnsP (wi [] l)
theorem bads_append (fb : Bool) (a b : List It) : bads fb (a ++ b) = (bads fb a || bads fb b) := by simp [bads]
theorem fnsP_append (a b : List It) : fnsP (a ++ b) = fnsP a ++ fnsP b := by simp [fnsP]
theorem fnsP_one (x : It) : fnsP [x] = if isFn x.2 then [x.2] else [] := by
  unfold fnsP
  cases h : isFn x.2 <;> simp [h]
def szs (l : List V) : Nat := (l.map V.size).sum
theorem szs_append (a b : List V) : szs (a ++ b) = szs a + szs b := by simp [szs]
theorem fns_size_all : ∀ n : Nat, (∀ v : V, v.size ≤ n → ∀ ar, szs (fnsP (wiV ar v)) ≤ v.size) ∧ ∀ l : List V, V.sizes l ≤ n → ∀ ar, szs (fnsP (wi ar l)) ≤ V.sizes l
  | 0 => ⟨fun v h => by rw [size_eq] at h; omega, fun l h ar => by
      cases l with
      | nil => rw [wi_nil]; exact Nat.zero_le _
      | cons v r => rw [sizes_cons] at h; omega⟩
  | n + 1 => by
    have ih := fns_size_all n
    have hv : ∀ v : V, v.size ≤ n + 1 → ∀ ar, szs (fnsP (wiV ar v)) ≤ v.size := by
      intro v h ar
      rw [wiV_eq, show (ar, v) :: (if isFn v then [] else wi (ar ++ [v]) v.l) = [(ar, v)] ++ (if isFn v then [] else wi (ar ++ [v]) v.l) from rfl, fnsP_append, fnsP_one]
      by_cases hf : isFn v = true
      · rw [if_pos hf, if_pos hf]
        simp [fnsP, szs]
      · rw [if_neg hf, if_neg hf]
        rw [size_eq] at h ⊢
        have := ih.2 v.l (by omega) (ar ++ [v])
        rw [List.nil_append]
        omega
    refine ⟨hv, fun l => ?_⟩
    induction l with
    | nil => intro _ ar; rw [wi_nil]; exact Nat.zero_le _
    | cons v r ihl =>
      intro h ar
      rw [V.sizes] at h ⊢
      have h1 := hv v (by omega) ar
      have h2 := ihl (by omega) ar
      rw [wi_cons, fnsP_append, szs_append]
      omega
theorem fns_size (l : List V) : szs (fns l) ≤ V.sizes l := (fns_size_all (V.sizes l)).2 l (Nat.le_refl _) []
theorem size_le_szs {v : V} : ∀ {l : List V}, v ∈ l → v.size ≤ szs l
  | x :: r, h => by
    have : szs (x :: r) = x.size + szs r := by simp [szs]
    rcases List.mem_cons.1 h with rfl | h
    · omega
    · have := size_le_szs h
      omega
def earlyF : Nat → V → Bool
  | 0, _ => false
  | n + 1, b => bads (isFn b) (wi [] b.l) || (fns b.l).any (earlyF n)
/-- it, or one of its functions, has an early error -/
def early (b : V) : Bool := earlyF b.size b
theorem earlyF_any : ∀ (n m : Nat) (b : V), b.size ≤ n → b.size ≤ m → earlyF n b = earlyF m b
  | 0, _, b, h, _ => by rw [size_eq] at h; omega
  | _ + 1, 0, b, _, h => by rw [size_eq] at h; omega
  | n + 1, m + 1, b, hn, hm => by
    rw [earlyF, earlyF]
    congr 1
    have hf := fns_size b.l
    rw [size_eq] at hn hm
    have hk : ∀ v ∈ fns b.l, earlyF n v = earlyF m v := fun v hv => by
      have := size_le_szs hv
      exact earlyF_any n m v (by omega) (by omega)
    rw [Bool.eq_iff_iff, List.any_eq_true, List.any_eq_true]
    constructor
    · rintro ⟨v, hv, h1⟩; exact ⟨v, hv, by rw [← hk v hv]; exact h1⟩
    · rintro ⟨v, hv, h1⟩; exact ⟨v, hv, by rw [hk v hv]; exact h1⟩
theorem early_eq (b : V) : early b = (bads (isFn b) (wi [] b.l) || (fns b.l).any early) := by
  have hs : b.size = V.sizes b.l + 1 := by rw [size_eq]; omega
  have h : early b = (bads (isFn b) (wi [] b.l) || (fns b.l).any (earlyF (V.sizes b.l))) := by
    unfold early
    rw [hs, earlyF]
  rw [h]
  congr 1
  have hf := fns_size b.l
  have hk : ∀ v ∈ fns b.l, earlyF (V.sizes b.l) v = early v := fun v hv => by
    have := size_le_szs hv
    exact earlyF_any _ _ v (by omega) (Nat.le_refl _)
  rw [Bool.eq_iff_iff, List.any_eq_true, List.any_eq_true]
  constructor
  · rintro ⟨v, hv, h1⟩; exact ⟨v, hv, by rw [← hk v hv]; exact h1⟩
  · rintro ⟨v, hv, h1⟩; exact ⟨v, hv, by rw [hk v hv]; exact h1⟩
/-- what Check answers -/
def chs (v : V) : Int := if v.chk = 0 then (if early v then 90 else 0) else v.chk

/-! what stands within what may be, may be -/
theorem oks_mem {l : List V} (h : V.oks l = true) {v : V} (hv : v ∈ l) : v.ok = true := by
  induction l with
  | nil => cases hv
  | cons x r ih =>
    rw [V.oks, Bool.and_eq_true] at h
    rcases List.mem_cons.1 hv with rfl | hv
    · exact h.1
    · exact ih h.2 hv
theorem ok_wi_all : ∀ n : Nat, ∀ l : List V, V.sizes l ≤ n → ∀ ar, V.oks l = true → (∀ u ∈ ar, u.ok = true) → ∀ x ∈ wi ar l, x.2.ok = true ∧ ∀ u ∈ x.1, u.ok = true
  | n, [], _, ar, _, _, x, hx => by rw [wi_nil] at hx; cases hx
  | 0, v :: r, h, _, _, _, _, _ => by rw [sizes_cons] at h; omega
  | n + 1, v :: r, h, ar, ho, ha, x, hx => by
    rw [sizes_cons] at h
    rw [V.oks, Bool.and_eq_true] at ho
    rw [wi_cons, wiV_eq] at hx
    rcases List.mem_append.1 hx with hx | hx
    · rcases List.mem_cons.1 hx with rfl | hx
      · exact ⟨ho.1, ha⟩
      · by_cases hf : isFn v = true
        · rw [if_pos hf] at hx; cases hx
        · rw [if_neg hf] at hx
          have h1 := ho.1
          rw [ok_eq, Bool.and_eq_true] at h1
          exact ok_wi_all n v.l (by omega) (ar ++ [v]) h1.2 (fun u hu => by
            rcases List.mem_append.1 hu with hu | hu
            · exact ha u hu
            · simp at hu; subst hu; exact ho.1) x hx
    · exact ok_wi_all n r (by omega) ar ho.2 ha x hx
theorem ok_wi {l : List V} (h : V.oks l = true) {x : It} (hx : x ∈ wi [] l) : x.2.ok = true ∧ ∀ u ∈ x.1, u.ok = true := ok_wi_all _ l (Nat.le_refl _) [] h (fun u hu => by cases hu) x hx
theorem bulk_wi_all : ∀ n : Nat, ∀ l : List V, V.sizes l ≤ n → ∀ ar, ∀ x ∈ wi ar l, x.2.bulk ≤ V.bulks l
  | _, [], _, ar, x, hx => by rw [wi_nil] at hx; cases hx
  | 0, v :: r, h, _, _, _ => by rw [sizes_cons] at h; omega
  | n + 1, v :: r, h, ar, x, hx => by
    rw [sizes_cons] at h
    rw [wi_cons, wiV_eq] at hx
    rw [V.bulks]
    rcases List.mem_append.1 hx with hx | hx
    · rcases List.mem_cons.1 hx with rfl | hx
      · show v.bulk ≤ _; omega
      · by_cases hf : isFn v = true
        · rw [if_pos hf] at hx; cases hx
        · rw [if_neg hf] at hx
          have h1 := bulk_wi_all n v.l (by omega) (ar ++ [v]) x hx
          have h2 := bulk_ge v
          omega
    · have h1 := bulk_wi_all n r (by omega) ar x hx
      omega
theorem bulk_wi {l : List V} {x : It} (hx : x ∈ wi [] l) : x.2.bulk ≤ V.bulks l := bulk_wi_all _ l (Nat.le_refl _) [] x hx
theorem ok_ne {v : V} (h : v.ok = true) (hk : v.k = 20 ∨ v.k = 16 ∨ v.k = 30 ∨ v.k = 15) : ¬ v.l = [] := by
  rw [ok_eq, Bool.and_eq_true] at h
  have h2 : kids v = true := (Bool.and_eq_true _ _ ▸ h.1 : fields (ctch v) v = true ∧ kids v = true).2
  intro e
  rcases hk with hk | hk | hk | hk
  · rw [kids_20 hk, e] at h2; simp [are] at h2
  · rw [kids_16 hk, e] at h2; simp [are] at h2
  · rw [kids_30 hk, e] at h2; simp [are] at h2
  · rw [kids_15 hk, e] at h2; simp [are] at h2
end Go.Proofs.Ytgehgccgologpaa.Z
