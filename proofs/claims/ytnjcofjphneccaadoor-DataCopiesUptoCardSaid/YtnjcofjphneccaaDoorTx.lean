/-
  PLAIN: a value's text, and how long it is.
-/
import Derived.Test.YtnjcofjphneccaaDoorSpec
import Derived.Test.YtnjcofjphneccaaDoorUQ
import Derived.Lib.ItoaNum
import Derived.Lib.ItoaLen
import Derived.Lib.Small
namespace Go.Proofs.YtnjcofjphneccaaDoor
open Go.RowKit

/-- texts with commas between -/
def joinC : List Bs → Bs
  | [] => []
  | a :: r => a ++ r.flatMap (fun b => 44 :: b)
def lit (s : String) : Bs := s.toUTF8.data.toList
/-- a key's literal, a colon, a text -/
def pair (k : ByteArray) (t : Bs) : Bs := quote (us k.data.toList) ++ 58 :: t
mutual
/-- the text of a value that may be -/
def V.tx : V → Bs
  | .mk k n s ks l =>
    if k = 0 then [117, 110, 100, 101, 102, 105, 110, 101, 100]
    else if k = 1 then [110, 117, 108, 108]
    else if k = 2 then (if n = 1 then [116, 114, 117, 101] else [102, 97, 108, 115, 101])
    else if k = 3 then Lib.itoa n
    else if k = 4 then quote (us s.data.toList)
    else if k = 5 then 91 :: (joinC (V.txs l) ++ [93])
    else 123 :: (joinC (List.zipWith pair ks (V.txs l)) ++ [125])
def V.txs : List V → List Bs
  | [] => []
  | v :: r => v.tx :: V.txs r
end
theorem txs_map (l : List V) : V.txs l = l.map V.tx := by
  induction l with
  | nil => rfl
  | cons v r ih => simp only [V.txs, ih, List.map_cons]
theorem joinC_snoc (ps : List Bs) (p : Bs) : joinC (ps ++ [p]) = joinC ps ++ ((if ps.length = 0 then [] else [44]) ++ p) := by
  cases ps with
  | nil => simp [joinC]
  | cons a r => simp [joinC]
theorem joinC_len (ps : List Bs) : (joinC ps).length ≤ (ps.map fun p => p.length + 1).sum := by
  cases ps with
  | nil => simp [joinC]
  | cons a r =>
    have : (r.flatMap fun b => (44 : UInt8) :: b).length = (r.map fun p => p.length + 1).sum := by
      induction r with
      | nil => rfl
      | cons b t ih => simp only [List.flatMap_cons, List.length_append, List.length_cons, ih, List.map_cons, List.sum_cons]
    simp only [joinC, List.length_append, this, List.map_cons, List.sum_cons]
    omega
theorem quote_len (s : ByteArray) : (quote (us s.data.toList)).length ≤ 2 + 3 * s.size := by
  have h1 := quote_length (us s.data.toList)
  have h2 : (us s.data.toList).length = s.size / 2 := by rw [us_length, size_list]
  omega
theorem own_keys {v : V} (h : v.own = true) (h6 : v.k = 6) : v.ks.length = v.l.length ∧ okKeys v.ks := by
  unfold V.own at h
  rw [if_neg (by omega), if_neg (by omega), if_neg (by omega), if_neg (by omega), if_neg (by omega), if_pos h6] at h
  exact (of_decide_eq_true h).2.2
theorem own_kind {v : V} (h : v.own = true) : v.k = 0 ∨ v.k = 1 ∨ v.k = 2 ∨ v.k = 3 ∨ v.k = 4 ∨ v.k = 5 ∨ v.k = 6 := by
  unfold V.own at h
  repeat' split at h
  all_goals first | omega | cases h
theorem own_num {v : V} (h : v.own = true) (h3 : v.k = 3) : -9007199254740991 ≤ v.n ∧ v.n ≤ 9007199254740991 := by
  unfold V.own at h
  rw [if_neg (by omega), if_neg (by omega), if_pos h3] at h
  exact (of_decide_eq_true h).1
theorem own_bool {v : V} (h : v.own = true) (h3 : v.k = 2) : v.n = 0 ∨ v.n = 1 := by
  unfold V.own at h
  rw [if_neg (by omega), if_pos h3] at h
  exact (of_decide_eq_true h).1
theorem own_text {v : V} (h : v.own = true) (h3 : v.k = 4) : v.s.size % 2 = 0 := by
  unfold V.own at h
  rw [if_neg (by omega), if_neg (by omega), if_neg (by omega), if_pos h3] at h
  exact (of_decide_eq_true h).2.1
theorem own_of_may {v : V} (h : v.may = true) : v.own = true := by
  rw [may_eq, Bool.and_eq_true] at h
  exact h.1
theorem may_kid {v : V} (h : v.may = true) {u : V} (hu : u ∈ v.l) : u.may = true := by
  rw [may_eq, Bool.and_eq_true, mays_all] at h
  exact List.all_eq_true.1 h.2 u hu
theorem sum_zip (ks : List ByteArray) : ∀ ts : List Bs, ((List.zipWith pair ks ts).map fun p => p.length + 1).sum ≤ 22 * keysBulk ks + (ts.map fun p => p.length + 1).sum := by
  induction ks with
  | nil => intro ts; simp
  | cons k r ih =>
    intro ts
    cases ts with
    | nil => simp
    | cons t u =>
      have h1 := ih u
      have h2 := quote_len k
      simp only [List.zipWith_cons_cons, List.map_cons, List.sum_cons, keysBulk, pair, List.length_append, List.length_cons]
      omega
theorem tx_len : ∀ v : V, v.may = true → v.tx.length + 1 ≤ 23 * v.bulk := by
  refine V.ind fun k n s ks l ih => ?_
  intro hm
  have ho := own_of_may hm
  have hk : ∀ u ∈ l, u.tx.length + 1 ≤ 23 * u.bulk := fun u hu => ih u hu (may_kid hm hu)
  have hs : ((V.txs l).map fun p => p.length + 1).sum ≤ 23 * V.bulks l := by
    rw [txs_map]
    clear hm ho ih
    induction l with
    | nil => simp [V.bulks]
    | cons v r ih2 =>
      have h1 := hk v (by simp)
      have h2 := ih2 fun u hu => hk u (by simp [hu])
      simp only [List.map_cons, List.sum_cons, V.bulks]
      omega
  have hq := quote_len s
  have hz := sum_zip ks (V.txs l)
  have hj1 := joinC_len (V.txs l)
  have hj2 := joinC_len (List.zipWith pair ks (V.txs l))
  simp only [V.bulk]
  unfold V.tx
  by_cases h0 : k = 0
  · rw [if_pos h0]; simp only [List.length_cons, List.length_nil]; omega
  rw [if_neg h0]
  by_cases h1 : k = 1
  · rw [if_pos h1]; simp only [List.length_cons, List.length_nil]; omega
  rw [if_neg h1]
  by_cases h2 : k = 2
  · rw [if_pos h2]; split <;> simp only [List.length_cons, List.length_nil] <;> omega
  rw [if_neg h2]
  by_cases h3 : k = 3
  · rw [if_pos h3]
    have hn := own_num ho h3
    simp only [V.n] at hn
    have := Lib.itoa_length_le n (by omega) (by omega)
    omega
  rw [if_neg h3]
  by_cases h4 : k = 4
  · rw [if_pos h4]; omega
  rw [if_neg h4]
  by_cases h5 : k = 5
  · rw [if_pos h5]; simp only [List.length_cons, List.length_append, List.length_nil]; omega
  rw [if_neg h5]
  simp only [List.length_cons, List.length_append, List.length_nil]; omega
end Go.Proofs.YtnjcofjphneccaaDoor
