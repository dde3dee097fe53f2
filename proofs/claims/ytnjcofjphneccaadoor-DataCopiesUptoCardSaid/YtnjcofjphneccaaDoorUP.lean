/-
  PLAIN: units of a text, a literal, and what a literal denotes.
-/
import Derived.Test.YtnjcofjphneccaaDoorProg
namespace Go.Proofs.YtnjcofjphneccaaDoor

abbrev Bs := List UInt8
/-- the units of a text; the last byte of an odd one is left out -/
def us : Bs → List Nat
  | a :: b :: r => (a.toNat * 256 + b.toNat) :: us r
  | _ => []
/-- the bytes of units -/
def bs : List Nat → Bs
  | [] => []
  | n :: r => UInt8.ofNat (n / 256) :: UInt8.ofNat n :: bs r
theorem us_length : ∀ l : Bs, (us l).length = l.length / 2
  | [] => rfl
  | [_] => by simp [us]
  | _ :: _ :: r => by simp [us, us_length r]; omega
theorem us_get : ∀ (l : Bs) (i : Nat) (h : 2 * i + 1 < l.length), (us l)[i]? = some ((l[2 * i]'(by omega)).toNat * 256 + (l[2 * i + 1]'h).toNat)
  | [], i, h => by simp at h
  | [_], i, h => by simp at h
  | a :: b :: r, 0, _ => by simp [us]
  | a :: b :: r, i + 1, h => by
    have h' : 2 * i + 1 < r.length := by simp at h; omega
    have e1 : 2 * (i + 1) = 2 * i + 1 + 1 := by omega
    simp only [us, List.getElem?_cons_succ, us_get r i h', e1, List.getElem_cons_succ]
theorem us_lt : ∀ (l : Bs), ∀ n ∈ us l, n < 65536
  | [], n, h => by simp [us] at h
  | [_], n, h => by simp [us] at h
  | a :: b :: r, n, h => by
    simp only [us, List.mem_cons] at h
    rcases h with rfl | h
    · have := a.toNat_lt; have := b.toNat_lt; omega
    · exact us_lt r n h
theorem bs_length : ∀ u : List Nat, (bs u).length = 2 * u.length
  | [] => rfl
  | _ :: r => by simp [bs, bs_length r]; omega
theorem bs_append : ∀ u v : List Nat, bs (u ++ v) = bs u ++ bs v
  | [], _ => rfl
  | _ :: r, v => by simp [bs, bs_append r v]
theorem pair_bytes (a b : UInt8) : UInt8.ofNat ((a.toNat * 256 + b.toNat) / 256) = a ∧ UInt8.ofNat (a.toNat * 256 + b.toNat) = b := by
  have ha := a.toNat_lt
  have hb := b.toNat_lt
  constructor
  · apply UInt8.toNat_inj.1
    rw [UInt8.toNat_ofNat']
    omega
  · apply UInt8.toNat_inj.1
    rw [UInt8.toNat_ofNat']
    omega
theorem bs_us : ∀ l : Bs, l.length % 2 = 0 → bs (us l) = l
  | [], _ => rfl
  | [_], h => by simp at h
  | a :: b :: r, h => by
    have h' : r.length % 2 = 0 := by simp at h; omega
    simp [us, bs, bs_us r h', pair_bytes]
theorem bs_us_take : ∀ l : Bs, bs (us l) = l.take (2 * (l.length / 2))
  | [] => rfl
  | [_] => by simp [us, bs]
  | a :: b :: r => by
    have e : 2 * ((a :: b :: r).length / 2) = 2 * (r.length / 2) + 1 + 1 := by simp; omega
    rw [e]
    simp [us, bs, bs_us_take r, pair_bytes]
theorem us_bs : ∀ u : List Nat, (∀ n ∈ u, n < 65536) → us (bs u) = u
  | [], _ => rfl
  | n :: r, h => by
    have hn := h n (by simp)
    have hr := us_bs r (fun m hm => h m (by simp [hm]))
    simp only [bs, us, hr, UInt8.toNat_ofNat']
    congr 1
    omega
theorem bs_take : ∀ (u : List Nat) (k : Nat), bs (u.take k) = (bs u).take (2 * k)
  | [], k => by simp [bs]
  | _ :: _, 0 => by simp [bs]
  | n :: r, k + 1 => by
    have e : 2 * (k + 1) = 2 * k + 1 + 1 := by omega
    rw [e]
    simp [bs, bs_take r k]
theorem bs_drop : ∀ (u : List Nat) (k : Nat), bs (u.drop k) = (bs u).drop (2 * k)
  | [], k => by simp [bs]
  | _ :: _, 0 => by simp
  | n :: r, k + 1 => by
    have e : 2 * (k + 1) = 2 * k + 1 + 1 := by omega
    rw [e]
    simp [bs, bs_drop r k]
theorem us_append : ∀ (l m : Bs), l.length % 2 = 0 → us (l ++ m) = us l ++ us m
  | [], _, _ => rfl
  | [_], _, h => by simp at h
  | a :: b :: r, m, h => by
    have h' : r.length % 2 = 0 := by simp at h; omega
    simp [us, us_append r m h']
/-- the unit at an index, or -1 -/
def atI (u : List Nat) (i : Int) : Int := if 0 ≤ i ∧ i < u.length then ((u.getD i.toNat 0 : Nat) : Int) else -1
/-- the units from an index up to another one -/
def cutU (u : List Nat) (i j : Int) : List Nat := (u.take j.toNat).drop i.toNat
theorem cut_bytes (l : Bs) (i j : Int) : bs (cutU (us l) i j) = ((l.take (2 * (l.length / 2))).take (2 * j.toNat)).drop (2 * i.toNat) := by
  rw [cutU, bs_drop, bs_take, bs_us_take]
theorem cut_snoc (u : List Nat) (k : Nat) (hk : k < u.length) (i j : Int) : cutU (u.take (k + 1)) i j = cutU (u.take k) i j ++ (if i ≤ k ∧ k < j then [u[k]] else []) := by
  unfold cutU
  by_cases hj : (k : Int) < j
  · have e1 : (u.take (k + 1)).take j.toNat = u.take k ++ [u[k]] := by
      rw [List.take_take, Nat.min_eq_right (by omega), List.take_succ_eq_append_getElem hk]
    have e2 : (u.take k).take j.toNat = u.take k := by rw [List.take_take, Nat.min_eq_right (by omega)]
    rw [e1, e2]
    by_cases hi : i ≤ k
    · rw [if_pos ⟨hi, hj⟩, List.drop_append_of_le_length (by simp; omega)]
    · rw [if_neg (by omega), List.append_nil, List.drop_eq_nil_of_le (by simp; omega), List.drop_eq_nil_of_le (by simp; omega)]
  · rw [if_neg (by omega), List.append_nil, List.take_take, List.take_take, Nat.min_eq_left (by omega), Nat.min_eq_left (by omega)]
/-- a digit of base 16 -/
def hexB (n : Nat) : UInt8 := if n < 10 then UInt8.ofNat (48 + n) else UInt8.ofNat (87 + n)
/-- how a unit is written -/
def quoted (n : Nat) : Bs :=
  if n = 34 then [92, 34] else if n = 92 then [92, 92] else if n = 8 then [92, 98] else if n = 9 then [92, 116] else if n = 10 then [92, 110]
  else if n = 12 then [92, 102] else if n = 13 then [92, 114]
  else if n < 32 ∨ 126 < n then [92, 117, hexB (n / 4096), hexB (n / 256 % 16), hexB (n / 16 % 16), hexB (n % 16)] else [UInt8.ofNat n]
def quote (u : List Nat) : Bs := 34 :: (u.flatMap quoted ++ [34])
theorem quoted_length (n : Nat) : (quoted n).length ≤ 6 ∧ 1 ≤ (quoted n).length := by
  unfold quoted
  repeat' split
  all_goals simp
/-- a digit's number -/
def hexV (c : UInt8) : Option Nat :=
  if 48 ≤ c.toNat ∧ c.toNat ≤ 57 then some (c.toNat - 48) else if 97 ≤ c.toNat ∧ c.toNat ≤ 102 then some (c.toNat - 87)
  else if 65 ≤ c.toNat ∧ c.toNat ≤ 70 then some (c.toNat - 55) else none
/-- digits read one behind the other -/
def hexGo : Nat → Bs → Option Nat
  | acc, [] => some acc
  | acc, c :: r => match hexV c with
    | some d => hexGo (16 * acc + d) r
    | none => none
theorem hexV_lt {c : UInt8} {d : Nat} (h : hexV c = some d) : d < 16 := by
  unfold hexV at h
  repeat' split at h
  all_goals simp at h
  all_goals omega
/-- what the letters of an escape sequence of one letter stand for; none: it is none -/
def simpleV (c : UInt8) : Option Nat :=
  if c = 110 then some 10 else if c = 116 then some 9 else if c = 114 then some 13 else if c = 98 then some 8 else if c = 102 then some 12 else if c = 118 then some 11
  else if 127 < c.toNat ∨ c = 13 ∨ c = 120 ∨ c = 117 ∨ (48 ≤ c.toNat ∧ c.toNat ≤ 57) ∨ c = 10 then none else some c.toNat
/-- what stands behind a backslash: the units that it stands for, and how many bytes (without the backslash); none: it may not stand there -/
def esc (s : Bs) : Option (List Nat × Nat) :=
  match s with
  | [] => none
  | c :: r =>
    if c = 10 then some ([], 1)
    else if c = 48 then (match r with
      | d :: _ => if 48 ≤ d.toNat ∧ d.toNat ≤ 57 then none else some ([0], 1)
      | [] => some ([0], 1))
    else if c = 120 then (if r.length < 2 then none else match hexGo 0 (r.take 2) with
      | some n => some ([n], 3)
      | none => none)
    else if c = 117 then (if r.length < 4 then none else match hexGo 0 (r.take 4) with
      | some n => some ([n], 5)
      | none => none)
    else match simpleV c with
      | some n => some ([n], 1)
      | none => none
/-- what stands at the head of a literal's inside -/
def unit1 (s : Bs) : Option (List Nat × Nat) :=
  match s with
  | [] => none
  | c :: r =>
    if c = 92 then (match esc r with
      | some (l, n) => some (l, n + 1)
      | none => none)
    else if c = 10 ∨ c = 13 ∨ 127 < c.toNat then none
    else some ([c.toNat], 1)
/-- the inside of a literal that ends with q: the units gathered, the place where the reader stands -/
def rdGo (q : UInt8) : Nat → Bs → List Nat → Nat → Option (List Nat × Nat)
  | 0, _, _, _ => none
  | _ + 1, [], _, _ => none
  | f + 1, c :: r, out, k =>
    if c = q then some (out, k + 1) else
    match unit1 (c :: r) with
    | some (l, n) => rdGo q f ((c :: r).drop n) (out ++ l) (k + n)
    | none => none
def read (s : Bs) : Option (List Nat × Nat) :=
  match s with
  | [] => none
  | q :: r => if q = 39 ∨ q = 34 then rdGo q (r.length + 1) r [] 1 else none
end Go.Proofs.YtnjcofjphneccaaDoor
