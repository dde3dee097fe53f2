/-
  PLAIN: the encoding of a value; what value stands at the head of bytes.
-/
import Derived.Test.YtnkknlhdbhfjlaaA
import Derived.Test.YtnkknlhdbhfjlaaOP
import Derived.Test.YtnkknlhdbhfjlaaF
namespace Go.Proofs.Ytnkknlhdbhfjlaa
open Go.RowKit

def zipEnc (ks : List ByteArray) (bl : List Bs) : Bs := (List.zipWith (fun k b => O.text k.data.toList ++ b) ks bl).flatten
mutual
/-- the encoding of a value -/
def V.enc : V → Bs
  | .mk k n s ks l =>
    if k = 0 then [0] else if k = 1 then [1] else if k = 2 then [UInt8.ofNat (2 + n.toNat)]
    else if k = 3 then (if n < 0 then 5 :: O.num (-1 - n).toNat else 4 :: O.num n.toNat)
    else if k = 4 then 6 :: O.text s.data.toList
    else if k = 5 then 7 :: (O.num l.length ++ (V.encs l).flatten)
    else 8 :: (O.num ks.length ++ zipEnc ks (V.encs l))
def V.encs : List V → List Bs
  | [] => []
  | v :: r => v.enc :: V.encs r
end
theorem encs_map (l : List V) : V.encs l = l.map V.enc := by
  induction l with
  | nil => rfl
  | cons x r ih => simp only [V.encs, ih, List.map_cons]
theorem enc_eq (v : V) : v.enc = if v.k = 0 then [0] else if v.k = 1 then [1] else if v.k = 2 then [UInt8.ofNat (2 + v.n.toNat)]
    else if v.k = 3 then (if v.n < 0 then 5 :: O.num (-1 - v.n).toNat else 4 :: O.num v.n.toNat)
    else if v.k = 4 then 6 :: O.text v.s.data.toList
    else if v.k = 5 then 7 :: (O.num v.l.length ++ (v.l.map V.enc).flatten)
    else 8 :: (O.num v.ks.length ++ zipEnc v.ks (v.l.map V.enc)) := by
  cases v
  rw [V.enc, encs_map]
  rfl
theorem enc0 {v : V} (h : v.k = 0) : v.enc = [0] := by rw [enc_eq, if_pos h]
theorem enc1 {v : V} (h : v.k = 1) : v.enc = [1] := by rw [enc_eq, if_neg (by omega), if_pos h]
theorem enc2 {v : V} (h : v.k = 2) : v.enc = [UInt8.ofNat (2 + v.n.toNat)] := by rw [enc_eq, if_neg (by omega), if_neg (by omega), if_pos h]
theorem enc3 {v : V} (h : v.k = 3) : v.enc = if v.n < 0 then 5 :: O.num (-1 - v.n).toNat else 4 :: O.num v.n.toNat := by rw [enc_eq, if_neg (by omega), if_neg (by omega), if_neg (by omega), if_pos h]
theorem enc3n {v : V} (h : v.k = 3) (hn : v.n < 0) : v.enc = 5 :: O.num (-1 - v.n).toNat := by rw [enc3 h, if_pos hn]
theorem enc3p {v : V} (h : v.k = 3) (hn : ¬ v.n < 0) : v.enc = 4 :: O.num v.n.toNat := by rw [enc3 h, if_neg hn]
theorem enc4 {v : V} (h : v.k = 4) : v.enc = 6 :: O.text v.s.data.toList := by rw [enc_eq, if_neg (by omega), if_neg (by omega), if_neg (by omega), if_neg (by omega), if_pos h]
theorem enc5 {v : V} (h : v.k = 5) : v.enc = 7 :: (O.num v.l.length ++ (v.l.map V.enc).flatten) := by rw [enc_eq, if_neg (by omega), if_neg (by omega), if_neg (by omega), if_neg (by omega), if_neg (by omega), if_pos h]
theorem enc6 {v : V} (h : v.k = 6) : v.enc = 8 :: (O.num v.ks.length ++ zipEnc v.ks (v.l.map V.enc)) := by rw [enc_eq, if_neg (by omega), if_neg (by omega), if_neg (by omega), if_neg (by omega), if_neg (by omega), if_neg (by omega)]
theorem zipEnc_snoc (ks : List ByteArray) (bl : List Bs) (k : ByteArray) (b : Bs) (h : ks.length = bl.length) : zipEnc (ks ++ [k]) (bl ++ [b]) = zipEnc ks bl ++ (O.text k.data.toList ++ b) := by
  unfold zipEnc
  rw [List.zipWith_append h]
  simp

/- What a number's bytes are read as, and back. -/
theorem rd_inv : ∀ (l : Bs) (f i acc n k : Nat), i + f = 9 → O.rd i acc l = (n, k, 0) → ∃ m, n = acc + m * 128 ^ i ∧ m < O.lim f ∧ (i = 0 ∨ 0 < m) ∧ i < k ∧ O.numG f m = l.take (k - i)
  | [], f, i, acc, n, k, _, h => by simp [O.rd] at h
  | c :: r, f, i, acc, n, k, hi, h => by
    have hc := c.toNat_lt
    by_cases hb : (i = 9 ∧ 1 < c.toNat) ∨ (0 < i ∧ c.toNat = 0)
    · rw [O.rd_bad hb] at h; simp at h
    · by_cases h128 : c.toNat < 128
      · rw [O.rd_last hb h128] at h
        simp only [Prod.mk.injEq, and_true] at h
        obtain ⟨rfl, rfl⟩ := h
        refine ⟨c.toNat, rfl, ?_, by omega, by omega, ?_⟩
        · cases f with
          | zero => rw [O.lim_zero]; omega
          | succ g =>
            have : 0 < 128 ^ g := Nat.pow_pos (by decide)
            rw [O.lim_succ]; unfold O.lim; omega
        · rw [O.numG_small h128, show i + 1 - i = 1 by omega, List.take_succ_cons, List.take_zero, UInt8.ofNat_toNat]
      · rw [O.rd_more hb (by omega)] at h
        cases f with
        | zero => exact absurd (.inl ⟨by omega, by omega⟩) hb
        | succ g =>
          obtain ⟨m, e1, e2, e3, e4, e5⟩ := rd_inv r g (i + 1) _ n k (by omega) h
          have hm : 0 < m := by omega
          refine ⟨(c.toNat - 128) + 128 * m, ?_, by rw [O.lim_succ]; omega, .inr (by omega), by omega, ?_⟩
          · rw [e1, Nat.pow_succ, Nat.add_mul, Nat.add_assoc, Nat.mul_comm (128 ^ i) 128, ← Nat.mul_assoc, Nat.mul_comm m 128]
          · rw [O.numG_big (by omega), show k - i = (k - (i + 1)) + 1 by omega, List.take_succ_cons, show ((c.toNat - 128) + 128 * m) / 128 = m by omega, e5,
              show (c.toNat - 128 + 128 * m) % 128 + 128 = c.toNat by omega, UInt8.ofNat_toNat]
theorem rd_take {l : Bs} {n k : Nat} (h : O.rd 0 0 l = (n, k, 0)) : O.num n = l.take k ∧ 0 < k ∧ k ≤ l.length ∧ n < 18446744073709551616 := by
  obtain ⟨m, e1, e2, _, e4, e5⟩ := rd_inv l 9 0 0 n k rfl h
  have hok := O.rd_ok l 0 0 (by decide) (by decide)
  rw [h] at hok
  rw [Nat.pow_zero, Nat.mul_one, Nat.zero_add] at e1
  subst e1
  have h3 := (hok.2.2.1 rfl).2
  simp only [Nat.zero_add] at h3
  exact ⟨e5, e4, h3, by rw [O.lim_nine] at e2; exact e2⟩
/-- the error of a number -/
theorem rd_err (l : Bs) : (O.rd 0 0 l).2.2 = 0 ∨ (O.rd 0 0 l).2.2 = 20 ∨ (O.rd 0 0 l).2.2 = 22 := (O.rd_ok l 0 0 (by decide) (by decide)).2.2.2.2
theorem rd_bad0 {l : Bs} (h : (O.rd 0 0 l).2.2 ≠ 0) : (O.rd 0 0 l).1 = 0 ∧ (O.rd 0 0 l).2.1 = 0 := (O.rd_ok l 0 0 (by decide) (by decide)).2.1 h

/- A text. -/
theorem rdText_err (l : Bs) (most : Int) : (O.rdText l most).2.2 = 0 ∨ (O.rdText l most).2.2 = 20 ∨ (O.rdText l most).2.2 = 22 := by
  unfold O.rdText
  split
  · exact rd_err l
  · split
    · show (O.first _ _ most).2 = 0 ∨ (O.first _ _ most).2 = 20 ∨ (O.first _ _ most).2 = 22
      unfold O.first
      split
      · exact .inr (.inr rfl)
      · split
        · exact .inr (.inl rfl)
        · exact .inl rfl
    · exact .inl rfl
theorem rdText_zero {l : Bs} {most : Int} (h : (O.rdText l most).2.2 ≠ 0) : (O.rdText l most).1 = [] ∧ (O.rdText l most).2.1 = 0 := by
  unfold O.rdText at *
  split
  · exact ⟨rfl, rfl⟩
  · split
    · exact ⟨rfl, rfl⟩
    · rename_i h1 h2
      rw [if_neg h1, if_neg h2] at h
      exact absurd rfl h
theorem rdText_inv {l : Bs} {most : Int} (h : (O.rdText l most).2.2 = 0) : O.text (O.rdText l most).1 = l.take (O.rdText l most).2.1 ∧ 0 < (O.rdText l most).2.1 ∧ (O.rdText l most).2.1 ≤ l.length ∧ (O.rdText l most).1.length < (O.rdText l most).2.1 ∧ ((O.rdText l most).1.length : Int) ≤ most := by
  unfold O.rdText at *
  split at h
  · rename_i h1; exact absurd h h1
  · rename_i h1
    split at h
    · rename_i h2; exact absurd h h2
    · rename_i h2
      rw [if_neg h1, if_neg h2]
      generalize hr : O.rd 0 0 l = r at *
      obtain ⟨n, k, e⟩ := r
      simp only [ne_eq, Decidable.not_not] at h1 h2
      subst h1
      simp only at *
      obtain ⟨e1, e2, e3, e4⟩ := rd_take hr
      have hf : ¬ (most < 0 ∨ most < (n : Int)) ∧ ¬ (l.drop k).length < n := by
        unfold O.first at h2
        split at h2
        · simp at h2
        · rename_i g1
          split at h2
          · simp at h2
          · rename_i g2
            exact ⟨g1, g2⟩
      have hl : n ≤ (l.drop k).length := by omega
      have hlen : ((l.drop k).take n).length = n := by rw [List.length_take]; omega
      rw [List.length_drop] at hl
      refine ⟨?_, by omega, by omega, by rw [hlen]; omega, by rw [hlen]; omega⟩
      unfold O.text
      rw [hlen, e1, List.take_add]
theorem rdText_good2 {l : Bs} {most : Int} (hl : l.length < 18446744073709551616) (hm : (l.length : Int) ≤ most) (r : Bs) : O.rdText (O.text l ++ r) most = (l, (O.text l).length, 0) := by
  unfold O.rdText O.text
  rw [List.append_assoc, O.rd_num hl, List.drop_left]
  simp only [ne_eq, not_true_eq_false, if_false]
  have e : O.first (l ++ r) l.length most = ((l ++ r).take l.length, 0) := by
    unfold O.first
    rw [if_neg (by omega), if_neg (by simp)]
  rw [e]
  simp only [not_true_eq_false, if_false, List.take_left, List.length_append]

/-- a text that is one of units: the text, how many bytes, the error -/
def utx (b : Bs) : ByteArray × Nat × Nat :=
  if (O.rdText b 2147483647).2.2 ≠ 0 then (⟨#[]⟩, 0, (O.rdText b 2147483647).2.2)
  else if (O.rdText b 2147483647).1.length % 2 = 1 then (⟨#[]⟩, 0, 22)
  else (⟨(O.rdText b 2147483647).1.toArray⟩, (O.rdText b 2147483647).2.1, 0)
theorem utx_err (b : Bs) : (utx b).2.2 = 0 ∨ (utx b).2.2 = 20 ∨ (utx b).2.2 = 22 := by
  unfold utx
  split
  · exact rdText_err b _
  · split
    · exact .inr (.inr rfl)
    · exact .inl rfl
theorem utx_inv {b : Bs} (h : (utx b).2.2 = 0) : O.text (utx b).1.data.toList = b.take (utx b).2.1 ∧ 0 < (utx b).2.1 ∧ (utx b).2.1 ≤ b.length ∧ (utx b).1.size < (utx b).2.1 ∧ (utx b).1.size % 2 = 0 := by
  unfold utx at *
  split at h
  · rename_i h1; exact absurd h h1
  · rename_i h1
    split at h
    · exact absurd h (by decide)
    · rename_i h2
      rw [if_neg h1, if_neg h2]
      obtain ⟨e1, e2, e3, e4, _⟩ := rdText_inv (l := b) (most := 2147483647) (by simpa using h1)
      refine ⟨e1, e2, e3, ?_, ?_⟩
      · show (O.rdText b 2147483647).1.toArray.size < _
        rw [List.size_toArray]; exact e4
      · show (O.rdText b 2147483647).1.toArray.size % 2 = 0
        rw [List.size_toArray]; omega
theorem utx_good {s : ByteArray} (hs : s.size ≤ 4194304) (he : s.size % 2 = 0) (r : Bs) : utx (O.text s.data.toList ++ r) = (s, (O.text s.data.toList).length, 0) := by
  have hl := size_list s
  unfold utx
  rw [rdText_good2 (by omega) (by omega)]
  simp only [ne_eq, not_true_eq_false, if_false]
  rw [if_neg (by omega)]

def hasKey (ks : List ByteArray) (k : ByteArray) : Bool := ks.any fun x => decide (x = k)
theorem hasKey_iff {ks : List ByteArray} {k : ByteArray} : hasKey ks k = true ↔ k ∈ ks := by
  unfold hasKey
  rw [List.any_eq_true]
  exact ⟨fun ⟨x, h1, h2⟩ => by rw [← of_decide_eq_true h2]; exact h1, fun h => ⟨k, h, decide_eq_true rfl⟩⟩
/-- what is read: an error, or a value and how many bytes it takes -/
inductive Dec where
  | bad (e : Nat)
  | good (v : V) (n : Nat)
def Dec.up : Dec → Dec
  | .bad e => .bad e
  | .good v n => .good v (n + 1)
/-- one more of a List, of a Record -/
def decMany (f : Bs → Dec) (k : Int) (b : Bs) : Nat → Nat → List ByteArray → List V → Dec
  | 0, m, ks, l => .good (.mk k 0 ⟨#[]⟩ ks l) m
  | c + 1, m, ks, l =>
    if k = 6 then
      if (utx (b.drop m)).2.2 ≠ 0 then .bad (utx (b.drop m)).2.2
      else if hasKey ks (utx (b.drop m)).1 = true then .bad 22
      else match f (b.drop (m + (utx (b.drop m)).2.1)) with
        | .bad e => .bad e
        | .good v n => decMany f k b c (m + (utx (b.drop m)).2.1 + n) (ks ++ [(utx (b.drop m)).1]) (l ++ [v])
    else match f (b.drop m) with
      | .bad e => .bad e
      | .good v n => decMany f k b c (m + n) ks (l ++ [v])
def decAll (f : Bs → Dec) (k : Int) (b : Bs) : Dec :=
  if (O.rd 0 0 b).2.2 ≠ 0 then .bad (O.rd 0 0 b).2.2 else decMany f k b (O.rd 0 0 b).1 (O.rd 0 0 b).2.1 [] []
def decNum (c : UInt8) (b : Bs) : Dec :=
  if (O.rd 0 0 b).2.2 ≠ 0 then .bad (O.rd 0 0 b).2.2
  else if 9007199254740991 < (O.rd 0 0 b).1 ∨ (c = 5 ∧ 9007199254740990 < (O.rd 0 0 b).1) then .bad 22
  else .good (.mk 3 (if c = 5 then -1 - ((O.rd 0 0 b).1 : Int) else ((O.rd 0 0 b).1 : Int)) ⟨#[]⟩ [] []) (O.rd 0 0 b).2.1
def decText (b : Bs) : Dec := if (utx b).2.2 ≠ 0 then .bad (utx b).2.2 else .good (.mk 4 0 (utx b).1 [] []) (utx b).2.1
/-- the value at the head of bytes, that may be so deep -/
def dec : Nat → Bs → Dec
  | _, [] => .bad 20
  | 0, _ :: _ => .bad 31
  | d + 1, c :: r =>
    if c = 0 then .good (.mk 0 0 ⟨#[]⟩ [] []) 1
    else if c = 1 then .good (.mk 1 0 ⟨#[]⟩ [] []) 1
    else if c = 2 ∨ c = 3 then .good (.mk 2 ((c.toNat : Int) - 2) ⟨#[]⟩ [] []) 1
    else if c = 4 ∨ c = 5 then (decNum c r).up
    else if c = 6 then (decText r).up
    else if c = 7 then (decAll (dec d) 5 r).up
    else if c = 8 then (decAll (dec d) 6 r).up
    else .bad 22
/-- what is asked of what is read -/
def Right (d : Nat) (b : Bs) : Dec → Prop
  | .bad e => e = 20 ∨ e = 22 ∨ e = 31
  | .good v n => 1 ≤ n ∧ n ≤ b.length ∧ v.bulk ≤ n ∧ v.may = true ∧ v.deep ≤ d ∧ v.enc = b.take n
theorem right_up {d : Nat} {b : Bs} {x : Dec} (h : match x with | .bad e => e = 20 ∨ e = 22 ∨ e = 31 | .good v n => n + 1 ≤ b.length ∧ v.bulk ≤ n + 1 ∧ v.may = true ∧ v.deep ≤ d ∧ v.enc = b.take (n + 1)) : Right d b x.up := by
  cases x with
  | bad e => exact h
  | good v n => exact ⟨by omega, h.1, h.2⟩
theorem deeps_snoc1 (l : List V) (v : V) : V.deeps (l ++ [v]) = max (V.deeps l) v.deep := by rw [deeps_append]; simp [V.deeps]
theorem bulks_app (a b : List V) : V.bulks (a ++ b) = V.bulks a + V.bulks b := by
  induction a with
  | nil => simp [V.bulks]
  | cons x r ih => simp only [List.cons_append, V.bulks, ih]; omega
theorem bulks_snoc1 (l : List V) (v : V) : V.bulks (l ++ [v]) = V.bulks l + v.bulk := by rw [bulks_app]; simp [V.bulks]
theorem keysBulk_append (a b : List ByteArray) : keysBulk (a ++ b) = keysBulk a + keysBulk b := by
  induction a with
  | nil => simp [keysBulk]
  | cons x r ih => simp only [List.cons_append, keysBulk, ih]; omega
/-- what holds while a List or a Record is read -/
structure Half (d : Nat) (k : Int) (b : Bs) (hd m : Nat) (ks : List ByteArray) (l : List V) : Prop where
  le : m ≤ b.length
  ge : hd ≤ m
  pos : 0 < hd
  bulk : keysBulk ks + V.bulks l ≤ m
  may : V.mays l = true
  deep : V.deeps l ≤ d
  keys : k = 6 → ks.length = l.length ∧ okKeys ks
  nokeys : k ≠ 6 → ks = []
  enc : b.take m = b.take hd ++ (if k = 6 then zipEnc ks (l.map V.enc) else (l.map V.enc).flatten)
theorem take_take_drop {b x : Bs} {m n : Nat} (h : x = (b.drop m).take n) : b.take (m + n) = b.take m ++ x := by rw [h, List.take_add]
theorem Half.list {d : Nat} {b : Bs} {hd m : Nat} {l : List V} (h : Half d 5 b hd m [] l) {v : V} {n : Nat} (hv : Right d (b.drop m) (.good v n)) : Half d 5 b hd (m + n) [] (l ++ [v]) := by
  obtain ⟨h1, h2, h3, h4, h5, h6⟩ := hv
  have hle := h.le
  rw [List.length_drop] at h2
  refine ⟨by omega, by have := h.ge; omega, h.pos, ?_, ?_, ?_, fun e => by omega, fun _ => rfl, ?_⟩
  · have := h.bulk
    rw [bulks_snoc1]; omega
  · rw [mays_append, h.may]; simp [V.mays, h4]
  · have := h.deep
    rw [deeps_snoc1]; omega
  · rw [take_take_drop h6, h.enc]
    simp [List.append_assoc]
theorem Half.recd {d : Nat} {b : Bs} {hd m : Nat} {ks : List ByteArray} {l : List V} (h : Half d 6 b hd m ks l) (hu : (utx (b.drop m)).2.2 = 0) (hn : (utx (b.drop m)).1 ∉ ks) {v : V} {n : Nat} (hv : Right d (b.drop (m + (utx (b.drop m)).2.1)) (.good v n)) :
    Half d 6 b hd (m + (utx (b.drop m)).2.1 + n) (ks ++ [(utx (b.drop m)).1]) (l ++ [v]) := by
  obtain ⟨h1, h2, h3, h4, h5, h6⟩ := hv
  obtain ⟨u1, u2, u3, u4, u5⟩ := utx_inv hu
  generalize (utx (b.drop m)).1 = key at *
  generalize (utx (b.drop m)).2.1 = w at *
  have hle := h.le
  obtain ⟨hkl, hok1, hok2⟩ := h.keys rfl
  rw [List.length_drop] at h2 u3
  refine ⟨by omega, by have := h.ge; omega, h.pos, ?_, ?_, ?_, fun _ => ⟨by simp [hkl], ?_, ?_⟩, fun e => absurd rfl e, ?_⟩
  · have := h.bulk
    rw [bulks_snoc1, keysBulk_append]; simp only [keysBulk]; omega
  · rw [mays_append, h.may]; simp [V.mays, h4]
  · have := h.deep
    rw [deeps_snoc1]; omega
  · intro k hk
    rcases List.mem_append.1 hk with hk | hk
    · exact hok1 k hk
    · simp at hk
      rw [hk]; exact u5
  · refine List.nodup_append.2 ⟨hok2, by simp, fun a ha c hc => ?_⟩
    simp at hc
    subst hc
    rintro rfl
    exact hn ha
  · rw [take_take_drop h6, take_take_drop u1, h.enc, if_pos rfl, if_pos rfl, List.map_append, List.map_singleton, zipEnc_snoc _ _ _ _ (by simp [hkl])]
    simp [List.append_assoc]
theorem decMany_right {d : Nat} {f : Bs → Dec} (hf : ∀ b, Right d b (f b)) {k : Int} (hk : k = 5 ∨ k = 6) (b : Bs) (hd tot : Nat) (ht : O.num tot = b.take hd) : ∀ (c m : Nat) (ks : List ByteArray) (l : List V), Half d k b hd m ks l → l.length + c = tot →
    match decMany f k b c m ks l with
    | .bad e => e = 20 ∨ e = 22 ∨ e = 31
    | .good v n => n ≤ b.length ∧ v.bulk ≤ n + 1 ∧ v.may = true ∧ v.deep ≤ d + 1 ∧ v.enc = (if k = 6 then 8 else 7) :: b.take n
  | 0, m, ks, l, h, hl => by
    rw [decMany]
    simp only
    have hm := h.may
    refine ⟨h.le, ?_, ?_, ?_, ?_⟩
    · have := h.bulk
      simp only [V.bulk]
      show 1 + (⟨#[]⟩ : ByteArray).size + keysBulk ks + V.bulks l ≤ m + 1
      have : (⟨#[]⟩ : ByteArray).size = 0 := rfl
      omega
    · rw [may_eq]
      show (V.own _ && V.mays l) = true
      rw [hm, Bool.and_true]
      rcases hk with rfl | rfl
      · obtain rfl := h.nokeys (by decide)
        simp [V.own, V.k, V.n, V.s, V.ks, ByteArray.size]
      · obtain ⟨e1, e2⟩ := h.keys rfl
        simp [V.own, V.k, V.n, V.s, V.ks, V.l, e1, e2, ByteArray.size]
    · have := h.deep
      simp only [V.deep]; omega
    · have hlt : l.length = tot := by omega
      rw [h.enc, ← ht]
      rcases hk with rfl | rfl
      · rw [enc5 (by rfl), if_neg (by decide), if_neg (by decide)]
        show 7 :: (O.num l.length ++ _) = _
        rw [hlt]
        rfl
      · rw [enc6 (by rfl), if_pos rfl, if_pos rfl]
        show 8 :: (O.num ks.length ++ _) = _
        rw [(h.keys rfl).1, hlt]
        rfl
  | c + 1, m, ks, l, h, hl => by
    rw [decMany]
    rcases hk with rfl | rfl
    · rw [if_neg (by decide)]
      obtain rfl := h.nokeys (by decide)
      have hr := hf (b.drop m)
      cases hd' : f (b.drop m) with
      | bad e => rw [hd'] at hr; exact hr
      | good v n =>
        rw [hd'] at hr
        exact decMany_right hf (.inl rfl) b hd tot ht c (m + n) [] (l ++ [v]) (h.list hr) (by simp; omega)
    · rw [if_pos rfl]
      by_cases hu : (utx (b.drop m)).2.2 = 0
      · rw [if_neg (by simp [hu])]
        by_cases hn : hasKey ks (utx (b.drop m)).1 = true
        · rw [if_pos hn]; exact .inr (.inl rfl)
        · rw [if_neg hn]
          have hr := hf (b.drop (m + (utx (b.drop m)).2.1))
          cases hd' : f (b.drop (m + (utx (b.drop m)).2.1)) with
          | bad e => rw [hd'] at hr; exact hr
          | good v n =>
            rw [hd'] at hr
            exact decMany_right hf (.inr rfl) b hd tot ht c _ _ (l ++ [v]) (h.recd hu (fun e => hn (hasKey_iff.2 e)) hr) (by simp; omega)
      · rw [if_pos hu]
        rcases utx_err (b.drop m) with e | e | e
        · exact absurd e hu
        · exact .inl e
        · exact .inr (.inl e)
theorem decAll_right {d : Nat} {f : Bs → Dec} (hf : ∀ b, Right d b (f b)) {k : Int} (hk : k = 5 ∨ k = 6) (b : Bs) :
    match decAll f k b with
    | .bad e => e = 20 ∨ e = 22 ∨ e = 31
    | .good v n => n ≤ b.length ∧ v.bulk ≤ n + 1 ∧ v.may = true ∧ v.deep ≤ d + 1 ∧ v.enc = (if k = 6 then 8 else 7) :: b.take n := by
  unfold decAll
  by_cases he : (O.rd 0 0 b).2.2 = 0
  · rw [if_neg (by simp [he])]
    obtain ⟨e1, e2, e3, _⟩ := rd_take (l := b) (n := (O.rd 0 0 b).1) (k := (O.rd 0 0 b).2.1) (Prod.ext rfl (Prod.ext rfl he))
    refine decMany_right hf hk b _ _ e1 _ _ [] [] ⟨e3, Nat.le_refl _, e2, by simp [keysBulk, V.bulks], rfl, by simp [V.deeps], fun _ => ⟨rfl, by simp, by simp⟩, fun _ => rfl, ?_⟩ (by simp)
    simp [zipEnc]
  · rw [if_pos he]
    rcases rd_err b with e | e | e
    · exact absurd e he
    · exact .inl e
    · exact .inr (.inl e)
theorem dec_right : ∀ (d : Nat) (b : Bs), Right d b (dec d b)
  | 0, [] => .inl rfl
  | _ + 1, [] => .inl rfl
  | 0, _ :: _ => .inr (.inr rfl)
  | d + 1, c :: r => by
    rw [dec]
    have h0 : (⟨#[]⟩ : ByteArray).size = 0 := rfl
    by_cases c0 : c = 0
    · subst c0; exact ⟨by simp, by simp, by simp [V.bulk, V.bulks, keysBulk, h0], by decide, by simp [V.deep, V.deeps], by first | rw [enc0 (by rfl)]; rfl | rw [enc1 (by rfl)]; rfl⟩
    rw [if_neg c0]
    by_cases c1 : c = 1
    · subst c1; exact ⟨by simp, by simp, by simp [V.bulk, V.bulks, keysBulk, h0], by decide, by simp [V.deep, V.deeps], by first | rw [enc0 (by rfl)]; rfl | rw [enc1 (by rfl)]; rfl⟩
    rw [if_neg c1]
    by_cases c2 : c = 2 ∨ c = 3
    · rw [if_pos c2]
      rcases c2 with rfl | rfl
      · exact ⟨by simp, by simp, by simp [V.bulk, V.bulks, keysBulk, h0], by decide, by simp [V.deep, V.deeps], by rw [enc2 (by rfl)]; rfl⟩
      · exact ⟨by simp, by simp, by simp [V.bulk, V.bulks, keysBulk, h0], by decide, by simp [V.deep, V.deeps], by rw [enc2 (by rfl)]; rfl⟩
    rw [if_neg c2]
    by_cases c4 : c = 4 ∨ c = 5
    · rw [if_pos c4]
      refine right_up ?_
      unfold decNum
      by_cases he : (O.rd 0 0 r).2.2 = 0
      · rw [if_neg (by simp [he])]
        obtain ⟨e1, e2, e3, _⟩ := rd_take (l := r) (n := (O.rd 0 0 r).1) (k := (O.rd 0 0 r).2.1) (Prod.ext rfl (Prod.ext rfl he))
        generalize (O.rd 0 0 r).1 = n at *
        generalize (O.rd 0 0 r).2.1 = m at *
        by_cases hn : 9007199254740991 < n ∨ c = 5 ∧ 9007199254740990 < n
        · rw [if_pos hn]; exact .inr (.inl rfl)
        · rw [if_neg hn]
          refine ⟨by simp; omega, ?_, ?_, ?_, ?_⟩
          · simp only [V.bulk, V.bulks, keysBulk, h0]; omega
          · rw [may_eq]
            show (V.own _ && V.mays []) = true
            rw [show V.mays [] = true from rfl, Bool.and_true]
            simp only [V.own, V.k, V.n, V.s, V.ks, V.l, h0, List.length_nil]
            rw [if_neg (by decide), if_neg (by decide), if_pos (by decide)]
            rw [decide_eq_true_iff]
            refine ⟨?_, trivial, trivial, trivial⟩
            rcases c4 with rfl | rfl
            · rw [if_neg (by decide)]; omega
            · rw [if_pos (by decide)]; have : ¬ 9007199254740990 < n := fun e => hn (.inr ⟨rfl, e⟩); omega
          · simp [V.deep, V.deeps]
          · rw [List.take_succ_cons, ← e1]
            rcases c4 with rfl | rfl
            · rw [if_neg (by decide), enc3p (by rfl) (by simp only [V.n]; omega)]
              rfl
            · rw [if_pos (by decide), enc3n (by rfl) (by simp only [V.n]; omega)]
              show 5 :: O.num (-1 - (-1 - (n : Int))).toNat = _
              rw [show (-1 - (-1 - (n : Int))).toNat = n by omega]
      · rw [if_pos he]
        rcases rd_err r with e | e | e
        · exact absurd e he
        · exact .inl e
        · exact .inr (.inl e)
    rw [if_neg c4]
    by_cases c6 : c = 6
    · rw [if_pos c6]
      refine right_up ?_
      unfold decText
      by_cases hu : (utx r).2.2 = 0
      · rw [if_neg (by simp [hu])]
        obtain ⟨u1, u2, u3, u4, u5⟩ := utx_inv hu
        generalize (utx r).1 = s at *
        generalize (utx r).2.1 = m at *
        refine ⟨by simp; omega, ?_, ?_, ?_, ?_⟩
        · simp only [V.bulk, V.bulks, keysBulk]; omega
        · rw [may_eq]
          simp [V.own, V.k, V.n, V.s, V.ks, V.l, u5, V.mays]
        · simp [V.deep, V.deeps]
        · rw [enc4 (by rfl), List.take_succ_cons, ← u1, c6]
          rfl
      · rw [if_pos hu]
        rcases utx_err r with e | e | e
        · exact absurd e hu
        · exact .inl e
        · exact .inr (.inl e)
    rw [if_neg c6]
    by_cases c7 : c = 7
    · rw [if_pos c7]
      have h := decAll_right (dec_right d) (.inl rfl : (5 : Int) = 5 ∨ (5 : Int) = 6) r
      refine right_up ?_
      generalize decAll (dec d) 5 r = x at *
      cases x with
      | bad e => exact h
      | good v n =>
        obtain ⟨h1, h2, h3, h4, h5⟩ := h
        exact ⟨by simp; omega, h2, h3, h4, by rw [h5, if_neg (by decide), List.take_succ_cons, c7]⟩
    rw [if_neg c7]
    by_cases c8 : c = 8
    · rw [if_pos c8]
      have h := decAll_right (dec_right d) (.inr rfl : (6 : Int) = 5 ∨ (6 : Int) = 6) r
      refine right_up ?_
      generalize decAll (dec d) 6 r = x at *
      cases x with
      | bad e => exact h
      | good v n =>
        obtain ⟨h1, h2, h3, h4, h5⟩ := h
        exact ⟨by simp; omega, h2, h3, h4, by rw [h5, if_pos rfl, List.take_succ_cons, c8]⟩
    rw [if_neg c8]
    exact .inr (.inl rfl)

/- What was written is read as what it was. -/
theorem decMany_list {f : Bs → Dec} {b r : Bs} : ∀ (l2 l1 : List V) (m : Nat), b.drop m = (l2.map V.enc).flatten ++ r → (∀ v ∈ l2, ∀ r, f (v.enc ++ r) = .good v v.enc.length) →
    decMany f 5 b l2.length m [] l1 = .good (.mk 5 0 ⟨#[]⟩ [] (l1 ++ l2)) (m + (l2.map V.enc).flatten.length)
  | [], l1, m, _, _ => by simp [decMany]
  | v :: l2, l1, m, h, hf => by
    have e : b.drop m = v.enc ++ ((l2.map V.enc).flatten ++ r) := by rw [h]; simp [List.append_assoc]
    have e2 : b.drop (m + v.enc.length) = (l2.map V.enc).flatten ++ r := by rw [← List.drop_drop, e, List.drop_left]
    show decMany f 5 b (l2.length + 1) m [] l1 = _
    rw [decMany, if_neg (by decide), e, hf v (by simp)]
    show decMany f 5 b l2.length (m + v.enc.length) [] (l1 ++ [v]) = _
    rw [decMany_list l2 (l1 ++ [v]) _ e2 fun u hu => hf u (by simp [hu])]
    simp only [List.append_assoc, List.singleton_append, List.map_cons, List.flatten_cons, List.length_append, Nat.add_assoc]
theorem zipEnc_cons (k : ByteArray) (b : Bs) (ks : List ByteArray) (bl : List Bs) : zipEnc (k :: ks) (b :: bl) = O.text k.data.toList ++ (b ++ zipEnc ks bl) := by
  unfold zipEnc
  simp
theorem decMany_rec {f : Bs → Dec} {b r : Bs} : ∀ (ks2 : List ByteArray) (l2 : List V) (ks1 : List ByteArray) (l1 : List V) (m : Nat), ks2.length = l2.length → b.drop m = zipEnc ks2 (l2.map V.enc) ++ r → (∀ v ∈ l2, ∀ r, f (v.enc ++ r) = .good v v.enc.length) →
    (∀ k ∈ ks2, k.size ≤ 4194304 ∧ k.size % 2 = 0) → (ks1 ++ ks2).Nodup →
    decMany f 6 b l2.length m ks1 l1 = .good (.mk 6 0 ⟨#[]⟩ (ks1 ++ ks2) (l1 ++ l2)) (m + (zipEnc ks2 (l2.map V.enc)).length)
  | [], [], ks1, l1, m, _, _, _, _, _ => by simp [decMany, zipEnc]
  | [], _ :: _, _, _, _, h, _, _, _, _ => by simp at h
  | _ :: _, [], _, _, _, h, _, _, _, _ => by simp at h
  | k :: ks2, v :: l2, ks1, l1, m, hl, h, hf, hk, hn => by
    obtain ⟨hk1, hk2⟩ := hk k (by simp)
    have e : b.drop m = O.text k.data.toList ++ (v.enc ++ (zipEnc ks2 (l2.map V.enc) ++ r)) := by rw [h, List.map_cons, zipEnc_cons]; simp [List.append_assoc]
    have e1 : b.drop (m + (O.text k.data.toList).length) = v.enc ++ (zipEnc ks2 (l2.map V.enc) ++ r) := by rw [← List.drop_drop, e, List.drop_left]
    have e2 : b.drop (m + (O.text k.data.toList).length + v.enc.length) = zipEnc ks2 (l2.map V.enc) ++ r := by rw [← List.drop_drop, e1, List.drop_left]
    have hnk : ¬ hasKey ks1 k = true := fun h' => by
      have := (List.nodup_append.1 hn).2.2 k (hasKey_iff.1 h') k (by simp)
      exact this rfl
    show decMany f 6 b (l2.length + 1) m ks1 l1 = _
    have hu := utx_good hk1 hk2 (v.enc ++ (zipEnc ks2 (l2.map V.enc) ++ r))
    rw [decMany, if_pos rfl, e, hu, if_neg (by simp), if_neg hnk]
    show (match f (b.drop (m + (O.text k.data.toList).length)) with
      | .bad e => Dec.bad e
      | .good u n => decMany f 6 b l2.length (m + (O.text k.data.toList).length + n) (ks1 ++ [k]) (l1 ++ [u])) = _
    rw [e1, hf v (by simp)]
    show decMany f 6 b l2.length (m + (O.text k.data.toList).length + v.enc.length) (ks1 ++ [k]) (l1 ++ [v]) = _
    rw [decMany_rec ks2 l2 (ks1 ++ [k]) (l1 ++ [v]) _ (by simpa using hl) e2 (fun u hu => hf u (by simp [hu])) (fun x hx => hk x (by simp [hx])) (by simpa using hn)]
    rw [List.map_cons, zipEnc_cons]
    simp only [List.append_assoc, List.singleton_append, List.length_append, Nat.add_assoc]
theorem dec_enc : ∀ v : V, v.may = true → v.bulk ≤ 4194304 → ∀ d, v.deep ≤ d → ∀ r, dec d (v.enc ++ r) = .good v v.enc.length := by
  refine V.ind' fun v ih hm hb d hd r => ?_
  have hm' := hm
  rw [may_eq, Bool.and_eq_true] at hm'
  obtain ⟨ho, hms⟩ := hm'
  have hdp : 1 ≤ v.deep := by cases v; simp only [V.deep]; omega
  obtain ⟨d, rfl⟩ : ∃ e, d = e + 1 := ⟨d - 1, by omega⟩
  obtain ⟨r0, r2, r4, r5, r6⟩ := own_rest ho
  have hkid : ∀ u ∈ v.l, ∀ r, dec d (u.enc ++ r) = .good u u.enc.length := fun u hu r => by
    refine ih u hu ?_ ?_ d ?_ r
    · rw [mays_all, List.all_eq_true] at hms
      exact hms u hu
    · have := bulk_le_of_mem hu
      cases v
      simp only [V.bulk, V.l] at *
      omega
    · cases v
      simp only [V.deep, V.l] at *
      have : ∀ l : List V, u ∈ l → u.deep ≤ V.deeps l := fun l hl => by
        induction l with
        | nil => cases hl
        | cons x r ih =>
          simp only [V.deeps]
          cases hl with
          | head => omega
          | tail _ hl => have := ih hl; omega
      have := this _ hu
      omega
  have hlen : v.l.length ≤ 4194304 := by
    have := length_le_bulks v.l
    cases v
    simp only [V.bulk, V.l] at *
    omega
  have hks : keysBulk v.ks ≤ 4194304 := by
    cases v
    simp only [V.bulk, V.ks] at *
    omega
  have hss : v.s.size ≤ 4194304 := by
    cases v
    simp only [V.bulk, V.s] at *
    omega
  have hok : v.k = 0 ∨ v.k = 1 ∨ v.k = 2 ∨ v.k = 3 ∨ v.k = 4 ∨ v.k = 5 ∨ v.k = 6 := by
    unfold V.own at ho
    by_cases h0 : v.k = 0
    · exact .inl h0
    by_cases h1 : v.k = 1
    · exact .inr (.inl h1)
    by_cases h2 : v.k = 2
    · exact .inr (.inr (.inl h2))
    by_cases h3 : v.k = 3
    · exact .inr (.inr (.inr (.inl h3)))
    by_cases h4 : v.k = 4
    · exact .inr (.inr (.inr (.inr (.inl h4))))
    by_cases h5 : v.k = 5
    · exact .inr (.inr (.inr (.inr (.inr (.inl h5)))))
    by_cases h6 : v.k = 6
    · exact .inr (.inr (.inr (.inr (.inr (.inr h6)))))
    · rw [if_neg (by omega), if_neg h2, if_neg h3, if_neg h4, if_neg h5, if_neg h6] at ho
      cases ho
  rcases hok with h | h | h | h | h | h | h
  · rw [enc0 h]
    have := r0 (.inl h)
    rw [h] at this
    rw [this]
    rfl
  · rw [enc1 h]
    have := r0 (.inr h)
    rw [h] at this
    rw [this]
    rfl
  · have hv := r2 (.inl h)
    have hn : v.n = 0 ∨ v.n = 1 := by
      unfold V.own at ho
      rw [if_neg (by omega), if_pos h, decide_eq_true_iff] at ho
      exact ho.1
    rw [enc2 h]
    rw [h] at hv
    rcases hn with hn | hn <;> (rw [hn] at hv ⊢; rw [hv]; rfl)
  · have hv := r2 (.inr h)
    have hn : -9007199254740991 ≤ v.n ∧ v.n ≤ 9007199254740991 := by
      unfold V.own at ho
      rw [if_neg (by omega), if_neg (by omega), if_pos h, decide_eq_true_iff] at ho
      exact ho.1
    rw [h] at hv
    by_cases h0 : v.n < 0
    · rw [enc3n h h0, List.cons_append, dec, if_neg (by decide), if_neg (by decide), if_neg (by decide), if_pos (by decide)]
      obtain ⟨m, hm⟩ : ∃ m : Nat, v.n = -1 - (m : Int) := ⟨(-1 - v.n).toNat, by omega⟩
      rw [hm] at hv hn ⊢
      rw [show (-1 - (-1 - (m : Int))).toNat = m by omega]
      unfold decNum
      rw [O.rd_num (by omega)]
      simp only [ne_eq, not_true_eq_false, if_false]
      rw [if_neg (by omega)]
      rw [hv]
      rfl
    · rw [enc3p h h0, List.cons_append, dec, if_neg (by decide), if_neg (by decide), if_neg (by decide), if_pos (by decide)]
      obtain ⟨m, hm⟩ : ∃ m : Nat, v.n = (m : Int) := ⟨v.n.toNat, by omega⟩
      rw [hm] at hv hn ⊢
      rw [Int.toNat_natCast]
      unfold decNum
      rw [O.rd_num (by omega)]
      simp only [ne_eq, not_true_eq_false, if_false]
      rw [if_neg (by intro e; rcases e with e | ⟨e, _⟩; omega; exact absurd e (by decide)), if_neg (by decide)]
      rw [hv]
      rfl
  · have hv := r4 h
    have he : v.s.size % 2 = 0 := by
      unfold V.own at ho
      rw [if_neg (by omega), if_neg (by omega), if_neg (by omega), if_pos h, decide_eq_true_iff] at ho
      exact ho.2.1
    rw [enc4 h, List.cons_append, dec, if_neg (by decide), if_neg (by decide), if_neg (by decide), if_neg (by decide), if_pos (by decide)]
    unfold decText
    rw [utx_good hss he]
    simp only [ne_eq, not_true_eq_false, if_false]
    rw [← hv]
    rfl
  · have hv := r5 h
    rw [enc5 h, List.cons_append, dec, if_neg (by decide), if_neg (by decide), if_neg (by decide), if_neg (by decide), if_neg (by decide), if_pos (by decide), List.append_assoc]
    unfold decAll
    rw [O.rd_num (by omega)]
    simp only [ne_eq, not_true_eq_false, if_false]
    rw [decMany_list v.l [] _ (r := r) (by rw [List.drop_left]) hkid, List.nil_append, ← hv]
    show Dec.good v _ = Dec.good v _
    simp [Nat.add_assoc]
  · have hv := r6 h
    have hk : v.ks.length = v.l.length ∧ okKeys v.ks := by
      unfold V.own at ho
      rw [if_neg (by omega), if_neg (by omega), if_neg (by omega), if_neg (by omega), if_neg (by omega), if_pos h, decide_eq_true_iff] at ho
      exact ho.2.2
    obtain ⟨hkl, hk1, hk2⟩ := hk
    rw [enc6 h, List.cons_append, dec, if_neg (by decide), if_neg (by decide), if_neg (by decide), if_neg (by decide), if_neg (by decide), if_neg (by decide), if_pos (by decide), List.append_assoc]
    unfold decAll
    rw [O.rd_num (by omega)]
    simp only [ne_eq, not_true_eq_false, if_false]
    rw [hkl, decMany_rec v.ks v.l [] [] _ (r := r) hkl (by rw [List.drop_left]) hkid (fun k hk => ⟨Nat.le_trans (key_le_keysBulk hk) hks, hk1 k hk⟩) (by simpa using hk2), List.nil_append, List.nil_append, ← hv]
    show Dec.good v _ = Dec.good v _
    simp [Nat.add_assoc]
/-- neither's bytes are the beginning of the other's, unless they are the same -/
theorem enc_cut {v w : V} (hv : v.may = true) (hw : w.may = true) (bv : v.bulk ≤ 4194304) (bw : w.bulk ≤ 4194304) {p q : Bs} (h : v.enc ++ p = w.enc ++ q) : v = w := by
  have h1 := dec_enc v hv bv (max v.deep w.deep) (by omega) p
  have h2 := dec_enc w hw bw (max v.deep w.deep) (by omega) q
  rw [h, h2] at h1
  injection h1 with h1
  exact h1.symm
theorem enc_pos (v : V) : 1 ≤ v.enc.length := by
  rw [enc_eq]
  repeat' split
  all_goals simp
/- How long the bytes are. -/
theorem text_length (s : ByteArray) : (O.text s.data.toList).length ≤ 10 + s.size := by
  unfold O.text
  have := O.num_length s.data.toList.length
  have := size_list s
  rw [List.length_append]
  omega
theorem flatten_len (l : List V) (h : ∀ v ∈ l, v.enc.length ≤ 11 * v.bulk) : ((l.map V.enc).flatten).length ≤ 11 * V.bulks l := by
  induction l with
  | nil => simp
  | cons x r ih =>
    have h1 := h x (by simp)
    have h2 := ih fun v hv => h v (by simp [hv])
    simp only [List.map_cons, List.flatten_cons, List.length_append, V.bulks]
    omega
theorem zipEnc_len : ∀ (ks : List ByteArray) (l : List V), (∀ v ∈ l, v.enc.length ≤ 11 * v.bulk) → (zipEnc ks (l.map V.enc)).length ≤ 11 * keysBulk ks + 11 * V.bulks l
  | [], _, _ => by simp [zipEnc]
  | _ :: _, [], _ => by simp [zipEnc]
  | k :: ks, v :: l, h => by
    have h1 := h v (by simp)
    have h2 := zipEnc_len ks l fun v hv => h v (by simp [hv])
    have h3 := text_length k
    rw [List.map_cons, zipEnc_cons]
    simp only [List.length_append, keysBulk, V.bulks]
    omega
theorem enc_len : ∀ v : V, v.enc.length ≤ 11 * v.bulk := by
  refine V.ind' fun v ih => ?_
  have hn := fun n => (O.num_length n).2
  have ht := text_length v.s
  have h1 := flatten_len v.l ih
  have h2 := zipEnc_len v.ks v.l ih
  have hb : v.bulk = 1 + v.s.size + keysBulk v.ks + V.bulks v.l := by cases v; rfl
  rw [enc_eq, hb]
  split
  · simp; omega
  split
  · simp; omega
  split
  · simp; omega
  split
  · split
    · have := hn (-1 - v.n).toNat
      simp only [List.length_cons]; omega
    · have := hn v.n.toNat
      simp only [List.length_cons]; omega
  split
  · simp only [List.length_cons]; omega
  split
  · have := hn v.l.length
    simp only [List.length_cons, List.length_append]; omega
  · have := hn v.ks.length
    simp only [List.length_cons, List.length_append]; omega
theorem may_kids {v : V} (h : v.may = true) : ∀ u ∈ v.l, u.may = true := fun u hu => by
  rw [may_eq, Bool.and_eq_true] at h
  have h := h.2
  rw [mays_all, List.all_eq_true] at h
  exact h u hu
theorem may_own {v : V} (h : v.may = true) : v.own = true := by
  rw [may_eq, Bool.and_eq_true] at h
  exact h.1
theorem own_cases {v : V} (ho : v.own = true) : v.k = 0 ∨ v.k = 1 ∨ (v.k = 2 ∧ (v.n = 0 ∨ v.n = 1)) ∨ (v.k = 3 ∧ -9007199254740991 ≤ v.n ∧ v.n ≤ 9007199254740991) ∨ (v.k = 4 ∧ v.s.size % 2 = 0) ∨ v.k = 5 ∨ (v.k = 6 ∧ v.ks.length = v.l.length ∧ okKeys v.ks) := by
  unfold V.own at ho
  by_cases h0 : v.k = 0
  · exact .inl h0
  by_cases h1 : v.k = 1
  · exact .inr (.inl h1)
  rw [if_neg (by omega)] at ho
  by_cases h2 : v.k = 2
  · rw [if_pos h2, decide_eq_true_iff] at ho
    exact .inr (.inr (.inl ⟨h2, ho.1⟩))
  rw [if_neg h2] at ho
  by_cases h3 : v.k = 3
  · rw [if_pos h3, decide_eq_true_iff] at ho
    exact .inr (.inr (.inr (.inl ⟨h3, ho.1⟩)))
  rw [if_neg h3] at ho
  by_cases h4 : v.k = 4
  · rw [if_pos h4, decide_eq_true_iff] at ho
    exact .inr (.inr (.inr (.inr (.inl ⟨h4, ho.2.1⟩))))
  rw [if_neg h4] at ho
  by_cases h5 : v.k = 5
  · exact .inr (.inr (.inr (.inr (.inr (.inl h5)))))
  rw [if_neg h5] at ho
  by_cases h6 : v.k = 6
  · rw [if_pos h6, decide_eq_true_iff] at ho
    exact .inr (.inr (.inr (.inr (.inr (.inr ⟨h6, ho.2.2⟩)))))
  rw [if_neg h6] at ho
  cases ho
/-- the bytes while a List's elements are written -/
def LE (pre : Bs) (l : List V) (j : Nat) : Bs := pre ++ 7 :: (O.num l.length ++ ((l.take j).map V.enc).flatten)
theorem LE_step (pre : Bs) (l : List V) (j : Nat) (h : j < l.length) : LE pre l (j + 1) = LE pre l j ++ l[j].enc := by
  unfold LE
  rw [snoc_get l j h, List.map_append, List.flatten_append, List.map_singleton, List.flatten_singleton]
  simp only [List.append_assoc, List.cons_append]
theorem LE_done (pre : Bs) (v : V) (h : v.k = 5) : LE pre v.l v.l.length = pre ++ v.enc := by
  unfold LE
  rw [List.take_length, enc5 h]
theorem bulks_snoc' (l : List V) (j : Nat) (h : j < l.length) : V.bulks (l.take (j + 1)) = V.bulks (l.take j) + l[j].bulk := by
  rw [snoc_get l j h, bulks_snoc1]
theorem bulks_take' (l : List V) (j : Nat) : V.bulks (l.take j) ≤ V.bulks l := by
  conv => rhs; rw [← List.take_append_drop j l, bulks_app]
  omega
theorem LE_len (pre : Bs) (l : List V) (j : Nat) : (LE pre l j).length ≤ pre.length + 11 + 11 * V.bulks (l.take j) := by
  have h1 := flatten_len (l.take j) fun v _ => enc_len v
  have h2 := (O.num_length l.length).2
  unfold LE
  simp only [List.length_append, List.length_cons]
  omega
/-- .. a Record's -/
def RE (pre : Bs) (ks : List ByteArray) (l : List V) (j : Nat) : Bs := pre ++ 8 :: (O.num ks.length ++ zipEnc (ks.take j) ((l.take j).map V.enc))
theorem RE_step (pre : Bs) (ks : List ByteArray) (l : List V) (j : Nat) (h1 : j < ks.length) (h : j < l.length) : RE pre ks l (j + 1) = (RE pre ks l j ++ O.text ks[j].data.toList) ++ l[j].enc := by
  unfold RE
  rw [snoc_get l j h, snoc_get ks j h1, List.map_append, List.map_singleton, zipEnc_snoc _ _ _ _ (by simp; omega)]
  simp only [List.append_assoc, List.cons_append]
theorem RE_done (pre : Bs) (v : V) (h : v.k = 6) (hl : v.ks.length = v.l.length) : RE pre v.ks v.l v.l.length = pre ++ v.enc := by
  unfold RE
  rw [List.take_length, ← hl, List.take_length, enc6 h]
theorem keysBulk_snoc' (ks : List ByteArray) (j : Nat) (h : j < ks.length) : keysBulk (ks.take (j + 1)) = keysBulk (ks.take j) + (ks[j].size + 1) := by
  rw [snoc_get ks j h, keysBulk_append]
  simp [keysBulk]
theorem keysBulk_take' (ks : List ByteArray) (j : Nat) : keysBulk (ks.take j) ≤ keysBulk ks := by
  conv => rhs; rw [← List.take_append_drop j ks, keysBulk_append]
  omega
theorem RE_len (pre : Bs) (ks : List ByteArray) (l : List V) (j : Nat) : (RE pre ks l j).length ≤ pre.length + 11 + 11 * keysBulk (ks.take j) + 11 * V.bulks (l.take j) := by
  have h1 := zipEnc_len (ks.take j) (l.take j) fun v _ => enc_len v
  have h2 := (O.num_length ks.length).2
  unfold RE
  simp only [List.length_append, List.length_cons]
  omega
end Go.Proofs.Ytnkknlhdbhfjlaa
