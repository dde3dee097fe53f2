/-
  PLAIN MATHEMATICS: frames, and a frame that is changed within 32 bits.
-/
import Derived.Test.YtjjjbjepgieahaaCrc
namespace Go.Proofs.Ytjjjbjepgieahaa

def four (n : Nat) : Bs := [UInt8.ofNat (n / 16777216), UInt8.ofNat (n / 65536), UInt8.ofNat (n / 256), UInt8.ofNat n]
def word : Bs → Nat
  | a :: b :: c :: d :: _ => a.toNat * 16777216 + b.toNat * 65536 + c.toNat * 256 + d.toNat
  | _ => 0
theorem four_length (n : Nat) : (four n).length = 4 := rfl
theorem word_four {n : Nat} (h : n < 4294967296) (r : Bs) : word (four n ++ r) = n := by
  show (UInt8.ofNat (n / 16777216)).toNat * 16777216 + (UInt8.ofNat (n / 65536)).toNat * 65536 + (UInt8.ofNat (n / 256)).toNat * 256 + (UInt8.ofNat n).toNat = n
  simp only [UInt8.toNat_ofNat']
  omega
theorem word_lt : ∀ l : Bs, word l < 4294967296
  | a :: b :: c :: d :: _ => by
    have := a.toNat_lt
    have := b.toNat_lt
    have := c.toNat_lt
    have := d.toNat_lt
    show a.toNat * 16777216 + b.toNat * 65536 + c.toNat * 256 + d.toNat < _
    omega
  | [] => by decide
  | [_] => by show 0 < _; decide
  | [_, _] => by show 0 < _; decide
  | [_, _, _] => by show 0 < _; decide
theorem word_inj {a b : Bs} (ha : a.length = 4) (hb : b.length = 4) (h : word a = word b) : a = b := by
  match a, ha, b, hb with
  | [a0, a1, a2, a3], _, [b0, b1, b2, b3], _ =>
    have e : a0.toNat * 16777216 + a1.toNat * 65536 + a2.toNat * 256 + a3.toNat = b0.toNat * 16777216 + b1.toNat * 65536 + b2.toNat * 256 + b3.toNat := h
    have := a0.toNat_lt
    have := a1.toNat_lt
    have := a2.toNat_lt
    have := a3.toNat_lt
    have := b0.toNat_lt
    have := b1.toNat_lt
    have := b2.toNat_lt
    have := b3.toNat_lt
    have h0 : a0 = b0 := UInt8.toNat_inj.1 (by omega)
    have h1 : a1 = b1 := UInt8.toNat_inj.1 (by omega)
    have h2 : a2 = b2 := UInt8.toNat_inj.1 (by omega)
    have h3 : a3 = b3 := UInt8.toNat_inj.1 (by omega)
    rw [h0, h1, h2, h3]
theorem word_append {a : Bs} (ha : a.length = 4) (r : Bs) : word (a ++ r) = word a := by
  match a, ha with
  | [_, _, _, _], _ => rfl

/-- the length's four bytes, and the sum of a frame -/
def lenW (l : Bs) : Bs := four (l.length % 4294967296)
def frame (l : Bs) : Bs := lenW l ++ (four (sum (lenW l ++ l)) ++ l)
theorem lenW_length (l : Bs) : (lenW l).length = 4 := rfl
theorem frame_length (l : Bs) : (frame l).length = 8 + l.length := by
  simp only [frame, List.length_append, lenW_length, four_length]
  omega
/-- what stands at the head of bytes as a frame: the bytes, how many in all, the error -/
def unfr (l : Bs) (most : Int) : Bs × Nat × Nat :=
  if l.length < 8 then ([], 0, 20)
  else if (first (l.drop 8) (word l) most).2 ≠ 0 then ([], 0, (first (l.drop 8) (word l) most).2)
  else if word (l.drop 4) ≠ sum (l.take 4 ++ (l.drop 8).take (word l)) then ([], 0, 21)
  else ((l.drop 8).take (word l), 8 + word l, 0)
theorem first_ok {l : Bs} {n : Nat} {most : Int} (h : (first l n most).2 = 0) : 0 ≤ most ∧ n ≤ most ∧ n ≤ l.length ∧ (first l n most).1 = l.take n := by
  unfold first at h ⊢
  by_cases h1 : most < 0 ∨ most < n
  · rw [if_pos h1] at h; simp at h
  · rw [if_neg h1] at h ⊢
    by_cases h2 : l.length < n
    · rw [if_pos h2] at h; simp at h
    · rw [if_neg h2]
      exact ⟨by omega, by omega, by omega, rfl⟩
theorem unfr_parts (h1 h2 b : Bs) (e1 : h1.length = 4) (e2 : h2.length = 4) (most : Int) : unfr (h1 ++ (h2 ++ b)) most =
    if (first b (word h1) most).2 ≠ 0 then ([], 0, (first b (word h1) most).2)
    else if word h2 ≠ sum (h1 ++ b.take (word h1)) then ([], 0, 21) else (b.take (word h1), 8 + word h1, 0) := by
  have d8 : (h1 ++ (h2 ++ b)).drop 8 = b := by
    rw [List.drop_append, List.drop_of_length_le (by omega), List.nil_append, List.drop_append, List.drop_of_length_le (by omega), e1, e2]
    rfl
  have d4 : (h1 ++ (h2 ++ b)).drop 4 = h2 ++ b := by
    rw [List.drop_append, List.drop_of_length_le (by omega), e1]
    rfl
  have t4 : (h1 ++ (h2 ++ b)).take 4 = h1 := by
    rw [List.take_append, List.take_of_length_le (by omega), e1]
    simp
  unfold unfr
  rw [d8, d4, t4, word_append e1, word_append e2, if_neg (by simp only [List.length_append]; omega)]
theorem unfr_frame {l : Bs} (h : l.length < 4294967296) (r : Bs) : unfr (frame l ++ r) l.length = (l, (frame l).length, 0) := by
  have e : frame l ++ r = lenW l ++ (four (sum (lenW l ++ l)) ++ (l ++ r)) := by simp [frame]
  have ew : word (lenW l) = l.length := by
    have := word_four (n := l.length % 4294967296) (by omega) []
    rw [List.append_nil] at this
    rw [lenW, this]
    omega
  have es : word (four (sum (lenW l ++ l))) = sum (lenW l ++ l) := by
    have := word_four (sum_lt (lenW l ++ l)) []
    rw [List.append_nil] at this
    exact this
  have ef : first (l ++ r) l.length l.length = ((l ++ r).take l.length, 0) := by
    unfold first
    rw [if_neg (by omega), if_neg (by simp)]
  rw [e, unfr_parts _ _ _ (lenW_length l) (four_length _), ew, ef, List.take_left, es, frame_length]
  simp
theorem unfr_cut {l : Bs} {k : Nat} (h : l.length < 4294967296) (hk : k < (frame l).length) : unfr ((frame l).take k) l.length = ([], 0, 20) := by
  rw [frame_length] at hk
  by_cases h8 : k < 8
  · unfold unfr
    rw [if_pos (by rw [List.length_take]; omega)]
  · have e : (frame l).take k = lenW l ++ (four (sum (lenW l ++ l)) ++ l.take (k - 8)) := by
      unfold frame
      rw [List.take_append, List.take_of_length_le (by rw [lenW_length]; omega), List.take_append, List.take_of_length_le (by rw [lenW_length, four_length]; omega), lenW_length, four_length, Nat.sub_sub]
    have ew : word (lenW l) = l.length := by
      have := word_four (n := l.length % 4294967296) (by omega) []
      rw [List.append_nil] at this
      rw [lenW, this]
      omega
    have ef : first (l.take (k - 8)) l.length l.length = ([], 20) := by
      unfold first
      rw [if_neg (by omega), if_pos (by rw [List.length_take]; omega)]
    rw [e, unfr_parts _ _ _ (lenW_length l) (four_length _), ew, ef]
    simp

theorem flip_append : ∀ (a b : Bs) (t : Nat), flip (a ++ b) t = flip a t ++ flip b (t / 256 ^ a.length)
  | [], b, t => by simp [flip]
  | c :: r, b, t => by
    rw [List.cons_append, flip, flip_append r b (t / 256), flip, List.cons_append, List.length_cons, Nat.pow_succ, Nat.mul_comm (256 ^ r.length) 256, Nat.div_div_eq_div_mul]
theorem flip_keeps {c : UInt8} {t : Nat} (h : t % 256 = 0) : UInt8.ofNat (c.toNat ^^^ t % 256) = c := by
  apply UInt8.toNat_inj.1
  rw [flip_toNat, h, Nat.xor_zero]
theorem flip_high : ∀ (l : Bs) (t : Nat), t % 256 ^ l.length = 0 → flip l t = l
  | [], _, _ => rfl
  | c :: r, t, h => by
    rw [List.length_cons, Nat.pow_succ, Nat.mul_comm] at h
    have h1 := Nat.mod_mul (x := t) (a := 256) (b := 256 ^ r.length)
    rw [h] at h1
    have h2 : t % 256 = 0 := by omega
    have h3 : t / 256 % 256 ^ r.length = 0 := by omega
    rw [flip, flip_keeps h2, flip_high r _ h3]
theorem flip_same : ∀ (l : Bs) (t : Nat), flip l t = l → t % 256 ^ l.length = 0
  | [], t, _ => by simp [Nat.mod_one]
  | c :: r, t, h => by
    rw [flip, List.cons.injEq] at h
    have h1 : t % 256 = 0 := by
      have e : (UInt8.ofNat (c.toNat ^^^ t % 256)).toNat = c.toNat := by rw [h.1]
      rw [flip_toNat] at e
      have e2 := xor_twice c.toNat (t % 256)
      rw [e, Nat.xor_self] at e2
      exact e2.symm
    have h3 := flip_same r _ h.2
    rw [List.length_cons, Nat.pow_succ, Nat.mul_comm, Nat.mod_mul, h1, h3]

theorem word_lenW {l : Bs} (hl : l.length < 4294967296) : word (lenW l) = l.length := by
  have := word_four (n := l.length % 4294967296) (by omega) []
  rw [List.append_nil] at this
  rw [lenW, this]
  omega
theorem word_sum (l : Bs) : word (four (sum l)) = sum l := by
  have := word_four (sum_lt l) []
  rw [List.append_nil] at this
  exact this
theorem first_whole {b : Bs} {n : Nat} (h : b.length = n) : first b n n = (b, 0) := by
  unfold first
  rw [if_neg (by omega), if_neg (by omega), List.take_of_length_le (by omega)]
/-- what must not be told: a frame of n bytes within -/
def Other (r : Bs × Nat × Nat) (n : Nat) : Prop := r.2.2 ≠ 0 ∨ (r.1.length ≠ n ∧ r.2.1 ≠ 8 + n)
theorem flip_frame (l : Bs) (T : Nat) : flip (frame l) T = flip (lenW l) T ++ (flip (four (sum (lenW l ++ l))) (T / 256 ^ 4) ++ flip l (T / 256 ^ 4 / 256 ^ 4)) := by
  unfold frame
  rw [flip_append, flip_append, lenW_length, four_length]
theorem len_flip4 (l : Bs) (T : Nat) : (flip (lenW l) T).length = 4 := by rw [flip_length]; rfl
theorem len_flipS (n T : Nat) : (flip (four n) T).length = 4 := by rw [flip_length]; rfl
/-- what is read of a frame whose first eight bytes alone are changed -/
def headRd (l : Bs) (T n : Nat) : Bs × Nat × Nat :=
  if (first l n l.length).2 ≠ 0 then ([], 0, (first l n l.length).2)
  else if word (flip (four (sum (lenW l ++ l))) (T / 256 ^ 4)) ≠ sum (flip (lenW l) T ++ l.take n) then ([], 0, 21) else (l.take n, 8 + n, 0)
theorem head_rd (l : Bs) (T : Nat) (hz : T / 256 ^ 4 / 256 ^ 4 = 0) : unfr (flip (frame l) T) l.length = headRd l T (word (flip (lenW l) T)) := by
  rw [flip_frame, hz, flip_zero, unfr_parts _ _ _ (len_flip4 _ _) (len_flipS _ _)]
  rfl
theorem head_other (l : Bs) (T n : Nat) (hw : n ≠ l.length) : Other (headRd l T n) l.length := by
  unfold headRd
  by_cases hf : (first l n l.length).2 ≠ 0
  · rw [if_pos hf]
    exact .inl hf
  · rw [if_neg hf]
    by_cases hc : word (flip (four (sum (lenW l ++ l))) (T / 256 ^ 4)) ≠ sum (flip (lenW l) T ++ l.take n)
    · rw [if_pos hc]
      exact .inl (by decide)
    · rw [if_neg hc]
      have := first_ok (Decidable.not_not.1 hf)
      have e : (l.take n).length ≠ l.length := by rw [List.length_take]; omega
      exact .inr ⟨e, fun h => hw (Nat.add_left_cancel h)⟩
theorem head_same {l : Bs} {T : Nat} (hl : l.length < 4294967296) (hw : word (flip (lenW l) T) = l.length) : flip (lenW l) T = lenW l := word_inj (len_flip4 _ _) rfl (by rw [hw, word_lenW hl])
theorem both_zero {T : Nat} (hz : T / 256 ^ 4 / 256 ^ 4 = 0) (h1 : T % 256 ^ 4 = 0) (e2 : T / 256 ^ 4 % 256 ^ 4 = 0) : T = 0 := by
  have h2 := Nat.div_add_mod T (256 ^ 4)
  have h3 := Nat.div_add_mod (T / 256 ^ 4) (256 ^ 4)
  rw [hz, e2] at h3
  rw [h1, ← h3] at h2
  simp at h2
  exact h2.symm
theorem head_sum {l : Bs} {T : Nat} (h0 : T ≠ 0) (hz : T / 256 ^ 4 / 256 ^ 4 = 0) (h1 : T % 256 ^ 4 = 0) : word (flip (four (sum (lenW l ++ l))) (T / 256 ^ 4)) ≠ sum (lenW l ++ l) := by
  intro he
  have e2 := flip_same _ _ (word_inj (a := flip (four (sum (lenW l ++ l))) (T / 256 ^ 4)) (len_flipS _ _) rfl (by rw [he, word_sum]))
  rw [four_length] at e2
  exact h0 (both_zero hz h1 e2)
theorem head_eq {l : Bs} {T : Nat} (e1 : flip (lenW l) T = lenW l) (hne : word (flip (four (sum (lenW l ++ l))) (T / 256 ^ 4)) ≠ sum (lenW l ++ l)) : Other (headRd l T l.length) l.length := by
  unfold headRd
  rw [e1, first_whole rfl]
  rw [if_neg (fun h => h rfl), List.take_of_length_le (Nat.le_refl _), if_pos hne]
  exact .inl (by decide)
theorem burst_head (l : Bs) (T : Nat) (hl : l.length < 4294967296) (h0 : T ≠ 0) (hz : T / 256 ^ 4 / 256 ^ 4 = 0) : Other (unfr (flip (frame l) T) l.length) l.length := by
  rw [head_rd l T hz]
  by_cases hw : word (flip (lenW l) T) = l.length
  · have e1 := head_same hl hw
    have h1 := flip_same _ _ e1
    rw [lenW_length] at h1
    rw [hw]
    exact head_eq e1 (head_sum h0 hz h1)
  · exact head_other l T _ hw
theorem burst_rest (l : Bs) (T p E : Nat) (hl : l.length < 4294967296) (hT : T = 256 ^ 4 * (256 ^ 4 * (2 ^ p * E))) (hE : E < 4294967296) (h0 : E ≠ 0) (hp : p ≤ 8 * l.length) (ht : 2 ^ p * E < 256 ^ l.length) :
    Other (unfr (flip (frame l) T) l.length) l.length := by
  have d1 : T / 256 ^ 4 = 256 ^ 4 * (2 ^ p * E) := by rw [hT, Nat.mul_div_cancel_left _ (by decide)]
  have d2 : T / 256 ^ 4 / 256 ^ 4 = 2 ^ p * E := by rw [d1, Nat.mul_div_cancel_left _ (by decide)]
  have h1 : flip (lenW l) T = lenW l := flip_high _ _ (by rw [lenW_length, hT, Nat.mul_mod_right])
  have h2 : flip (four (sum (lenW l ++ l))) (T / 256 ^ 4) = four (sum (lenW l ++ l)) := flip_high _ _ (by rw [four_length, d1, Nat.mul_mod_right])
  have hc : sum (lenW l ++ l) ≠ sum (lenW l ++ flip l (2 ^ p * E)) := by
    refine (sum_ne ?_).symm
    rw [crcL_append, crcL_append]
    exact crc_burst _ l E p hE h0 hp ht
  rw [flip_frame, d2, h1, h2, unfr_parts _ _ _ (lenW_length l) (four_length _), word_lenW hl, first_whole (flip_length _ _), if_neg (by simp), List.take_of_length_le (by rw [flip_length]; exact Nat.le_refl _), word_sum, if_pos hc]
  exact .inl (by decide)
/-- the number of a burst: within the first eight bytes, or behind -/
theorem burst_number (bits k n : Nat) (hb : bits < 2 ^ 32) (h0 : bits ≠ 0) (hk : k + 32 ≤ 64 + n) (hm : 2 ^ k * bits % 2 ^ 64 = 0) :
    ∃ p E, 2 ^ k * bits = 2 ^ 64 * (2 ^ p * E) ∧ E < 2 ^ 32 ∧ E ≠ 0 ∧ p ≤ n ∧ 2 ^ p * E < 2 ^ n := by
  have hpos : 0 < 2 ^ k * bits := Nat.mul_pos (Nat.two_pow_pos _) (Nat.pos_of_ne_zero h0)
  by_cases h64 : 64 ≤ k
  · obtain ⟨p, rfl⟩ : ∃ p, k = 64 + p := ⟨k - 64, by omega⟩
    refine ⟨p, bits, by rw [Nat.pow_add, Nat.mul_assoc], hb, h0, by omega, ?_⟩
    have h1 : 2 ^ p * bits < 2 ^ p * 2 ^ 32 := Nat.mul_lt_mul_of_pos_left hb (Nat.two_pow_pos _)
    rw [← Nat.pow_add] at h1
    exact Nat.lt_of_lt_of_le h1 (Nat.pow_le_pow_right (by decide) (by omega))
  · obtain ⟨U, hU⟩ := Nat.dvd_of_mod_eq_zero hm
    have hU0 : U ≠ 0 := by
      rintro rfl
      rw [Nat.mul_zero] at hU
      exact Nat.pos_iff_ne_zero.1 hpos hU
    have hle : U ≤ bits := by
      have h2 : 2 ^ k * bits ≤ 2 ^ 64 * bits := Nat.mul_le_mul_right _ (Nat.pow_le_pow_right (by decide) (by omega))
      rw [hU] at h2
      exact Nat.le_of_mul_le_mul_left h2 (Nat.two_pow_pos _)
    refine ⟨0, U, by rw [hU, Nat.pow_zero, Nat.one_mul], Nat.lt_of_le_of_lt hle hb, hU0, Nat.zero_le _, ?_⟩
    rw [Nat.pow_zero, Nat.one_mul]
    have h1 : 2 ^ k * bits < 2 ^ k * 2 ^ 32 := Nat.mul_lt_mul_of_pos_left hb (Nat.two_pow_pos _)
    rw [← Nat.pow_add, hU] at h1
    have h2 : 2 ^ (k + 32) ≤ 2 ^ (64 + n) := Nat.pow_le_pow_right (by decide) hk
    rw [Nat.pow_add 2 64 n] at h2
    exact Nat.lt_of_mul_lt_mul_left (Nat.lt_of_lt_of_le h1 h2)
/-- a frame changed within 32 bits, all in its first eight bytes or all behind, is not read as one of as many bytes -/
theorem burst (l : Bs) (bits k : Nat) (hl : l.length < 4294967296) (hb : bits < 2 ^ 32) (h0 : bits ≠ 0) (hk : k + 32 ≤ 8 * (8 + l.length))
    (hside : 2 ^ k * bits < 2 ^ 64 ∨ 2 ^ k * bits % 2 ^ 64 = 0) : Other (unfr (flip (frame l) (2 ^ k * bits)) l.length) l.length := by
  have e4 : (256 : Nat) ^ 4 = 2 ^ 32 := by decide
  rcases hside with hs | hs
  · refine burst_head l _ hl (Nat.mul_ne_zero (Nat.pos_iff_ne_zero.1 (Nat.two_pow_pos _)) h0) ?_
    rw [Nat.div_div_eq_div_mul, e4, ← Nat.pow_add]
    exact Nat.div_eq_of_lt hs
  · obtain ⟨p, E, h1, h2, h3, h4, h5⟩ := burst_number bits k (8 * l.length) hb h0 (by omega) hs
    refine burst_rest l _ p E hl ?_ (by rw [← lim32]; exact h2) h3 h4 (by rw [show 256 = 2 ^ 8 from rfl, ← Nat.pow_mul]; exact h5)
    have e64 : (2 : Nat) ^ 64 = 2 ^ 32 * 2 ^ 32 := by rw [← Nat.pow_add]
    rw [h1, e4, e64, Nat.mul_assoc]
end Go.Proofs.Ytjjjbjepgieahaa
