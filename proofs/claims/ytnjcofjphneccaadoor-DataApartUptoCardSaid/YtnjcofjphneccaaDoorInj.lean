/-
  PLAIN: values that may be have the same text just if they are the same.
-/
import Derived.Test.YtnjcofjphneccaaDoorText
namespace Go.Proofs.YtnjcofjphneccaaDoor
open Go.RowKit

/-- what may stand behind a text within a text -/
def Endd (r : Bs) : Prop := ∀ c t, r = c :: t → c = 44 ∨ c = 93 ∨ c = 125
theorem endd_nil : Endd [] := fun c t h => by cases h
theorem endd_cons {c : UInt8} {t : Bs} (h : c = 44 ∨ c = 93 ∨ c = 125) : Endd (c :: t) := fun c' t' e => by
  injection e with e1 e2
  subst e1
  exact h

theorem dec_digit : ∀ (m u : Nat), u ≤ m → ∀ b ∈ Lib.decDigits u, 48 ≤ b.toNat ∧ b.toNat ≤ 57 := by
  intro m
  induction m with
  | zero =>
    intro u hu b hb
    rw [Lib.decDigits_one (by omega)] at hb
    rw [List.mem_singleton] at hb
    subst hb
    rw [UInt8.toNat_ofNat']
    omega
  | succ m ih =>
    intro u hu b hb
    by_cases h : u < 10
    · rw [Lib.decDigits_one h] at hb
      rw [List.mem_singleton] at hb
      subst hb
      rw [UInt8.toNat_ofNat']
      omega
    · rw [Lib.decDigits, dif_neg h, List.mem_append] at hb
      rcases hb with hb | hb
      · exact ih (u / 10) (by omega) b hb
      · rw [List.mem_singleton] at hb
        subst hb
        rw [UInt8.toNat_ofNat']
        omega
theorem dec_ne (u : Nat) : Lib.decDigits u ≠ [] := by
  intro h
  have h1 := Lib.decDigits_length u
  have h2 := Lib.nDigits_pos u
  rw [h, List.length_nil] at h1
  omega
theorem dec_inj : ∀ (m u v : Nat), u ≤ m → Lib.decDigits u = Lib.decDigits v → u = v := by
  intro m
  induction m with
  | zero =>
    intro u v hu h
    have hu0 : u = 0 := by omega
    subst hu0
    by_cases hv : v < 10
    · rw [Lib.decDigits_one (by omega), Lib.decDigits_one hv] at h
      injection h with h _
      have := congrArg UInt8.toNat h
      rw [UInt8.toNat_ofNat', UInt8.toNat_ofNat'] at this
      omega
    · rw [Lib.decDigits_one (by omega)] at h
      have h1 := Lib.decDigits_length v
      rw [← h, Lib.nDigits_big hv] at h1
      have := Lib.nDigits_pos (v / 10)
      simp at h1
      omega
  | succ m ih =>
    intro u v hu h
    by_cases h1 : u < 10
    · by_cases hv : v < 10
      · rw [Lib.decDigits_one h1, Lib.decDigits_one hv] at h
        injection h with h _
        have := congrArg UInt8.toNat h
        rw [UInt8.toNat_ofNat', UInt8.toNat_ofNat'] at this
        omega
      · rw [Lib.decDigits_one h1] at h
        have h1 := Lib.decDigits_length v
        rw [← h, Lib.nDigits_big hv] at h1
        have := Lib.nDigits_pos (v / 10)
        simp at h1
        omega
    · by_cases hv : v < 10
      · rw [Lib.decDigits_one hv] at h
        have h1' := Lib.decDigits_length u
        rw [h, Lib.nDigits_big h1] at h1'
        have := Lib.nDigits_pos (u / 10)
        simp at h1'
        omega
      · rw [Lib.decDigits, dif_neg h1] at h
        conv at h => rhs; rw [Lib.decDigits, dif_neg hv]
        obtain ⟨e1, e2⟩ := List.append_inj' h rfl
        have := ih (u / 10) (v / 10) (by omega) e1
        injection e2 with e2 _
        have := congrArg UInt8.toNat e2
        rw [UInt8.toNat_ofNat', UInt8.toNat_ofNat'] at this
        omega
theorem digits_cut : ∀ (p q r s : Bs), (∀ b ∈ p, 48 ≤ b.toNat ∧ b.toNat ≤ 57) → (∀ b ∈ q, 48 ≤ b.toNat ∧ b.toNat ≤ 57) → Endd r → Endd s → p ++ r = q ++ s → p = q ∧ r = s
  | [], [], r, s, _, _, _, _, h => ⟨rfl, h⟩
  | [], b :: q, r, s, _, hq, hr, _, h => by
    have h1 := hr b (q ++ s) h
    have h2 := hq b (by simp)
    rcases h1 with rfl | rfl | rfl <;> simp at h2
  | b :: p, [], r, s, hp, _, _, hs, h => by
    have h1 := hs b (p ++ r) h.symm
    have h2 := hp b (by simp)
    rcases h1 with rfl | rfl | rfl <;> simp at h2
  | b :: p, c :: q, r, s, hp, hq, hr, hs, h => by
    simp only [List.cons_append] at h
    injection h with h1 h2
    obtain ⟨h3, h4⟩ := digits_cut p q r s (fun b hb => hp b (by simp [hb])) (fun b hb => hq b (by simp [hb])) hr hs h2
    exact ⟨by rw [h1, h3], h4⟩
theorem itoa_cut (n m : Int) (r s : Bs) (hr : Endd r) (hs : Endd s) (h : Lib.itoa n ++ r = Lib.itoa m ++ s) : n = m ∧ r = s := by
  have D := fun u => dec_digit u u (Nat.le_refl u)
  have hd : ∀ u, ∃ b t, Lib.decDigits u = b :: t ∧ b ≠ 45 := fun u => by
    rcases hu : Lib.decDigits u with _ | ⟨b, t⟩
    · exact absurd hu (dec_ne u)
    · refine ⟨b, t, rfl, ?_⟩
      have := D u b (by rw [hu]; simp)
      rintro rfl
      simp at this
  unfold Lib.itoa at h
  by_cases hn : n < 0
  · by_cases hm : m < 0
    · rw [if_pos hn, if_pos hm] at h
      simp only [List.cons_append] at h
      injection h with _ h
      obtain ⟨e1, e2⟩ := digits_cut _ _ r s (D _) (D _) hr hs h
      have := dec_inj _ _ _ (Nat.le_refl _) e1
      exact ⟨by omega, e2⟩
    · rw [if_pos hn, if_neg hm] at h
      obtain ⟨b, t, hb, hb2⟩ := hd m.toNat
      rw [hb] at h
      simp only [List.cons_append] at h
      injection h with h _
      exact absurd h.symm hb2
  · by_cases hm : m < 0
    · rw [if_neg hn, if_pos hm] at h
      obtain ⟨b, t, hb, hb2⟩ := hd n.toNat
      rw [hb] at h
      simp only [List.cons_append] at h
      injection h with h _
      exact absurd h hb2
    · rw [if_neg hn, if_neg hm] at h
      obtain ⟨e1, e2⟩ := digits_cut _ _ r s (D _) (D _) hr hs h
      have := dec_inj _ _ _ (Nat.le_refl _) e1
      exact ⟨by omega, e2⟩
theorem itoa_head (n : Int) : ∃ c t, Lib.itoa n = c :: t ∧ (c.toNat = 45 ∨ (48 ≤ c.toNat ∧ c.toNat ≤ 57)) := by
  unfold Lib.itoa
  split
  · exact ⟨45, _, rfl, .inl rfl⟩
  · rcases hu : Lib.decDigits n.toNat with _ | ⟨b, t⟩
    · exact absurd hu (dec_ne _)
    · exact ⟨b, t, rfl, .inr (dec_digit _ _ (Nat.le_refl _) b (by rw [hu]; simp))⟩
theorem quote_cut {s t : ByteArray} {p q : Bs} (hs : s.size % 2 = 0) (ht : t.size % 2 = 0) (h : quote (us s.data.toList) ++ p = quote (us t.data.toList) ++ q) : s = t ∧ p = q := by
  have h1 := read_quote (us s.data.toList) p (us_lt _)
  have h2 := read_quote (us t.data.toList) q (us_lt _)
  rw [h, h2] at h1
  injection h1 with h1
  injection h1 with h1 h3
  have e : s.data.toList = t.data.toList := by
    rw [← bs_us s.data.toList (by rw [size_list]; exact hs), ← bs_us t.data.toList (by rw [size_list]; exact ht), h1]
  have e1 : s = t := ByteArray.ext (Array.toList_inj.1 e)
  subst e1
  exact ⟨rfl, List.append_cancel_left h⟩

section
variable {α : Type} {f : α → Bs} {P : α → Prop}
/-- texts one behind the other, each with a comma ahead -/
theorem tail_cut {e : UInt8} (he : e = 93 ∨ e = 125) : ∀ (ls ms : List α) (r s : Bs), (∀ x ∈ ls, P x → ∀ y, P y → ∀ p q, Endd p → Endd q → f x ++ p = f y ++ q → x = y ∧ p = q) → (∀ x ∈ ls, P x) → (∀ y ∈ ms, P y) →
    (ls.map f).flatMap (fun b => 44 :: b) ++ e :: r = (ms.map f).flatMap (fun b => 44 :: b) ++ e :: s → ls = ms ∧ r = s
  | [], [], r, s, _, _, _, h => by
    simp at h
    exact ⟨rfl, h⟩
  | [], y :: ms, r, s, _, _, _, h => by
    simp only [List.map_nil, List.flatMap_nil, List.nil_append, List.map_cons, List.flatMap_cons, List.cons_append] at h
    injection h with h _
    rcases he with rfl | rfl <;> simp at h
  | x :: ls, [], r, s, _, _, _, h => by
    simp only [List.map_nil, List.flatMap_nil, List.nil_append, List.map_cons, List.flatMap_cons, List.cons_append] at h
    injection h with h _
    rcases he with rfl | rfl <;> simp at h
  | x :: ls, y :: ms, r, s, hx, hl, hm, h => by
    simp only [List.map_cons, List.flatMap_cons, List.cons_append, List.append_assoc] at h
    injection h with _ h
    have hE : ∀ (zs : List α) (t : Bs), Endd ((zs.map f).flatMap (fun b => 44 :: b) ++ e :: t) := fun zs t => by
      cases zs with
      | nil => exact endd_cons (by rcases he with rfl | rfl <;> simp)
      | cons z zs => exact endd_cons (.inl rfl)
    obtain ⟨e1, e2⟩ := hx x (by simp) (hl x (by simp)) y (hm y (by simp)) _ _ (hE ls r) (hE ms s) h
    obtain ⟨e3, e4⟩ := tail_cut he ls ms r s (fun z hz => hx z (by simp [hz])) (fun z hz => hl z (by simp [hz])) (fun z hz => hm z (by simp [hz])) e2
    exact ⟨by rw [e1, e3], e4⟩
theorem join_cut {e : UInt8} (he : e = 93 ∨ e = 125) (ls ms : List α) (r s : Bs) (hx : ∀ x ∈ ls, P x → ∀ y, P y → ∀ p q, Endd p → Endd q → f x ++ p = f y ++ q → x = y ∧ p = q) (hl : ∀ x ∈ ls, P x) (hm : ∀ y ∈ ms, P y)
    (hh : ∀ x, P x → ∃ c t, f x = c :: t ∧ c ≠ 93 ∧ c ≠ 125) (h : joinC (ls.map f) ++ e :: r = joinC (ms.map f) ++ e :: s) : ls = ms ∧ r = s := by
  have hc : ∀ x, P x → ∀ p q : Bs, e :: p ≠ f x ++ q := fun x hx p q h => by
    obtain ⟨c, t, h1, h2, h3⟩ := hh x hx
    rw [h1, List.cons_append] at h
    injection h with h _
    rcases he with rfl | rfl
    · exact h2 h.symm
    · exact h3 h.symm
  cases ls with
  | nil =>
    cases ms with
    | nil =>
      simp [joinC] at h
      exact ⟨rfl, h⟩
    | cons y ms =>
      simp only [List.map_nil, joinC, List.nil_append, List.map_cons, List.append_assoc] at h
      exact absurd h (hc y (hm y (by simp)) _ _)
  | cons x ls =>
    cases ms with
    | nil =>
      simp only [List.map_nil, joinC, List.nil_append, List.map_cons, List.append_assoc] at h
      exact absurd h.symm (hc x (hl x (by simp)) _ _)
    | cons y ms =>
      simp only [joinC, List.map_cons, List.append_assoc] at h
      have hE : ∀ (zs : List α) (t : Bs), Endd ((zs.map f).flatMap (fun b => 44 :: b) ++ e :: t) := fun zs t => by
        cases zs with
        | nil => exact endd_cons (by rcases he with rfl | rfl <;> simp)
        | cons z zs => exact endd_cons (.inl rfl)
      obtain ⟨e1, e2⟩ := hx x (by simp) (hl x (by simp)) y (hm y (by simp)) _ _ (hE ls r) (hE ms s) h
      obtain ⟨e3, e4⟩ := tail_cut he ls ms r s (fun z hz => hx z (by simp [hz])) (fun z hz => hl z (by simp [hz])) (fun z hz => hm z (by simp [hz])) e2
      exact ⟨by rw [e1, e3], e4⟩
end

theorem tx_eq (v : V) : v.tx =
    if v.k = 0 then [117, 110, 100, 101, 102, 105, 110, 101, 100]
    else if v.k = 1 then [110, 117, 108, 108]
    else if v.k = 2 then (if v.n = 1 then [116, 114, 117, 101] else [102, 97, 108, 115, 101])
    else if v.k = 3 then Lib.itoa v.n
    else if v.k = 4 then quote (us v.s.data.toList)
    else if v.k = 5 then 91 :: (joinC (V.txs v.l) ++ [93])
    else 123 :: (joinC (List.zipWith pair v.ks (V.txs v.l)) ++ [125]) := by
  cases v
  rw [V.tx]
  rfl
/-- the kind that a text's first byte tells -/
def kindC (c : UInt8) : Int := if c = 117 then 0 else if c = 110 then 1 else if c = 116 ∨ c = 102 then 2 else if c = 34 then 4 else if c = 91 then 5 else if c = 123 then 6 else 3
theorem tx_head (v : V) (h : v.may = true) : ∃ c t, v.tx = c :: t ∧ kindC c = v.k ∧ c ≠ 93 ∧ c ≠ 125 := by
  have hk := own_kind (own_of_may h)
  rw [tx_eq]
  rcases hk with hk | hk | hk | hk | hk | hk | hk
  · rw [if_pos hk, hk]; exact ⟨117, _, rfl, by decide, by decide, by decide⟩
  · rw [if_neg (by omega), if_pos hk, hk]; exact ⟨110, _, rfl, by decide, by decide, by decide⟩
  · rw [if_neg (by omega), if_neg (by omega), if_pos hk, hk]
    split
    · exact ⟨116, _, rfl, by decide, by decide, by decide⟩
    · exact ⟨102, _, rfl, by decide, by decide, by decide⟩
  · rw [if_neg (by omega), if_neg (by omega), if_neg (by omega), if_pos hk, hk]
    obtain ⟨c, t, e, hc⟩ := itoa_head v.n
    have ne : ∀ d : UInt8, ¬ c.toNat = d.toNat → ¬ c = d := fun d hd e => hd (by rw [e])
    refine ⟨c, t, e, ?_, ne 93 (by simp; omega), ne 125 (by simp; omega)⟩
    unfold kindC
    rw [if_neg (ne 117 (by simp; omega)), if_neg (ne 110 (by simp; omega)), if_neg (by rintro (h | h); exact ne 116 (by simp; omega) h; exact ne 102 (by simp; omega) h), if_neg (ne 34 (by simp; omega)), if_neg (ne 91 (by simp; omega)), if_neg (ne 123 (by simp; omega))]
  · rw [if_neg (by omega), if_neg (by omega), if_neg (by omega), if_neg (by omega), if_pos hk, hk]; exact ⟨34, _, rfl, by decide, by decide, by decide⟩
  · rw [if_neg (by omega), if_neg (by omega), if_neg (by omega), if_neg (by omega), if_neg (by omega), if_pos hk, hk]; exact ⟨91, _, rfl, by decide, by decide, by decide⟩
  · rw [if_neg (by omega), if_neg (by omega), if_neg (by omega), if_neg (by omega), if_neg (by omega), if_neg (by omega), hk]; exact ⟨123, _, rfl, by decide, by decide, by decide⟩
theorem bytes_nil {s : ByteArray} (h : s.size = 0) : s = ⟨#[]⟩ := by
  refine ByteArray.ext ?_
  exact Array.eq_empty_of_size_eq_zero h
/-- what must be empty in a value that may be -/
theorem own_rest {v : V} (h : v.own = true) : (v.k = 0 ∨ v.k = 1 → v = .mk v.k 0 ⟨#[]⟩ [] []) ∧ (v.k = 2 ∨ v.k = 3 → v = .mk v.k v.n ⟨#[]⟩ [] []) ∧ (v.k = 4 → v = .mk 4 0 v.s [] []) ∧ (v.k = 5 → v = .mk 5 0 ⟨#[]⟩ [] v.l) ∧ (v.k = 6 → v = .mk 6 0 ⟨#[]⟩ v.ks v.l) := by
  have e : v = .mk v.k v.n v.s v.ks v.l := by cases v; rfl
  unfold V.own at h
  refine ⟨fun hk => ?_, fun hk => ?_, fun hk => ?_, fun hk => ?_, fun hk => ?_⟩
  · rw [if_pos hk] at h
    obtain ⟨h1, h2, h3, h4⟩ := of_decide_eq_true h
    exact e.trans (by rw [h1, bytes_nil h2, List.eq_nil_of_length_eq_zero h3, List.eq_nil_of_length_eq_zero h4])
  · rcases hk with hk | hk
    · rw [if_neg (by omega), if_pos hk] at h
      obtain ⟨_, h2, h3, h4⟩ := of_decide_eq_true h
      exact e.trans (by rw [bytes_nil h2, List.eq_nil_of_length_eq_zero h3, List.eq_nil_of_length_eq_zero h4])
    · rw [if_neg (by omega), if_neg (by omega), if_pos hk] at h
      obtain ⟨_, h2, h3, h4⟩ := of_decide_eq_true h
      exact e.trans (by rw [bytes_nil h2, List.eq_nil_of_length_eq_zero h3, List.eq_nil_of_length_eq_zero h4])
  · rw [if_neg (by omega), if_neg (by omega), if_neg (by omega), if_pos hk] at h
    obtain ⟨h1, _, h3, h4⟩ := of_decide_eq_true h
    exact e.trans (by rw [hk, h1, List.eq_nil_of_length_eq_zero h3, List.eq_nil_of_length_eq_zero h4])
  · rw [if_neg (by omega), if_neg (by omega), if_neg (by omega), if_neg (by omega), if_pos hk] at h
    obtain ⟨h1, h2, h3⟩ := of_decide_eq_true h
    exact e.trans (by rw [hk, h1, bytes_nil h2, List.eq_nil_of_length_eq_zero h3])
  · rw [if_neg (by omega), if_neg (by omega), if_neg (by omega), if_neg (by omega), if_neg (by omega), if_pos hk] at h
    obtain ⟨h1, h2, _⟩ := of_decide_eq_true h
    exact e.trans (by rw [hk, h1, bytes_nil h2])
theorem zip_pair : ∀ (ks : List ByteArray) (l : List V), List.zipWith pair ks (V.txs l) = (ks.zip l).map fun q => pair q.1 q.2.tx
  | [], _ => by simp
  | k :: ks, [] => by simp [V.txs]
  | k :: ks, v :: l => by
    simp only [V.txs, List.zipWith_cons_cons, List.zip_cons_cons, List.map_cons, zip_pair ks l]
theorem zip_inj {α β : Type} : ∀ {a c : List α} {b d : List β}, a.length = b.length → c.length = d.length → a.zip b = c.zip d → a = c ∧ b = d
  | [], [], [], [], _, _, _ => ⟨rfl, rfl⟩
  | [], c :: cs, [], d :: ds, _, _, h => by simp at h
  | a :: aa, [], b :: bs, [], _, _, h => by simp at h
  | a :: aa, c :: cs, b :: bs, d :: ds, h1, h2, h => by
    simp only [List.zip_cons_cons, List.cons.injEq, Prod.mk.injEq] at h
    obtain ⟨e1, e2⟩ := zip_inj (by simpa using h1) (by simpa using h2) h.2
    rw [h.1.1, h.1.2, e1, e2]
    exact ⟨rfl, rfl⟩
  | [], [], b :: bs, _, h, _, _ => by simp at h
  | [], c :: cs, b :: bs, _, h, _, _ => by simp at h
  | a :: aa, _, [], _, h, _, _ => by simp at h
  | [], c :: cs, [], [], _, h, _ => by simp at h
  | a :: aa, c :: cs, b :: bs, [], _, h, _ => by simp at h
  | [], [], [], d :: ds, _, h, _ => by simp at h
  | a :: aa, [], b :: bs, d :: ds, _, h, _ => by simp at h
theorem V.ind' {P : V → Prop} (h : ∀ v : V, (∀ u ∈ v.l, P u) → P v) : ∀ v, P v := V.ind fun _ _ _ _ _ ih => h _ ih
theorem tx0 {v : V} (h : v.k = 0) : v.tx = [117, 110, 100, 101, 102, 105, 110, 101, 100] := by rw [tx_eq, if_pos h]
theorem tx1 {v : V} (h : v.k = 1) : v.tx = [110, 117, 108, 108] := by rw [tx_eq, if_neg (by omega), if_pos h]
theorem tx2 {v : V} (h : v.k = 2) : v.tx = if v.n = 1 then [116, 114, 117, 101] else [102, 97, 108, 115, 101] := by rw [tx_eq, if_neg (by omega), if_neg (by omega), if_pos h]
theorem tx3 {v : V} (h : v.k = 3) : v.tx = Lib.itoa v.n := by rw [tx_eq, if_neg (by omega), if_neg (by omega), if_neg (by omega), if_pos h]
theorem tx4 {v : V} (h : v.k = 4) : v.tx = quote (us v.s.data.toList) := by rw [tx_eq, if_neg (by omega), if_neg (by omega), if_neg (by omega), if_neg (by omega), if_pos h]
theorem tx5 {v : V} (h : v.k = 5) : v.tx = 91 :: (joinC (v.l.map V.tx) ++ [93]) := by rw [tx_eq, if_neg (by omega), if_neg (by omega), if_neg (by omega), if_neg (by omega), if_neg (by omega), if_pos h, txs_map]
theorem tx6 {v : V} (h : v.k = 6) : v.tx = 123 :: (joinC ((v.ks.zip v.l).map fun q => pair q.1 q.2.tx) ++ [125]) := by rw [tx_eq, if_neg (by omega), if_neg (by omega), if_neg (by omega), if_neg (by omega), if_neg (by omega), if_neg (by omega), zip_pair]
theorem tx_cut : ∀ (a : V), a.may = true → ∀ b : V, b.may = true → ∀ p q, Endd p → Endd q → a.tx ++ p = b.tx ++ q → a = b ∧ p = q := by
  refine V.ind' fun a ih => ?_
  intro ha b hb p q hp hq h
  have hoa := own_of_may ha
  have hob := own_of_may hb
  obtain ⟨ra1, ra2, ra3, ra4, ra5⟩ := own_rest hoa
  obtain ⟨rb1, rb2, rb3, rb4, rb5⟩ := own_rest hob
  have hkk : a.k = b.k := by
    obtain ⟨c, t, h1, h2, _⟩ := tx_head _ ha
    obtain ⟨d, u, h3, h4, _⟩ := tx_head _ hb
    rw [h1, h3, List.cons_append, List.cons_append] at h
    injection h with h _
    rw [← h4, ← h, h2]
  have hk := own_kind hoa
  have kids : ∀ x ∈ a.l, x.may = true := fun x hx => may_kid ha hx
  have kids' : ∀ x ∈ b.l, x.may = true := fun x hx => may_kid hb hx
  rcases hk with hk | hk | hk | hk | hk | hk | hk
  · rw [tx0 hk, tx0 (v := b) (by omega)] at h
    exact ⟨(ra1 (.inl hk)).trans ((rb1 (.inl (by omega))).trans (by rw [hkk])).symm, List.append_cancel_left h⟩
  · rw [tx1 hk, tx1 (v := b) (by omega)] at h
    exact ⟨(ra1 (.inr hk)).trans ((rb1 (.inr (by omega))).trans (by rw [hkk])).symm, List.append_cancel_left h⟩
  · rw [tx2 hk, tx2 (v := b) (by omega)] at h
    have n1 := own_bool hoa hk
    have n2 := own_bool hob (by omega)
    have : a.n = b.n ∧ p = q := by
      rcases n1 with n1 | n1 <;> rcases n2 with n2 | n2
      · rw [if_neg (by omega), if_neg (by omega)] at h
        exact ⟨by omega, List.append_cancel_left h⟩
      · rw [if_neg (by omega), if_pos n2] at h
        simp at h
      · rw [if_pos n1, if_neg (by omega)] at h
        simp at h
      · rw [if_pos n1, if_pos n2] at h
        exact ⟨by omega, List.append_cancel_left h⟩
    exact ⟨(ra2 (.inl hk)).trans ((rb2 (.inl (by omega))).trans (by rw [hkk, this.1])).symm, this.2⟩
  · rw [tx3 hk, tx3 (v := b) (by omega)] at h
    obtain ⟨e1, e2⟩ := itoa_cut _ _ _ _ hp hq h
    exact ⟨(ra2 (.inr hk)).trans ((rb2 (.inr (by omega))).trans (by rw [hkk, e1])).symm, e2⟩
  · rw [tx4 hk, tx4 (v := b) (by omega)] at h
    obtain ⟨e1, e2⟩ := quote_cut (own_text hoa hk) (own_text hob (by omega)) h
    exact ⟨(ra3 hk).trans ((rb3 (by omega)).trans (by rw [e1])).symm, e2⟩
  · rw [tx5 hk, tx5 (v := b) (by omega)] at h
    simp only [List.cons_append, List.append_assoc, List.nil_append] at h
    injection h with _ h
    obtain ⟨e1, e2⟩ := join_cut (P := fun v => v.may = true) (.inl rfl) a.l b.l p q (fun x hx h1 y h2 => ih x hx h1 y h2) kids kids' (fun x hx => by obtain ⟨c, t, h1, _, h2, h3⟩ := tx_head x hx; exact ⟨c, t, h1, h2, h3⟩) h
    exact ⟨(ra4 hk).trans ((rb4 (by omega)).trans (by rw [e1])).symm, e2⟩
  · rw [tx6 hk, tx6 (v := b) (by omega)] at h
    simp only [List.cons_append, List.append_assoc, List.nil_append] at h
    injection h with _ h
    obtain ⟨la, oka⟩ := own_keys hoa hk
    obtain ⟨lb, okb⟩ := own_keys hob (by omega)
    obtain ⟨e1, e2⟩ := join_cut (P := fun q : ByteArray × V => q.1.size % 2 = 0 ∧ q.2.may = true) (f := fun q => pair q.1 q.2.tx) (.inr rfl) (a.ks.zip a.l) (b.ks.zip b.l) p q
      (fun x hx h1 y h2 p q hp hq h => by
        unfold pair at h
        rw [List.append_assoc, List.append_assoc] at h
        obtain ⟨g1, g2⟩ := quote_cut h1.1 h2.1 h
        simp only [List.cons_append] at g2
        injection g2 with _ g2
        obtain ⟨g3, g4⟩ := ih x.2 (List.of_mem_zip hx).2 h1.2 y.2 h2.2 p q hp hq g2
        exact ⟨Prod.ext g1 g3, g4⟩)
      (fun x hx => ⟨oka.1 _ (List.of_mem_zip hx).1, kids _ (List.of_mem_zip hx).2⟩) (fun x hx => ⟨okb.1 _ (List.of_mem_zip hx).1, kids' _ (List.of_mem_zip hx).2⟩)
      (fun x _ => ⟨34, _, rfl, by decide, by decide⟩) h
    obtain ⟨e3, e4⟩ := zip_inj la lb e1
    exact ⟨(ra5 hk).trans ((rb5 (by omega)).trans (by rw [e3, e4])).symm, e2⟩
theorem out_iff {a b : V} (ha : a.chk = 0) (hb : b.chk = 0) : a.out = b.out ↔ a = b := by
  constructor
  · intro h
    unfold V.out at h
    rw [if_pos ha, if_pos hb] at h
    exact (tx_cut a (chk_may ha) b (chk_may hb) [] [] endd_nil endd_nil (by rw [h])).1
  · rintro rfl
    rfl
end Go.Proofs.YtnjcofjphneccaaDoor
