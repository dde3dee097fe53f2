/-
  PLAIN: keys of parts, their bytes, their order; what key stands in bytes.
-/
import Derived.Lib.Strings
namespace Go.Proofs.YtkanpdhlpobfoaaDoor.K

/-! an order told as -1, 0, 1 -/
structure Tot {α : Type} (c : α → α → Int) : Prop where
  sign : ∀ x y, c x y = -1 ∨ c x y = 0 ∨ c x y = 1
  refl : ∀ x, c x x = 0
  anti : ∀ x y, c y x = -c x y
  trans : ∀ x y z, c x y ≤ 0 → c y z ≤ 0 → c x z ≤ 0
/-- list by list: the first place where they part, else the shorter one is ahead -/
def lexI {α : Type} (c : α → α → Int) : List α → List α → Int
  | [], [] => 0
  | [], _ :: _ => -1
  | _ :: _, [] => 1
  | a :: r, b :: s => if c a b = 0 then lexI c r s else c a b
theorem Tot.eqv {α : Type} {c : α → α → Int} (h : Tot c) {x y : α} (z : α) (e : c x y = 0) : c x z = c y z := by
  have h1 := h.anti x y
  have h2 := h.trans x y z
  have h3 := h.trans y x z
  have h4 := h.trans z x y
  have h5 := h.trans z y x
  have h6 := h.anti x z
  have h7 := h.anti y z
  have h8 := h.sign x z
  have h9 := h.sign y z
  omega
theorem Tot.lex {α : Type} {c : α → α → Int} (h : Tot c) : Tot (lexI c) where
  sign := by
    intro x
    induction x with
    | nil => intro y; cases y <;> simp [lexI]
    | cons a r ih =>
      intro y
      cases y with
      | nil => simp [lexI]
      | cons b s =>
        simp only [lexI]
        split
        · exact ih s
        · exact h.sign a b
  refl := by
    intro x
    induction x with
    | nil => rfl
    | cons a r ih => simp only [lexI]; rw [if_pos (h.refl a)]; exact ih
  anti := by
    intro x
    induction x with
    | nil => intro y; cases y <;> simp [lexI]
    | cons a r ih =>
      intro y
      cases y with
      | nil => simp [lexI]
      | cons b s =>
        have := h.anti a b
        simp only [lexI]
        by_cases e : c a b = 0
        · rw [if_pos e, if_pos (by omega)]
          exact ih s
        · rw [if_neg e, if_neg (by omega)]
          exact this
  trans := by
    intro x
    induction x with
    | nil =>
      intro y z h1 h2
      cases z <;> simp [lexI]
    | cons a r ih =>
      intro y z h1 h2
      cases y with
      | nil => simp [lexI] at h1
      | cons b s =>
        cases z with
        | nil => simp [lexI] at h2
        | cons d t =>
          simp only [lexI] at *
          by_cases e1 : c a b = 0
          · rw [if_pos e1] at h1
            rw [h.eqv d e1]
            by_cases e2 : c b d = 0
            · rw [if_pos e2] at h2 ⊢
              exact ih s t h1 h2
            · rw [if_neg e2] at h2 ⊢
              exact h2
          · rw [if_neg e1] at h1
            by_cases e2 : c b d = 0
            · have h3 := h.anti b d
              have h4 := h.eqv a (x := d) (y := b) (by omega)
              have h5 := h.anti a d
              have h6 := h.anti a b
              rw [if_neg (by omega)]
              omega
            · rw [if_neg e2] at h2
              have h3 := h.trans a b d h1 h2
              split
              · rename_i e3
                exfalso
                have h4 := h.eqv b (x := a) (y := d) e3
                have h5 := h.anti b d
                omega
              · exact h3
theorem lexI_zero {α : Type} {c : α → α → Int} (P : α → Prop) (h : ∀ x y, P x → P y → c x y = 0 → x = y) : ∀ x y : List α, (∀ a ∈ x, P a) → (∀ a ∈ y, P a) → lexI c x y = 0 → x = y
  | [], [], _, _, _ => rfl
  | [], _ :: _, _, _, e => by simp [lexI] at e
  | _ :: _, [], _, _, e => by simp [lexI] at e
  | a :: r, b :: s, hx, hy, e => by
    simp only [lexI] at e
    by_cases e1 : c a b = 0
    · rw [if_pos e1] at e
      rw [h a b (hx a (by simp)) (hy b (by simp)) e1, lexI_zero P h r s (fun a ha => hx a (by simp [ha])) (fun a ha => hy a (by simp [ha])) e]
    · rw [if_neg e1] at e
      exact absurd e e1

/-! numbers, bytes -/
def cmpI (a b : Int) : Int := if a < b then -1 else if b < a then 1 else 0
theorem cmpI_tot : Tot cmpI where
  sign := by intro x y; unfold cmpI; split <;> (try split) <;> simp
  refl := by intro x; unfold cmpI; simp
  anti := by intro x y; unfold cmpI; split <;> split <;> (try split) <;> omega
  trans := by intro x y z; unfold cmpI; split <;> split <;> (try split) <;> (try split) <;> omega
theorem cmpI_zero {a b : Int} (h : cmpI a b = 0) : a = b := by
  unfold cmpI at h
  split at h
  · omega
  · split at h <;> omega
def cmpU (a b : UInt8) : Int := cmpI a.toNat b.toNat
theorem cmpU_tot : Tot cmpU := ⟨fun _ _ => cmpI_tot.sign _ _, fun _ => cmpI_tot.refl _, fun _ _ => cmpI_tot.anti _ _, fun _ _ _ => cmpI_tot.trans _ _ _⟩
theorem cmpU_zero {a b : UInt8} (h : cmpU a b = 0) : a = b := UInt8.toNat_inj.1 (by have := cmpI_zero h; omega)
/-- the order of texts -/
def cmpB : List UInt8 → List UInt8 → Int := lexI cmpU
theorem cmpB_tot : Tot cmpB := cmpU_tot.lex
theorem cmpB_zero {a b : List UInt8} (h : cmpB a b = 0) : a = b := lexI_zero (fun _ => True) (fun _ _ _ _ => cmpU_zero) a b (fun _ _ => trivial) (fun _ _ => trivial) h
theorem cmpB_lt (a b : List UInt8) : a < b ↔ cmpB a b = -1 := by
  induction a generalizing b with
  | nil => cases b <;> simp [cmpB, lexI]
  | cons x r ih =>
    cases b with
    | nil => simp [cmpB, lexI]
    | cons y s =>
      have := ih s
      rw [List.cons_lt_cons_iff, this]
      simp only [cmpB, lexI]
      by_cases e : cmpU x y = 0
      · have := cmpU_zero e
        subst this
        rw [if_pos e]
        simp
      · rw [if_neg e]
        have hne : x ≠ y := fun h => e (by rw [h]; exact cmpU_tot.refl y)
        simp only [hne, false_and, or_false]
        unfold cmpU cmpI
        rw [UInt8.lt_iff_toNat_lt]
        split
        · simp; omega
        · split <;> simp <;> omega
theorem cmpB_le (a b : List UInt8) : ¬ b < a ↔ cmpB a b ≤ 0 := by
  have h1 := cmpB_lt b a
  have h2 := cmpB_tot.anti a b
  have h3 := cmpB_tot.sign a b
  rw [h1]
  omega

/-! a number in so many bytes, the great end ahead -/
def be : Nat → Nat → List UInt8
  | 0, _ => []
  | k + 1, m => UInt8.ofNat (m / 256 ^ k) :: be k m
theorem be_length (k m : Nat) : (be k m).length = k := by induction k with | zero => rfl | succ k ih => simp [be, ih]
theorem split_pow (k m : Nat) : m % 256 ^ (k + 1) = (m / 256 ^ k % 256) * 256 ^ k + m % 256 ^ k := by
  rw [Nat.pow_succ, Nat.mod_mul, Nat.mul_comm (256 ^ k), Nat.add_comm]
theorem be_cmp (k m n : Nat) (x y : List UInt8) : cmpB (be k m ++ x) (be k n ++ y) = if cmpI (m % 256 ^ k : Nat) (n % 256 ^ k : Nat) = 0 then cmpB x y else cmpI (m % 256 ^ k : Nat) (n % 256 ^ k : Nat) := by
  induction k with
  | zero =>
    rw [if_pos (by simp [Nat.mod_one, cmpI])]
    rfl
  | succ k ih =>
    have hp : 0 < 256 ^ k := Nat.pow_pos (by omega)
    have h1 := Nat.mod_lt m hp
    have h2 := Nat.mod_lt n hp
    rw [split_pow k m, split_pow k n]
    simp only [be, List.cons_append, cmpB, lexI] at ih ⊢
    have e : cmpU (UInt8.ofNat (m / 256 ^ k)) (UInt8.ofNat (n / 256 ^ k)) = cmpI (m / 256 ^ k % 256 : Nat) (n / 256 ^ k % 256 : Nat) := by simp [cmpU]
    rw [e, ih]
    generalize m / 256 ^ k % 256 = a
    generalize n / 256 ^ k % 256 = b
    generalize m % 256 ^ k = c at *
    generalize n % 256 ^ k = d at *
    generalize 256 ^ k = q at *
    rcases Nat.lt_trichotomy a b with h | rfl | h
    · have h3 : (a + 1) * q ≤ b * q := Nat.mul_le_mul_right q h
      rw [Nat.add_mul] at h3
      have e1 : cmpI (a : Int) b = -1 := by unfold cmpI; rw [if_pos (by omega)]
      have e2 : cmpI ((a * q + c : Nat) : Int) ((b * q + d : Nat) : Int) = -1 := by unfold cmpI; rw [if_pos (by omega)]
      rw [e1, e2]
      rfl
    · have e1 : cmpI (a : Int) a = 0 := cmpI_tot.refl _
      have e2 : cmpI ((a * q + c : Nat) : Int) ((a * q + d : Nat) : Int) = cmpI (c : Int) d := by unfold cmpI; congr 1; (apply propext; omega); congr 1; apply propext; omega
      rw [e1, e2, if_pos rfl]
    · have h3 : (b + 1) * q ≤ a * q := Nat.mul_le_mul_right q h
      rw [Nat.add_mul] at h3
      have e1 : cmpI (a : Int) b = 1 := by unfold cmpI; rw [if_neg (by omega), if_pos (by omega)]
      have e2 : cmpI ((a * q + c : Nat) : Int) ((b * q + d : Nat) : Int) = 1 := by unfold cmpI; rw [if_neg (by omega), if_pos (by omega)]
      rw [e1, e2]
      rfl
/-- the number in some bytes -/
def pv (l : List UInt8) : Nat := l.foldl (fun a b => a * 256 + b.toNat) 0
theorem pv_snoc (l : List UInt8) (b : UInt8) : pv (l ++ [b]) = pv l * 256 + b.toNat := by simp [pv]
theorem pv_from (l : List UInt8) : ∀ a : Nat, l.foldl (fun a b => a * 256 + b.toNat) a = a * 256 ^ l.length + pv l := by
  induction l with
  | nil => intro a; simp [pv]
  | cons b r ih =>
    intro a
    simp only [List.foldl_cons, pv, List.length_cons]
    rw [ih, ih (0 * 256 + b.toNat), Nat.pow_succ, Nat.add_mul, Nat.add_mul]
    have : a * 256 * 256 ^ r.length = a * (256 ^ r.length * 256) := by rw [Nat.mul_assoc, Nat.mul_comm 256]
    omega
theorem pv_cons (b : UInt8) (l : List UInt8) : pv (b :: l) = b.toNat * 256 ^ l.length + pv l := by
  have := pv_from l (0 * 256 + b.toNat)
  simp only [Nat.zero_mul, Nat.zero_add] at this
  rw [← this]
  simp [pv]
theorem pv_lt (l : List UInt8) : pv l < 256 ^ l.length := by
  induction l with
  | nil => simp [pv]
  | cons b r ih =>
    have hb := b.toNat_lt
    rw [pv_cons, List.length_cons, Nat.pow_succ]
    have : (b.toNat + 1) * 256 ^ r.length ≤ 256 * 256 ^ r.length := Nat.mul_le_mul_right _ (by omega)
    rw [Nat.add_mul] at this
    omega
theorem be_add (k a m : Nat) : be k (a * 256 ^ k + m) = be k m := by
  induction k generalizing a m with
  | zero => rfl
  | succ k ih =>
    have hp : 0 < 256 ^ k := Nat.pow_pos (by omega)
    have e : a * 256 ^ (k + 1) + m = (a * 256) * 256 ^ k + m := by rw [Nat.pow_succ, Nat.mul_comm (256 ^ k) 256, Nat.mul_assoc]
    simp only [be]
    rw [e, ih]
    congr 1
    rw [Nat.add_comm, Nat.add_mul_div_right _ _ hp]
    apply UInt8.toNat_inj.1
    simp
theorem be_pv (l : List UInt8) : be l.length (pv l) = l := by
  induction l with
  | nil => rfl
  | cons b r ih =>
    have h := pv_lt r
    have hp : 0 < 256 ^ r.length := Nat.pow_pos (by omega)
    rw [pv_cons, List.length_cons, be, be_add, ih]
    congr 1
    rw [Nat.add_comm, Nat.add_mul_div_right _ _ hp, Nat.div_eq_of_lt h]
    simp
theorem pv_be (k m : Nat) : pv (be k m) = m % 256 ^ k := by
  induction k with
  | zero => simp [be, pv, Nat.mod_one]
  | succ k ih =>
    rw [be, pv_cons, be_length, ih, split_pow]
    simp

/-! a text's bytes -/
def esc : List UInt8 → List UInt8
  | [] => []
  | b :: r => if b = 0 then 0 :: 255 :: esc r else b :: esc r
def unesc : List UInt8 → Option (List UInt8 × List UInt8)
  | [] => none
  | [_] => none
  | b :: c :: r =>
    if b = 0 then (if c = 1 then some ([], r) else if c = 255 then (unesc r).map fun p => (0 :: p.1, p.2) else none)
    else (unesc (c :: r)).map fun p => (b :: p.1, p.2)
theorem esc_append (l m : List UInt8) : esc (l ++ m) = esc l ++ esc m := by
  induction l with
  | nil => rfl
  | cons b r ih => simp only [List.cons_append, esc]; split <;> simp [ih]
theorem un_esc (l z : List UInt8) : unesc (esc l ++ 0 :: 1 :: z) = some (l, z) := by
  induction l with
  | nil => simp [esc, unesc]
  | cons b r ih =>
    simp only [esc]
    by_cases hb : b = 0
    · subst hb
      rw [if_pos rfl]
      simp only [List.cons_append, unesc]
      rw [if_pos trivial, if_neg (by decide), if_pos trivial, ih]
      rfl
    · rw [if_neg hb]
      obtain ⟨c, t, e⟩ : ∃ c t, esc r ++ 0 :: 1 :: z = c :: t := by
        cases h : esc r ++ 0 :: 1 :: z with
        | nil => simp at h
        | cons c t => exact ⟨c, t, rfl⟩
      rw [List.cons_append, e, unesc, if_neg hb, ← e, ih]
      rfl
theorem esc_un : ∀ (n : Nat) (s l z : List UInt8), s.length ≤ n → unesc s = some (l, z) → s = esc l ++ 0 :: 1 :: z := by
  intro n
  induction n with
  | zero => intro s l z hn h; cases s with | nil => simp [unesc] at h | cons => simp at hn
  | succ n ih =>
    intro s l z hn h
    match s, hn, h with
    | [], _, h => simp [unesc] at h
    | [_], _, h => simp [unesc] at h
    | b :: c :: r, hn, h =>
      rw [unesc] at h
      simp only [List.length_cons] at hn
      split at h
      · rename_i hb
        subst hb
        split at h
        · rename_i hc
          subst hc
          simp only [Option.some.injEq, Prod.mk.injEq] at h
          obtain ⟨rfl, rfl⟩ := h
          rfl
        · split at h
          · rename_i hc
            subst hc
            cases hu : unesc r with
            | none => rw [hu] at h; simp at h
            | some p =>
              rw [hu] at h
              simp only [Option.map_some, Option.some.injEq, Prod.mk.injEq] at h
              obtain ⟨rfl, rfl⟩ := h
              rw [ih r p.1 p.2 (by omega) hu]
              simp [esc]
          · simp at h
      · rename_i hb
        cases hu : unesc (c :: r) with
        | none => rw [hu] at h; simp at h
        | some p =>
          rw [hu] at h
          simp only [Option.map_some, Option.some.injEq, Prod.mk.injEq] at h
          obtain ⟨rfl, rfl⟩ := h
          rw [ih (c :: r) p.1 p.2 (by simp; omega) hu]
          simp only [esc]
          rw [if_neg hb]
          rfl
theorem esc_cmp (l m x y : List UInt8) : cmpB (esc l ++ 0 :: 1 :: x) (esc m ++ 0 :: 1 :: y) = if cmpB l m = 0 then cmpB x y else cmpB l m := by
  induction l generalizing m with
  | nil =>
    cases m with
    | nil => rfl
    | cons b s =>
      simp only [esc]
      by_cases hb : b = 0
      · subst hb
        rw [if_pos rfl]
        rfl
      · rw [if_neg hb]
        have hn : b.toNat ≠ 0 := fun h => hb (UInt8.toNat_inj.1 (by simpa using h))
        have e : cmpU 0 b = -1 := by unfold cmpU cmpI; rw [if_pos (by simp; omega)]
        simp only [cmpB, lexI, List.nil_append, List.cons_append]
        rw [e]
        rfl
  | cons a r ih =>
    cases m with
    | nil =>
      simp only [esc]
      by_cases ha : a = 0
      · subst ha
        rw [if_pos rfl]
        rfl
      · rw [if_neg ha]
        have hn : a.toNat ≠ 0 := fun h => ha (UInt8.toNat_inj.1 (by simpa using h))
        have e : cmpU a 0 = 1 := by unfold cmpU cmpI; rw [if_neg (by simp), if_pos (by simp; omega)]
        simp only [cmpB, lexI, List.nil_append, List.cons_append]
        rw [e]
        rfl
    | cons b s =>
      have ih := ih s
      simp only [esc]
      by_cases e : cmpU a b = 0
      · have hab := cmpU_zero e
        subst hab
        have el : cmpB (a :: r) (a :: s) = cmpB r s := by simp only [cmpB, lexI]; rw [if_pos e]
        rw [el, ← ih]
        split
        · simp only [cmpB, lexI, List.cons_append]
          rw [if_pos (by decide), if_pos (by decide)]
        · simp only [cmpB, lexI, List.cons_append]
          rw [if_pos e]
      · have el : cmpB (a :: r) (b :: s) = cmpU a b := by simp only [cmpB, lexI]; rw [if_neg e]
        rw [el, if_neg e]
        have key : ∀ u v : List UInt8, cmpB (a :: u) (b :: v) = cmpU a b := by intro u v; simp only [cmpB, lexI]; rw [if_neg e]
        have es : ∀ (c : UInt8) (t z : List UInt8), ∃ u, (if c = 0 then 0 :: 255 :: t else c :: t) ++ z = c :: u := by
          intro c t z
          split
          · rename_i h; exact ⟨_, by rw [h]; rfl⟩
          · exact ⟨_, rfl⟩
        obtain ⟨u, hu⟩ := es a (esc r) (0 :: 1 :: x)
        obtain ⟨v, hv⟩ := es b (esc s) (0 :: 1 :: y)
        rw [hu, hv]
        exact key _ _

/-! a part, a key -/
structure Pt where
  t : Bool
  n : Int
  s : ByteArray
def Pt.l (p : Pt) : List UInt8 := p.s.data.toList
theorem toList_inj {a b : ByteArray} (h : a.data.toList = b.data.toList) : a = b := by
  cases a; cases b; simp only [ByteArray.mk.injEq]; exact Array.toList_inj.1 h
theorem l_length (p : Pt) : p.l.length = p.s.size := (Lib.size_eq p.s).symm
def maxSafe : Int := 9007199254740991
def Pt.may (p : Pt) : Bool := if p.t then decide (p.n = 0) && decide (p.s.size % 2 = 0) else decide (p.s.size = 0) && (decide (-maxSafe ≤ p.n) && decide (p.n ≤ maxSafe))
def Pt.enc (p : Pt) : List UInt8 := if p.t then 32 :: (esc p.l ++ [0, 1]) else 16 :: be 8 (p.n + 9223372036854775808).toNat
def encs (k : List Pt) : List UInt8 := (k.map Pt.enc).flatten
theorem encs_cons (p : Pt) (k : List Pt) : encs (p :: k) = p.enc ++ encs k := rfl
theorem encs_append (a b : List Pt) : encs (a ++ b) = encs a ++ encs b := by simp [encs]
def cmpP (p q : Pt) : Int := if p.t = true ∧ q.t = false then 1 else if q.t = true ∧ p.t = false then -1 else if p.t then cmpB p.l q.l else cmpI p.n q.n
def cmpK : List Pt → List Pt → Int := lexI cmpP
theorem cmpP_tot : Tot cmpP where
  sign := by
    intro p q; unfold cmpP
    split
    · simp
    · split
      · simp
      · split
        · exact cmpB_tot.sign _ _
        · exact cmpI_tot.sign _ _
  refl := by
    intro p; unfold cmpP
    cases h : p.t <;> simp [cmpB_tot.refl, cmpI_tot.refl]
  anti := by
    intro p q; unfold cmpP
    have h1 := cmpB_tot.anti p.l q.l
    have h2 := cmpI_tot.anti p.n q.n
    cases p.t <;> cases q.t <;> simp [h1, h2]
  trans := by
    intro p q r; unfold cmpP
    have h1 := cmpB_tot.trans p.l q.l r.l
    have h2 := cmpI_tot.trans p.n q.n r.n
    cases p.t <;> cases q.t <;> cases r.t <;> simp <;> assumption
theorem cmpK_tot : Tot cmpK := cmpP_tot.lex
theorem Pt.ext' {p q : Pt} (h1 : p.t = q.t) (h2 : p.n = q.n) (h3 : p.l = q.l) : p = q := by
  have h4 := toList_inj h3
  cases p; cases q; simp only at h1 h2 h4; subst h1; subst h2; subst h4; rfl
theorem may_num {p : Pt} (h : p.may = true) (ht : p.t = false) : p.l = [] ∧ -maxSafe ≤ p.n ∧ p.n ≤ maxSafe := by
  unfold Pt.may at h
  rw [ht] at h
  simp only [Bool.false_eq_true, if_false, Bool.and_eq_true, decide_eq_true_eq] at h
  refine ⟨List.length_eq_zero_iff.1 (by rw [l_length]; exact h.1), h.2.1, h.2.2⟩
theorem may_txt {p : Pt} (h : p.may = true) (ht : p.t = true) : p.n = 0 ∧ p.s.size % 2 = 0 := by
  unfold Pt.may at h
  rw [ht] at h
  simpa using h
theorem cmpP_zero {p q : Pt} (hp : p.may = true) (hq : q.may = true) (h : cmpP p q = 0) : p = q := by
  unfold cmpP at h
  cases hpt : p.t <;> cases hqt : q.t <;> simp only [hpt, hqt, Bool.false_eq_true, reduceCtorEq, and_false, and_true, and_self, if_false, if_true] at h
  · have a := may_num hp hpt
    have b := may_num hq hqt
    exact Pt.ext' (by rw [hpt, hqt]) (cmpI_zero h) (by rw [a.1, b.1])
  · exact absurd h (by decide)
  · have a := may_txt hp hpt
    have b := may_txt hq hqt
    exact Pt.ext' (by rw [hpt, hqt]) (by rw [a.1, b.1]) (cmpB_zero h)
theorem enc_cmp {p q : Pt} (hp : p.may = true) (hq : q.may = true) (x y : List UInt8) : cmpB (p.enc ++ x) (q.enc ++ y) = if cmpP p q = 0 then cmpB x y else cmpP p q := by
  unfold Pt.enc cmpP
  cases hpt : p.t <;> cases hqt : q.t <;> simp only [Bool.false_eq_true, reduceCtorEq, and_false, and_true, and_self, if_false, if_true]
  · have a := may_num hp hpt
    have b := may_num hq hqt
    have e := be_cmp 8 (p.n + 9223372036854775808).toNat (q.n + 9223372036854775808).toNat x y
    have ec : cmpI (((p.n + 9223372036854775808).toNat % 256 ^ 8 : Nat) : Int) (((q.n + 9223372036854775808).toNat % 256 ^ 8 : Nat) : Int) = cmpI p.n q.n := by
      have h1 : (p.n + 9223372036854775808).toNat % 256 ^ 8 = (p.n + 9223372036854775808).toNat := Nat.mod_eq_of_lt (by unfold maxSafe at a; omega)
      have h2 : (q.n + 9223372036854775808).toNat % 256 ^ 8 = (q.n + 9223372036854775808).toNat := Nat.mod_eq_of_lt (by unfold maxSafe at b; omega)
      rw [h1, h2]
      unfold cmpI
      unfold maxSafe at a b
      congr 1
      · apply propext; omega
      · congr 1; apply propext; omega
    rw [ec] at e
    rw [← e]
    rfl
  · rfl
  · rfl
  · rw [← esc_cmp p.l q.l x y]
    simp only [List.cons_append, List.append_assoc, List.nil_append]
    rfl
theorem enc_ne (p : Pt) (x : List UInt8) : ∃ c r, p.enc ++ x = c :: r ∧ (c = 16 ∨ c = 32) := by
  unfold Pt.enc
  cases p.t
  · exact ⟨16, _, rfl, .inl rfl⟩
  · exact ⟨32, _, rfl, .inr rfl⟩
/-- bytes are in the order of their keys -/
theorem keeps : ∀ (a b : List Pt), (∀ p ∈ a, p.may = true) → (∀ p ∈ b, p.may = true) → cmpB (encs a) (encs b) = cmpK a b
  | [], [], _, _ => rfl
  | [], q :: b, _, _ => by
    obtain ⟨c, r, e, _⟩ := enc_ne q (encs b)
    rw [encs_cons, e]
    rfl
  | p :: a, [], _, _ => by
    obtain ⟨c, r, e, _⟩ := enc_ne p (encs a)
    rw [encs_cons, e]
    rfl
  | p :: a, q :: b, ha, hb => by
    rw [encs_cons, encs_cons, enc_cmp (ha p (by simp)) (hb q (by simp)), keeps a b (fun p h => ha p (by simp [h])) fun p h => hb p (by simp [h])]
    rfl
/-- what begins with a key lies from it on and ahead of what is behind it -/
theorem within : ∀ (w k : List Pt), (∀ p ∈ w, p.may = true) → (∀ p ∈ k, p.may = true) → ((cmpB (encs w) (encs k) ≤ 0 ∧ cmpB (encs k) (encs w ++ [255]) = -1) ↔ w <+: k)
  | [], k, _, _ => by
    simp only [List.nil_prefix, iff_true]
    cases k with
    | nil => exact ⟨by decide, by decide⟩
    | cons q k =>
      obtain ⟨c, r, e, hc⟩ := enc_ne q (encs k)
      rw [encs_cons, e]
      refine ⟨by simp [encs, cmpB, lexI], ?_⟩
      rcases hc with rfl | rfl <;> rfl
  | p :: w, [], _, _ => by
    obtain ⟨c, r, e, _⟩ := enc_ne p (encs w)
    rw [encs_cons, e]
    simp [encs, cmpB, lexI]
  | p :: w, q :: k, hw, hk => by
    have hp := hw p (by simp)
    have hq := hk q (by simp)
    have ih := within w k (fun p h => hw p (by simp [h])) fun p h => hk p (by simp [h])
    rw [encs_cons, encs_cons, List.append_assoc, enc_cmp hp hq, enc_cmp hq hp, List.cons_prefix_cons, ← ih]
    have ha := cmpP_tot.anti p q
    by_cases e : cmpP p q = 0
    · have := cmpP_zero hp hq e
      subst this
      rw [if_pos e, if_pos e]
      simp
    · rw [if_neg e, if_neg (by omega)]
      have hne : p ≠ q := fun h => e (by rw [h]; exact cmpP_tot.refl q)
      simp only [hne, false_and, iff_false]
      omega

/-! what stands in bytes -/
def hd : List UInt8 → Option (Pt × List UInt8)
  | [] => none
  | c :: r =>
    if c = 16 then (if 8 ≤ r.length then some (⟨false, (pv (r.take 8) : Int) - 9223372036854775808, ⟨#[]⟩⟩, r.drop 8) else none)
    else if c = 32 then (unesc r).map fun p => (⟨true, 0, ⟨p.1.toArray⟩⟩, p.2)
    else none
theorem hd_enc {p : Pt} (h : p.may = true) (x : List UInt8) : hd (p.enc ++ x) = some (p, x) := by
  unfold Pt.enc
  cases ht : p.t
  · have a := may_num h ht
    simp only [Bool.false_eq_true, if_false, List.cons_append, hd]
    rw [if_pos trivial, if_pos (by simp [be_length]), List.take_append_of_le_length (by simp [be_length]), List.drop_append_of_le_length (by simp [be_length]), List.take_of_length_le (by simp [be_length]), List.drop_of_length_le (by simp [be_length]), pv_be,
      Nat.mod_eq_of_lt (by unfold maxSafe at a; omega)]
    simp only [List.nil_append, Option.some.injEq, Prod.mk.injEq, and_true]
    refine Pt.ext' ht.symm ?_ a.1.symm
    unfold maxSafe at a
    simp only
    omega
  · have a := may_txt h ht
    simp only [if_true, List.cons_append, List.append_assoc, List.nil_append, hd]
    rw [if_neg (by decide), un_esc]
    simp only [Option.map_some, Option.some.injEq, Prod.mk.injEq, and_true]
    exact Pt.ext' ht.symm a.1.symm rfl
theorem enc_hd {s x : List UInt8} {p : Pt} (h : hd s = some (p, x)) : s = p.enc ++ x := by
  cases s with
  | nil => simp [hd] at h
  | cons c r =>
    rw [hd] at h
    split at h
    · rename_i hc
      split at h
      · rename_i hl
        simp only [Option.some.injEq, Prod.mk.injEq] at h
        obtain ⟨rfl, rfl⟩ := h
        have e : ((pv (r.take 8) : Int) - 9223372036854775808 + 9223372036854775808).toNat = pv (r.take 8) := by omega
        have e8 : (r.take 8).length = 8 := by simp; omega
        have hb := be_pv (r.take 8)
        rw [e8] at hb
        simp only [Pt.enc, Bool.false_eq_true, if_false]
        rw [e, hb, hc, List.cons_append, List.take_append_drop]
      · simp at h
    · split at h
      · rename_i hc
        cases hu : unesc r with
        | none => rw [hu] at h; simp at h
        | some q =>
          rw [hu] at h
          simp only [Option.map_some, Option.some.injEq, Prod.mk.injEq] at h
          obtain ⟨rfl, rfl⟩ := h
          have := esc_un r.length r q.1 q.2 (Nat.le_refl _) hu
          simp only [Pt.enc, if_true, Pt.l]
          rw [hc, List.cons_append, List.append_assoc]
          exact congrArg _ this
      · simp at h
theorem enc_pos (p : Pt) : 0 < p.enc.length := by unfold Pt.enc; split <;> simp
def decN : Nat → List UInt8 → Option (List Pt)
  | _, [] => some []
  | 0, _ :: _ => none
  | n + 1, c :: r =>
    match hd (c :: r) with
    | none => none
    | some (p, x) => if p.may = true then (decN n x).map (p :: ·) else none
/-- the key that stands in bytes -/
def dec (s : List UInt8) : Option (List Pt) := decN s.length s
theorem decN_some : ∀ (n : Nat) (s : List UInt8) (k : List Pt), decN n s = some k → encs k = s ∧ ∀ p ∈ k, p.may = true
  | _, [], k, h => by
    simp only [decN, Option.some.injEq] at h
    subst h
    exact ⟨rfl, by simp⟩
  | 0, _ :: _, k, h => by simp [decN] at h
  | n + 1, c :: r, k, h => by
    rw [decN] at h
    split at h
    · simp at h
    · rename_i p x e
      split at h
      · rename_i hm
        cases hd2 : decN n x with
        | none => rw [hd2] at h; simp at h
        | some k' =>
          rw [hd2] at h
          simp only [Option.map_some, Option.some.injEq] at h
          subst h
          obtain ⟨h1, h2⟩ := decN_some n x k' hd2
          refine ⟨by rw [encs_cons, h1, ← enc_hd e], ?_⟩
          intro q hq
          simp only [List.mem_cons] at hq
          rcases hq with rfl | hq
          · exact hm
          · exact h2 q hq
      · simp at h
theorem decN_encs : ∀ (k : List Pt) (n : Nat), (encs k).length ≤ n → (∀ p ∈ k, p.may = true) → decN n (encs k) = some k
  | [], n, _, _ => by cases n <;> rfl
  | p :: k, n, hn, hm => by
    have hp := enc_pos p
    obtain ⟨c, r, e, _⟩ := enc_ne p (encs k)
    have he := hd_enc (hm p (by simp)) (encs k)
    rw [encs_cons] at *
    rw [List.length_append] at hn
    rw [e] at he ⊢
    cases n with
    | zero => omega
    | succ n =>
      rw [decN, he]
      simp only
      rw [if_pos (hm p (by simp)), decN_encs k n (by omega) fun q h => hm q (by simp [h])]
      rfl
theorem dec_iff (s : List UInt8) (k : List Pt) : dec s = some k ↔ encs k = s ∧ ∀ p ∈ k, p.may = true := by
  constructor
  · exact decN_some _ _ _
  · rintro ⟨rfl, h⟩
    exact decN_encs k _ (Nat.le_refl _) h
/-- step by step, as it is read -/
theorem dec_step {s x : List UInt8} {p : Pt} (h : hd s = some (p, x)) (hm : p.may = true) : dec s = (dec x).map (p :: ·) := by
  have e := enc_hd h
  cases hx : dec x with
  | some k =>
    obtain ⟨h1, h2⟩ := (dec_iff _ _).1 hx
    refine (dec_iff _ _).2 ⟨by rw [encs_cons, h1, e], ?_⟩
    intro q hq
    simp only [List.mem_cons] at hq
    rcases hq with rfl | hq
    · exact hm
    · exact h2 q hq
  | none =>
    cases hs : dec s with
    | none => rfl
    | some k =>
      exfalso
      obtain ⟨h1, h2⟩ := (dec_iff _ _).1 hs
      cases k with
      | nil => subst h1; simp [encs, hd] at h
      | cons q k =>
        rw [encs_cons] at h1
        have := hd_enc (h2 q (by simp)) (encs k)
        rw [h1, h] at this
        simp only [Option.some.injEq, Prod.mk.injEq] at this
        have hk : dec (encs k) = some k := (dec_iff _ _).2 ⟨rfl, fun p h => h2 p (by simp [h])⟩
        rw [← this.2, hx] at hk
        simp at hk
theorem dec_none {s : List UInt8} (hs : s ≠ []) (h : ∀ p x, hd s = some (p, x) → p.may = false) : dec s = none := by
  cases e : dec s with
  | none => rfl
  | some k =>
    exfalso
    obtain ⟨h1, h2⟩ := (dec_iff _ _).1 e
    cases k with
    | nil => exact hs h1.symm
    | cons q k =>
      rw [encs_cons] at h1
      have := hd_enc (h2 q (by simp)) (encs k)
      rw [h1] at this
      have := h _ _ this
      rw [h2 q (by simp)] at this
      simp at this
/-- why a key has no bytes -/
def chk (k : List Pt) : Int := if k.all Pt.may = true then (if (encs k).length ≤ 256 then 0 else 2) else 50
/-- a key's bytes, none where it has none -/
def wrt (k : List Pt) : List UInt8 := if chk k = 0 then encs k else []
theorem chk_zero {k : List Pt} (h : chk k = 0) : (∀ p ∈ k, p.may = true) ∧ (encs k).length ≤ 256 := by
  unfold chk at h
  split at h
  · rename_i ha
    split at h
    · rename_i hl
      exact ⟨List.all_eq_true.1 ha, hl⟩
    · omega
  · omega
theorem chk_of {k : List Pt} (h : ∀ p ∈ k, p.may = true) (hl : (encs k).length ≤ 256) : chk k = 0 := by
  unfold chk
  rw [if_pos (List.all_eq_true.2 h), if_pos hl]
end Go.Proofs.YtkanpdhlpobfoaaDoor.K
