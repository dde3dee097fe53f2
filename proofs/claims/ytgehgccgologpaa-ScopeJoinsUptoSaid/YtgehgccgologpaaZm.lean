/-
  IndexFunc, ContainsFunc: over nodes, over names; hasTwice of names, of texts.
-/
import Derived.Test.YtgehgccgologpaaZl
import Derived.Test.YtgehgccgologpaaZc
import Derived.Deep.QuietTactic
namespace Go.Proofs.Ytgehgccgologpaa.Z
open Go.RowKit Go.Shelf Go.Proofs.Ytgehgccgologpaa Go.Proofs.Ytgehgccgologpaa.R Go.Proofs.Ytgehgccgologpaa.T

/-- where the first one is that a question is answered yes for; -1: nowhere -/
def fIdx {α : Type} (p : α → Bool) (l : List α) : Int := match l.findIdx? p with | some i => (i : Int) | none => -1
theorem fIdx_some {α : Type} {p : α → Bool} {l : List α} {k : Nat} (hk : k < l.length) (h1 : p l[k] = true) (h2 : ∀ j (h : j < k), p (l[j]'(by omega)) = false) : fIdx p l = (k : Int) := by
  unfold fIdx
  rw [List.findIdx?_eq_some_iff_getElem.2 ⟨hk, h1, fun j hj => by rw [h2 j hj]; simp⟩]
theorem fIdx_none {α : Type} {p : α → Bool} {l : List α} (h : ∀ j (h : j < l.length), p l[j] = false) : fIdx p l = -1 := by
  unfold fIdx
  rw [List.findIdx?_eq_none_iff.2 fun x hx => by
    obtain ⟨j, hj, rfl⟩ := List.getElem_of_mem hx
    exact h j hj]
theorem fIdx_any {α : Type} (p : α → Bool) (l : List α) : decide (0 ≤ fIdx p l) = l.any p := by
  unfold fIdx
  cases h : l.findIdx? p with
  | none =>
    rw [List.findIdx?_eq_none_iff] at h
    have : l.any p = false := by rw [List.any_eq_false]; exact fun x hx => by rw [h x hx]; simp
    rw [this]
    rfl
  | some i =>
    obtain ⟨hi, h1, _⟩ := List.findIdx?_eq_some_iff_getElem.1 h
    rw [List.any_eq_true.2 ⟨l[i], List.getElem_mem hi, h1⟩, decide_eq_true_eq]
    show (0 : Int) ≤ (i : Int)
    omega
theorem fIdx_lt {α : Type} (p : α → Bool) (l : List α) : -1 ≤ fIdx p l ∧ fIdx p l < l.length := by
  unfold fIdx
  cases h : l.findIdx? p with
  | none => exact ⟨by show (-1 : Int) ≤ -1; omega, by show (-1 : Int) < _; omega⟩
  | some i =>
    obtain ⟨hi, _⟩ := List.findIdx?_eq_some_iff_getElem.1 h
    exact ⟨by show (-1 : Int) ≤ (i : Int); omega, by show (i : Int) < _; omega⟩
/-- a question of nodes, by contract -/
def PredN (w : World) (f : Nat) (caps : Array Value) (p : V → Bool) : Prop := ∀ v y w', Below w.heap.size w w' → Is w' v y → Calls Try.prog f (#[y.v] ++ caps) w' (AnsB w' (p v))
set_option maxRecDepth 8000 in
set_option maxHeartbeats 1000000 in
theorem indexN_any (f : Nat) (hf : Ent f) (caps : Array Value) (p : V → Bool) (l : List V) (A : Option Addr) (c : Nat) (w : World) (hrow : Row w A l) (hl : l.length ≤ 4194304) (hp : PredN w f caps p) :
    Calls Try.prog 52 #[.slice A l.length c, .func (.func f) #[] caps] w fun e w' => e = .returned (.int .i64 (fIdx p l)) ∧ Below w.heap.size w w' := by
  have HP := Lib.hid hp
  have HR := Lib.hid hrow
  have hli : (l.length : Int) ≤ 4194304 := by omega
  clear hp hrow
  go_enter Try.func52, Try.ntmps52
  go_wp2_with fail
  go_loopw [8] (fun i wr => ∃ k : Nat, k ≤ l.length ∧ i = .int .i64 k ∧ Hid (Below w.heap.size w wr) ∧ Hid (∀ j (h : j < k) (h2 : j < l.length), p l[j] = false)) (fun i _ => l.length - (intOf i).toNat)
  case atStart => exact ⟨0, Nat.zero_le _, rfl, Lib.hid (Below.refl _ _), Lib.hid fun j h => absurd h (Nat.not_lt_zero _)⟩
  case round =>
    obtain ⟨k, hk, rfl, hb, hno⟩ := hrel
    by_cases hlt : k < l.length
    · obtain ⟨g, o, rfl, hg, y, hat, hy⟩ := (RowB.below HR.out hb.out).at_ hlt
      have HC := Lib.hid (HP.out l[k] y wr hb.out hy)
      have HY : Hid (p l[k] = true → fIdx p l = (k : Int)) := fun e => fIdx_some hlt e fun j hj => hno.out j hj (by omega)
      have HN : Hid (p l[k] = false → ∀ j (h : j < k + 1) (h2 : j < l.length), p l[j] = false) := fun e j hj h2 => by
        by_cases hjk : j = k
        · subst hjk; exact e
        · exact hno.out j (by omega) h2
      obtain ⟨yk, ynm, yn, ys, yka, ykn, ykc, yla, yln, ylc⟩ := y
      obtain ⟨c0, c1, c2, c3, c4, c5⟩ := hat.six
      have HE := hf
      simp only [X.v] at HC
      clear hat hy
      cases hpk : p l[k] with
      | true =>
        rw [hpk] at HC
        have HYE := Lib.hid (HY.out hpk)
        clear hpk HY HN
        go_wp2_with fail
        refine HC.out.mono ?_
        rintro e w1 ⟨rfl, hb1⟩
        have HB1 := Lib.hid (hb.out.trans (hb1.mono hb.out.size))
        clear hb1 c0 c1 c2 c3 c4 c5
        go_wp2_with fail
        go_ret
        exact ⟨by rw [HYE.out]; rfl, HB1.out⟩
      | false =>
        rw [hpk] at HC
        have HNE := Lib.hid (HN.out hpk)
        clear hpk HY HN
        go_wp2_with fail
        refine HC.out.mono ?_
        rintro e w1 ⟨rfl, hb1⟩
        have HB1 := Lib.hid (hb.out.trans (hb1.mono hb.out.size))
        clear hb1 c0 c1 c2 c3 c4 c5
        go_wp2_with fail
        go_roundw
        case rel => exact ⟨k + 1, hlt, by go_num, HB1, HNE⟩
        case measure => simp [intOf]; omega
    · obtain rfl : k = l.length := by omega
      have HNE := Lib.hid (fIdx_none fun j h => hno.out j h h)
      go_wp2_with fail
      go_ret
      exact ⟨by rw [HNE.out]; rfl, hb.out⟩
set_option maxRecDepth 8000 in
theorem containsN_any (f : Nat) (hf : Ent f) (caps : Array Value) (p : V → Bool) (l : List V) (A : Option Addr) (c : Nat) (w : World) (hrow : Row w A l) (hl : l.length ≤ 4194304) (hp : PredN w f caps p) :
    Calls Try.prog 48 #[.slice A l.length c, .func (.func f) #[] caps] w (AnsB w (l.any p)) := by
  have HC := Lib.hid (indexN_any f hf caps p l A c w hrow hl hp)
  have HV := Lib.hid (fIdx_any p l)
  have h1 := fIdx_lt p l
  clear hp hrow
  generalize fIdx p l = i at *
  generalize l.any p = b at *
  go_enter Try.func48, Try.ntmps48
  go_wp2_with fail
  refine HC.out.mono ?_
  rintro e w1 ⟨rfl, hb1⟩
  have HB1 := Lib.hid hb1
  clear hb1
  go_wp2_with fail
  go_ret
  exact ⟨by rw [← HV.out]; rfl, HB1.out⟩
/-- a question of names that only reckons -/
def PredS (f : Nat) (p : ByteArray → Bool) : Prop := ∀ s w', Calls Try.prog f #[.string s] w' fun e w'' => e = .returned (.bool (p s)) ∧ w' = w''
set_option maxRecDepth 8000 in
set_option maxHeartbeats 1000000 in
theorem indexS_any (f : Nat) (hf : Ent f) (p : ByteArray → Bool) (l : List ByteArray) (A : Option Addr) (c : Nat) (w : World) (hrow : Strs w A l) (hl : l.length ≤ 4194304) (hp : PredS f p) :
    Calls Try.prog 67 #[.slice A l.length c, .func (.func f) #[] #[]] w fun e w' => e = .returned (.int .i64 (fIdx p l)) ∧ w = w' := by
  have HP := Lib.hid hp
  have HR := Lib.hid hrow
  have hli : (l.length : Int) ≤ 4194304 := by omega
  clear hp hrow
  go_enter Try.func67, Try.ntmps67
  go_wp2_with fail
  go_loop [8] (fun i => ∃ k : Nat, k ≤ l.length ∧ i = .int .i64 k ∧ Hid (∀ j (h : j < k) (h2 : j < l.length), p l[j] = false)) (fun i => l.length - (intOf i).toNat)
  case atStart => exact ⟨0, Nat.zero_le _, rfl, Lib.hid fun j h => absurd h (Nat.not_lt_zero _)⟩
  case round =>
    obtain ⟨k, hk, rfl, hno⟩ := hrel
    by_cases hlt : k < l.length
    · obtain ⟨g, o, rfl, hg, hcell⟩ := HR.out.at_ hlt
      have HC := Lib.hid (HP.out l[k] w)
      have HY : Hid (p l[k] = true → fIdx p l = (k : Int)) := fun e => fIdx_some hlt e fun j hj => hno.out j hj (by omega)
      have HN : Hid (p l[k] = false → ∀ j (h : j < k + 1) (h2 : j < l.length), p l[j] = false) := fun e j hj h2 => by
        by_cases hjk : j = k
        · subst hjk; exact e
        · exact hno.out j (by omega) h2
      generalize l[k] = y at *
      cases hpk : p y with
      | true =>
        rw [hpk] at HC
        have HYE := Lib.hid (HY.out hpk)
        clear hpk HY HN
        go_wp2_with fail
        refine HC.out.mono ?_
        rintro e w1 ⟨rfl, rfl⟩
        go_wp2_with fail
        go_ret
        exact ⟨by rw [HYE.out]; rfl, rfl⟩
      | false =>
        rw [hpk] at HC
        have HNE := Lib.hid (HN.out hpk)
        clear hpk HY HN
        go_wp2_with fail
        refine HC.out.mono ?_
        rintro e w1 ⟨rfl, rfl⟩
        go_wp2_with fail
        go_round
        case rel => exact ⟨k + 1, hlt, by go_num, HNE⟩
        case measure => simp [intOf]; omega
    · obtain rfl : k = l.length := by omega
      have HNE := Lib.hid (fIdx_none fun j h => hno.out j h h)
      go_wp2_with fail
      go_ret
      exact ⟨by rw [HNE.out]; rfl, rfl⟩
set_option maxRecDepth 8000 in
theorem containsS_any (f : Nat) (hf : Ent f) (p : ByteArray → Bool) (l : List ByteArray) (A : Option Addr) (c : Nat) (w : World) (hrow : Strs w A l) (hl : l.length ≤ 4194304) (hp : PredS f p) :
    Calls Try.prog 43 #[.slice A l.length c, .func (.func f) #[] #[]] w fun e w' => e = .returned (.bool (l.any p)) ∧ w = w' := by
  have HC := Lib.hid (indexS_any f hf p l A c w hrow hl hp)
  have HV := Lib.hid (fIdx_any p l)
  have h1 := fIdx_lt p l
  clear hp hrow
  generalize fIdx p l = i at *
  generalize l.any p = b at *
  go_enter Try.func43, Try.ntmps43
  go_wp2_with fail
  refine HC.out.mono ?_
  rintro e w1 ⟨rfl, rfl⟩
  go_wp2_with fail
  go_ret
  exact ⟨by rw [← HV.out]; rfl, rfl⟩
theorem values_any (A : Option Addr) (n c : Nat) (w : World) :
    Calls Try.prog 45 #[.slice A n c] w fun e w' => e = .returned (.func (.func 68) #[] #[.pointer (some ⟨w.heap.size, 0, none⟩)]) ∧ w' = w.alloc (.cells #[.slice A n c] 22) := by
  go_enter Try.func45, Try.ntmps45
  go_wp2_with fail
  go_ret
  exact ⟨rfl, rfl⟩
theorem texts_any (A : Option Addr) (n c : Nat) (w : World) :
    Calls Try.prog 47 #[.slice A n c] w fun e w' => e = .returned (.func (.func 69) #[] #[.pointer (some ⟨w.heap.size, 0, none⟩)]) ∧ w' = w.alloc (.cells #[.slice A n c] 23) := by
  go_enter Try.func47, Try.ntmps47
  go_wp2_with fail
  go_ret
  exact ⟨rfl, rfl⟩
/-- hasTwice of names -/
theorem twice_names (ks : List ByteArray) (A : Option Addr) (c : Nat) (w : World) (hks : Strs w A ks) (hs : ∀ s ∈ ks, s.size ≤ 4194304) (hl : ks.length ≤ 4194304) :
    Calls Try.prog 44 #[.func (.func 68) #[] #[.pointer (some ⟨w.heap.size, 0, none⟩)]] (w.alloc (.cells #[.slice A ks.length c] 22)) (AnsB (w.alloc (.cells #[.slice A ks.length c] 22)) (dup ks)) := by
  have hb := below_alloc w (.cells #[.slice A ks.length c] 22)
  have hc : (w.alloc (.cells #[.slice A ks.length c] 22)).cell? ⟨w.heap.size, 0, none⟩ = some (.slice A ks.length c) := by simp
  have hz : w.heap.size < (w.alloc (.cells #[.slice A ks.length c] 22)).heap.size := by simp
  have hk2 := hks.to hb hb.size
  generalize w.alloc (.cells #[.slice A ks.length c] 22) = w1 at *
  exact hasTwice_of 68 (enters_of Try.func68 (by kernel_rfl) rfl) _ ks _ hs hl fun W0 h0 =>
    values_seq 8 w.heap.size _ _ ks A c W0 h0.size (Nat.lt_of_lt_of_le hz h0.size) (hk2.to h0 (Nat.le_refl _)) ((h0.cell (p := ⟨w.heap.size, 0, none⟩) hz).trans hc) hl
theorem twice_texts (l : List V) (A : Option Addr) (c : Nat) (w : World) (hrow : Row w A l) (hs : ∀ s ∈ l.map V.s, s.size ≤ 4194304) (hl : l.length ≤ 4194304) :
    Calls Try.prog 44 #[.func (.func 69) #[] #[.pointer (some ⟨w.heap.size, 0, none⟩)]] (w.alloc (.cells #[.slice A l.length c] 23)) (AnsB (w.alloc (.cells #[.slice A l.length c] 23)) (dup (l.map V.s))) := by
  have hb := below_alloc w (.cells #[.slice A l.length c] 23)
  have hc : (w.alloc (.cells #[.slice A l.length c] 23)).cell? ⟨w.heap.size, 0, none⟩ = some (.slice A l.length c) := by simp
  have hz : w.heap.size < (w.alloc (.cells #[.slice A l.length c] 23)).heap.size := by simp
  have hk2 := RowB.below hrow hb
  generalize w.alloc (.cells #[.slice A l.length c] 23) = w1 at *
  exact hasTwice_of 69 (enters_of Try.func69 (by kernel_rfl) rfl) _ _ _ hs (by rw [List.length_map]; exact hl) fun W0 h0 =>
    texts_seq 8 w.heap.size _ _ l A c W0 h0.size (Nat.lt_of_lt_of_le hz h0.size) (RowB.to hk2 h0 (Nat.le_refl _)) ((h0.cell (p := ⟨w.heap.size, 0, none⟩) hz).trans hc) hl
end Go.Proofs.Ytgehgccgologpaa.Z
