/-
  first; ReadText, the package's and the reference's, by contract.
-/
import Derived.Test.YtjjjbjepgieahaaH
namespace Go.Proofs.Ytjjjbjepgieahaa
open Go.RowKit

theorem wrap_nat {n : Nat} (h : n ≤ 9223372036854775807) : IntKind.u64.wrap (n : Int) = (n : Int) := by
  rw [IntKind.wrap_u64]
  omega
theorem wrap_pos {m : Int} (h0 : 0 ≤ m) (h : m ≤ 9223372036854775807) : IntKind.u64.wrap m = m := by
  rw [IntKind.wrap_u64]
  omega
theorem first_neg {l : Bs} {n : Nat} {most : Int} (h : most < 0 ∨ most < n) : first l n most = ([], 22) := by
  unfold first
  rw [if_pos h]
theorem first_short {l : Bs} {n : Nat} {most : Int} (h : ¬ (most < 0 ∨ most < n)) (h2 : l.length < n) : first l n most = ([], 20) := by
  unfold first
  rw [if_neg h, if_pos h2]
theorem first_good {l : Bs} {n : Nat} {most : Int} (h : ¬ (most < 0 ∨ most < n)) (h2 : ¬ l.length < n) : first l n most = (l.take n, 0) := by
  unfold first
  rw [if_neg h, if_neg h2]

/-- first where it tells an error -/
theorem first_bad (A : Option Addr) (l : Bs) (c n : Nat) (most : Int) (w : World) (hl : l.length ≤ 9223372036854775807) (hm : most ≤ 9223372036854775807) (h : (first l n most).2 ≠ 0) :
    Calls Try.prog 27 #[.slice A l.length c, .int .u64 n, .int .i64 most] w fun e w' => e = .returned (.tuple #[.slice none 0 0, .int .i64 (first l n most).2]) ∧ w = w' := by
  have hwl := wrap_nat hl
  by_cases h0 : most < 0
  · have HF := Lib.hid (first_neg (l := l) (n := n) (.inl h0))
    clear h hwl
    go_enter Try.func27, Try.ntmps27
    go_wp2
    go_ret2
    exact ⟨by rw [HF.out]; rfl, rfl⟩
  · have h00 : 0 ≤ most := by omega
    have hwm := wrap_pos h00 hm
    by_cases h1 : most < n
    · have HF := Lib.hid (first_neg (l := l) (n := n) (most := most) (.inr h1))
      clear h hwl h0
      go_enter Try.func27, Try.ntmps27
      go_wp2
      go_ret2
      exact ⟨by rw [HF.out]; rfl, rfl⟩
    · have hlt : l.length < n := by
        rcases Nat.lt_or_ge l.length n with h2 | h2
        · exact h2
        · rw [first_good (by omega) (by omega)] at h
          exact absurd rfl h
      have HF := Lib.hid (first_short (l := l) (n := n) (most := most) (by omega) hlt)
      have h11 : (n : Int) ≤ most := by omega
      clear h h0 h1
      go_enter Try.func27, Try.ntmps27
      go_wp2
      go_ret2
      exact ⟨by rw [HF.out]; rfl, rfl⟩
/-- first where it tells none -/
theorem first_any (A : Option Addr) (l : Bs) (c n : Nat) (most : Int) (w : World) (hl : l.length ≤ 9223372036854775807) (hlc : l.length ≤ c) (hm : most ≤ 9223372036854775807) (h0 : 0 ≤ most) (h1 : (n : Int) ≤ most) (h2 : n ≤ l.length) :
    Calls Try.prog 27 #[.slice A l.length c, .int .u64 n, .int .i64 most] w fun e w' => e = .returned (.tuple #[.slice A n c, .int .i64 0]) ∧ w = w' := by
  have hwl := wrap_nat hl
  have hwm := wrap_pos h0 hm
  go_enter Try.func27, Try.ntmps27
  go_wp2
  go_ret2
  exact ⟨rfl, rfl⟩

/-- what ReadText answers -/
def rtV (r : Bs × Nat × Nat) : Value := .tuple #[.string ⟨r.1.toArray⟩, .int .i64 r.2.1, .int .i64 r.2.2]
theorem rdText_bad {l : Bs} {most : Int} {n k e : Nat} (h : rd 0 0 l = (n, k, e)) (he : e ≠ 0) : rdText l most = ([], 0, e) := by
  unfold rdText
  rw [h, if_pos he]
theorem rdText_first {l : Bs} {most : Int} {n k : Nat} (h : rd 0 0 l = (n, k, 0)) (he : (first (l.drop k) n most).2 ≠ 0) : rdText l most = ([], 0, (first (l.drop k) n most).2) := by
  unfold rdText
  rw [h, if_neg (fun h => h rfl), if_pos he]
theorem rdText_good {l : Bs} {most : Int} {n k : Nat} (h : rd 0 0 l = (n, k, 0)) (he : (first (l.drop k) n most).2 = 0) : rdText l most = ((l.drop k).take n, k + n, 0) := by
  unfold rdText
  rw [h, if_neg (fun h => h rfl), if_neg (fun h => h he)]
theorem first_err {l : Bs} {n : Nat} {most : Int} (h : (first l n most).2 ≠ 0) : (first l n most).2 = 22 ∨ (first l n most).2 = 20 := by
  unfold first at h ⊢
  by_cases h1 : most < 0 ∨ most < n
  · rw [if_pos h1]; exact .inl rfl
  · rw [if_neg h1] at h ⊢
    by_cases h2 : l.length < n
    · rw [if_pos h2]; exact .inr rfl
    · rw [if_neg h2] at h; exact absurd rfl h

set_option maxRecDepth 4000 in
set_option maxHeartbeats 1000000 in
theorem readText_any (A : Option Addr) (l : Bs) (c : Nat) (most : Int) (w : World) (h : Byt w A l) (hl : l.length ≤ 9223372036854775807) (hlc : l.length ≤ c) (hm : most ≤ 9223372036854775807) :
    Calls Try.prog 18 #[.slice A l.length c, .int .i64 most] w fun e w' => e = .returned (rtV (rdText l most)) ∧ w = w' := by
  have HN : Hid (∀ w, Byt w A l → Calls Try.prog 16 #[.slice A l.length c] w fun e w' => e = .returned (rdV (rd 0 0 l)) ∧ w = w') := fun w h => readNum_any A l c w h hl
  obtain ⟨_, hok2, hok3, hok4, hok5⟩ := rd_ok l 0 0 (by decide) (by omega)
  have HY := Lib.hid h
  clear h
  obtain ⟨n, k, e, hr⟩ : ∃ n k e, rd 0 0 l = (n, k, e) := ⟨_, _, _, rfl⟩
  rw [hr] at HN hok2 hok3 hok4 hok5
  simp only [rdV] at HN
  by_cases he : e = 0
  · subst he
    have hk := (hok3 rfl).2
    simp only [Nat.zero_add] at hk
    clear hok2 hok3 hok4 hok5
    have hld : (l.drop k).length = l.length - k := List.length_drop ..
    by_cases hf : (first (l.drop k) n most).2 ≠ 0
    · have HR := Lib.hid (rdText_first hr hf)
      have HE := first_err hf
      have HF : Hid (∀ w, Calls Try.prog 27 #[.slice (cutA A c k) (l.length - k) (c - k), .int .u64 n, .int .i64 most] w fun e w' => e = .returned (.tuple #[.slice none 0 0, .int .i64 (first (l.drop k) n most).2]) ∧ w = w') := fun w => by
        have := first_bad (cutA A c k) (l.drop k) (c - k) n most w (by omega) hm hf
        rw [hld] at this
        exact this
      generalize (first (l.drop k) n most).2 = e2 at *
      clear hr hf hld
      rcases HE with rfl | rfl
      all_goals
        go_enter Try.func18, Try.ntmps18
        go_wp2_with fail
        refine (HN.out _ HY.out).mono ?_
        rintro e w' ⟨rfl, rfl⟩
        go_wp2_with (first
          | (refine cut_law rfl (.tmp 21) (.tmp 22) (by rfl) A _ _ (by rfl) k (by rfl) hk ?_)
          | (go_at_call 27; refine (HF.out _).mono ?_; rintro e w' ⟨rfl, rfl⟩))
        go_ret3
        exact ⟨by rw [HR.out]; rfl, rfl⟩
    · have HR := Lib.hid (rdText_good hr (Decidable.not_not.1 hf))
      obtain ⟨h0, h1, h2, _⟩ := first_ok (Decidable.not_not.1 hf)
      have HF : Hid (∀ w, Calls Try.prog 27 #[.slice (cutA A c k) (l.length - k) (c - k), .int .u64 n, .int .i64 most] w fun e w' => e = .returned (.tuple #[.slice (cutA A c k) n (c - k), .int .i64 0]) ∧ w = w') := fun w => by
        have := first_any (cutA A c k) (l.drop k) (c - k) n most w (by omega) (by omega) hm h0 h1 h2
        rw [hld] at this
        exact this
      have hl2 : ((l.drop k).take n).length = n := by rw [List.length_take]; omega
      have hcv := string_of (P := Try.prog) (c := c - k) w 25 9 5 Try.underlying25 Try.underlying5 Try.underlying9 ((HY.out.cut hk hlc).take n)
      rw [hl2] at hcv
      have hsum : IntKind.i64.wrap ((k : Int) + (n : Int)) = (k : Int) + (n : Int) := IntWalk.i64_in _ (by omega)
      have hn : n ≤ l.length := by omega
      clear hr hf hl2 h2 hld
      go_enter Try.func18, Try.ntmps18
      go_wp2_with fail
      refine (HN.out _ HY.out).mono ?_
      rintro e w' ⟨rfl, rfl⟩
      go_wp2_with (first
        | (refine cut_law rfl (.tmp 21) (.tmp 22) (by rfl) A _ _ (by rfl) k (by rfl) hk ?_)
        | (go_at_call 27; refine (HF.out _).mono ?_; rintro e w' ⟨rfl, rfl⟩))
      go_ret3
      exact ⟨by rw [HR.out]; rfl, rfl⟩
  · have HR := Lib.hid (rdText_bad (most := most) hr he)
    clear hr hok2 hok3 hok4
    rcases hok5 with hok5 | hok5 | hok5
    · exact absurd hok5 he
    all_goals
      simp only at hok5
      subst hok5
      clear he
      go_enter Try.func18, Try.ntmps18
      go_wp2_with fail
      refine (HN.out _ HY.out).mono ?_
      rintro e w' ⟨rfl, rfl⟩
      go_wp2
      go_ret3
      exact ⟨by rw [HR.out]; rfl, rfl⟩
end Go.Proofs.Ytjjjbjepgieahaa
