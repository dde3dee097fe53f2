/-
  The reference: has, bad, twice, isLoop, target.
-/
import Derived.Test.YtgehgccgologpaaZp
namespace Go.Proofs.Ytgehgccgologpaa.Z
open Go.RowKit Go.Shelf Go.Proofs.Ytgehgccgologpaa Go.Proofs.Ytgehgccgologpaa.R Go.Proofs.Ytgehgccgologpaa.T

theorem strs_take {w : World} {B : Nat} {A : Option Addr} {L : List ByteArray} (h : StrsB w B A L) (k : Nat) : StrsB w B A (L.take k) := by
  rcases h with rfl | ⟨g, o, rfl, hg, hc⟩
  · exact .inl (by simp)
  · refine .inr ⟨g, o, rfl, hg, fun j hj => ?_⟩
    rw [List.getElem_take]
    exact hc j _
theorem hasB_at {L : List ByteArray} {s : ByteArray} {k : Nat} (hk : k < L.length) (h : L[k] = s) : hasB L s = true := (hasB_iff _ _).2 (by rw [← h]; exact List.getElem_mem hk)
theorem hasB_no {L : List ByteArray} {s : ByteArray} (h : ∀ j (hj : j < L.length), ¬ L[j] = s) : hasB L s = false := by
  rw [Bool.eq_false_iff]
  intro e
  obtain ⟨j, hj, he⟩ := List.getElem_of_mem ((hasB_iff _ _).1 e)
  exact h j hj he
set_option maxRecDepth 8000 in
theorem has_any (L : List ByteArray) (A : Option Addr) (n c : Nat) (s : ByteArray) (w : World) (hA : Strs w A L) (hn : n = L.length) (hl : n ≤ 4194304) :
    Calls Try.prog 33 #[.slice A n c, .string s] w fun e w' => e = .returned (.bool (hasB L s)) ∧ w = w' := by
  subst hn
  have HA := Lib.hid hA
  have hli : (L.length : Int) ≤ 4194304 := by omega
  clear hA
  go_enter Try.func33, Try.ntmps33
  go_wp2_with fail
  go_loop [9] (fun i => ∃ k : Nat, k ≤ L.length ∧ i = .int .i64 k ∧ Hid (∀ j (h : j < k) (h1 : j < L.length), ¬ L[j] = s)) (fun i => L.length - (intOf i).toNat)
  case atStart => exact ⟨0, Nat.zero_le _, rfl, Lib.hid fun j h => absurd h (Nat.not_lt_zero _)⟩
  case round =>
    obtain ⟨k, hk, rfl, hno⟩ := hrel
    by_cases hlt : k < L.length
    · obtain ⟨g, o, rfl, hg, c1⟩ := HA.out.at_ hlt
      have HY := Lib.hid (hasB_at (s := s) hlt)
      have HN : Hid (¬ L[k] = s → ∀ j (h : j < k + 1) (h1 : j < L.length), ¬ L[j] = s) := fun e j hj h1 => by
        by_cases hjk : j = k
        · subst hjk; exact e
        · exact hno.out j (by omega) h1
      have hd := (str_dec L[k] s).symm
      by_cases he : L[k] = s
      · have HYE := Lib.hid (HY.out he)
        rw [decide_eq_true he] at hd
        clear HY HN he
        generalize L[k] = t at *
        go_wp2_with fail
        go_ret
        exact ⟨by rw [HYE.out]; rfl, rfl⟩
      · have HNE := Lib.hid (HN.out he)
        rw [decide_eq_false he] at hd
        clear HY HN he
        generalize L[k] = t at *
        go_wp2_with fail
        go_round
        case rel => exact ⟨k + 1, hlt, by go_num, HNE⟩
        case measure => simp [intOf]; omega
    · obtain rfl : k = L.length := by omega
      have HNE := Lib.hid (hasB_no fun j hj => hno.out j hj hj)
      go_wp2_with fail
      go_ret
      exact ⟨by rw [HNE.out]; rfl, rfl⟩
set_option maxRecDepth 4000 in
theorem bad_any (s : ByteArray) (w : World) : Calls Try.prog 71 #[.string s] w fun e w' => e = .returned (.bool (bar s)) ∧ w = w' := by
  have HB := Lib.hid (bar_iff s)
  generalize bar s = b at *
  cases e1 : (s.toList == [101, 118, 97, 108]) with
  | true =>
    rw [e1] at HB
    go_enter Try.func71, Try.ntmps71
    go_wp2
    go_ret
    exact ⟨ret_b HB.out.symm, rfl⟩
  | false =>
    rw [e1] at HB
    cases e2 : (s.toList == [97, 114, 103, 117, 109, 101, 110, 116, 115]) with
    | true =>
      rw [e2] at HB
      go_enter Try.func71, Try.ntmps71
      go_wp2
      go_ret
      exact ⟨ret_b HB.out.symm, rfl⟩
    | false =>
      rw [e2] at HB
      go_enter Try.func71, Try.ntmps71
      go_wp2
      go_ret
      exact ⟨ret_b HB.out.symm, rfl⟩
theorem dup_at {L : List ByteArray} {k : Nat} (hk : k < L.length) (h : hasB (L.take k) L[k] = true) : dup L = true := by
  have hm := (hasB_iff _ _).1 h
  obtain ⟨j, hj, he⟩ := List.getElem_of_mem hm
  rw [List.length_take] at hj
  rw [List.getElem_take] at he
  unfold dup
  rw [Bool.not_eq_true', decide_eq_false_iff_not]
  intro hn
  exact absurd ((List.getElem_inj hn).1 he) (by omega)
theorem nodup_next {L : List ByteArray} {k : Nat} (hk : k < L.length) (h : (L.take k).Nodup) (hh : hasB (L.take k) L[k] = false) : (L.take (k + 1)).Nodup := by
  rw [List.take_succ_eq_append_getElem hk]
  exact List.nodup_append.2 ⟨h, by simp, fun a ha b hb e => by simp at hb; subst hb; subst e; rw [(hasB_iff _ _).2 ha] at hh; cases hh⟩
set_option maxRecDepth 8000 in
theorem twice_any (L : List ByteArray) (A : Option Addr) (n c : Nat) (w : World) (hA : Strs w A L) (hn : n = L.length) (hl : n ≤ 4194304) (hc : n ≤ c) :
    Calls Try.prog 72 #[.slice A n c] w fun e w' => e = .returned (.bool (dup L)) ∧ w = w' := by
  subst hn
  have HA := Lib.hid hA
  have hli : (L.length : Int) ≤ 4194304 := by omega
  have hci : (L.length : Int) ≤ c := by omega
  clear hA
  go_enter Try.func72, Try.ntmps72
  go_wp2_with fail
  go_loop [7] (fun i => ∃ k : Nat, k ≤ L.length ∧ i = .int .i64 k ∧ Hid ((L.take k).Nodup)) (fun i => L.length - (intOf i).toNat)
  case atStart => exact ⟨0, Nat.zero_le _, rfl, Lib.hid (by simp)⟩
  case round =>
    obtain ⟨k, hk, rfl, hno⟩ := hrel
    by_cases hlt : k < L.length
    · obtain ⟨g, o, rfl, hg, c1⟩ := HA.out.at_ hlt
      have HY := Lib.hid (dup_at hlt)
      have HN := Lib.hid (nodup_next hlt hno.out)
      have HC := Lib.hid (has_any (L.take k) (some ⟨g, o, none⟩) k c L[k] w (strs_take HA.out k) (by rw [List.length_take]; omega) (by omega))
      have hki : (k : Int) ≤ c := by omega
      generalize L[k] = t at *
      cases hh : hasB (L.take k) t with
      | true =>
        rw [hh] at HC HY
        have HYE := Lib.hid (HY.out rfl)
        clear HY HN hh
        go_wp2_with fail
        refine HC.out.mono ?_
        rintro e w1 ⟨rfl, rfl⟩
        go_wp2_with fail
        go_ret
        exact ⟨by rw [HYE.out]; rfl, rfl⟩
      | false =>
        rw [hh] at HC HN
        have HNE := Lib.hid (HN.out rfl)
        clear HY HN hh
        go_wp2_with fail
        refine HC.out.mono ?_
        rintro e w1 ⟨rfl, rfl⟩
        go_wp2_with fail
        go_round
        case rel => exact ⟨k + 1, hlt, by go_num, HNE⟩
        case measure => simp [intOf]; omega
    · obtain rfl : k = L.length := by omega
      rw [List.take_length] at hno
      have HNE : Hid (dup L = false) := by
        show _ = _
        unfold dup
        rw [decide_eq_true hno.out]
        rfl
      go_wp2_with fail
      go_ret
      exact ⟨by rw [HNE.out]; rfl, rfl⟩
set_option maxRecDepth 4000 in
theorem rLoop_x (x : X) (w : World) : Calls Try.prog 74 #[x.v] w (AnsB w (kLp x.k)) := by
  have HB := Lib.hid (below_alloc w)
  obtain ⟨k, nm, n, s, ka, kn, kc, la, ln, lc⟩ := x
  simp only [X.v]
  have HK : Hid (∀ h : k = 27 ∨ k = 28 ∨ k = 29 ∨ k = 30, kLp k = true) := fun h => decide_eq_true h
  have HN : Hid (∀ h : ¬ (k = 27 ∨ k = 28 ∨ k = 29 ∨ k = 30), kLp k = false) := fun h => decide_eq_false h
  generalize kLp k = b at *
  by_cases h1 : k = 27
  · have HE := Lib.hid (HK.out (.inl h1))
    subst h1
    clear HK HN
    go_enter Try.func74, Try.ntmps74
    go_wp2
    go_ret
    exact ⟨ret_b HE.out.symm, HB.out _⟩
  by_cases h2 : k = 28
  · have HE := Lib.hid (HK.out (.inr (.inl h2)))
    subst h2
    clear HK HN
    go_enter Try.func74, Try.ntmps74
    go_wp2
    go_ret
    exact ⟨ret_b HE.out.symm, HB.out _⟩
  by_cases h3 : k = 29
  · have HE := Lib.hid (HK.out (.inr (.inr (.inl h3))))
    subst h3
    clear HK HN
    go_enter Try.func74, Try.ntmps74
    go_wp2
    go_ret
    exact ⟨ret_b HE.out.symm, HB.out _⟩
  by_cases h4 : k = 30
  · have HE := Lib.hid (HK.out (.inr (.inr (.inr h4))))
    subst h4
    clear HK HN
    go_enter Try.func74, Try.ntmps74
    go_wp2
    go_ret
    exact ⟨ret_b HE.out.symm, HB.out _⟩
  · have HE := Lib.hid (HN.out (by omega))
    have e1 := beqF h1
    have e2 := beqF h2
    have e3 := beqF h3
    have e4 := beqF h4
    clear HK HN h1 h2 h3 h4
    go_enter Try.func74, Try.ntmps74
    go_wp2
    go_ret
    exact ⟨ret_b HE.out.symm, HB.out _⟩
set_option maxRecDepth 4000 in
theorem target_x (x : X) (w : World) : Calls Try.prog 73 #[x.v] w (AnsB w (decide (x.k = 3) && bar x.nm)) := by
  have HB := Lib.hid (below_alloc w)
  obtain ⟨k, nm, n, s, ka, kn, kc, la, ln, lc⟩ := x
  simp only [X.v]
  have HC := Lib.hid fun w' => bad_any nm w'
  by_cases h1 : k = 3
  · subst h1
    go_enter Try.func73, Try.ntmps73
    go_wp2_with fail
    refine (HC.out _).mono ?_
    rintro e w1 ⟨rfl, rfl⟩
    go_wp2_with fail
    go_ret
    exact ⟨rfl, HB.out _⟩
  · rw [decide_eq_false h1]
    have e1 := beqF h1
    clear h1
    go_enter Try.func73, Try.ntmps73
    go_wp2_with fail
    go_ret
    exact ⟨rfl, HB.out _⟩
end Go.Proofs.Ytgehgccgologpaa.Z
