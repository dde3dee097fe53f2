/-
  The reference's text, number, has, by contract.
-/
import Derived.Test.YtnkknlhdbhfjlaaRf
namespace Go.Proofs.Ytnkknlhdbhfjlaa
open Go.RowKit

theorem rtV_of {l : Bs} {s : ByteArray} {k : Nat} (h : utx l = (s, k, 0)) : O.rtV (O.rdText l 2147483647) = .tuple #[.string s, .int .i64 k, .int .i64 0] := by
  unfold utx at h
  split at h
  · rename_i h1
    simp only [Prod.mk.injEq] at h
    exact absurd h.2.2 h1
  · rename_i h1
    split at h
    · simp at h
    · simp only [Prod.mk.injEq, and_true] at h
      obtain ⟨rfl, rfl⟩ := h
      simp only [ne_eq, Decidable.not_not] at h1
      unfold O.rtV
      rw [h1]
      rfl
set_option maxRecDepth 4000 in
set_option maxHeartbeats 400000 in
theorem rtext_any (A : Option Addr) (l : Bs) (c : Nat) (w : World) (hB : O.Byt w A l) (hl : l.length ≤ 4194304) (hlc : l.length ≤ c) :
    Calls Try.prog 42 #[.slice A l.length c] w fun e w' => e = .returned (.tuple #[.string (utx l).1, .int .i64 (utx l).2.1, .int .i64 (utx l).2.2]) ∧ w = w' := by
  have HN := Lib.hid (O.refReadText_any A l c 2147483647 w hB (by omega) hlc (by omega))
  by_cases hu : (utx l).2.2 = 0
  · obtain ⟨s, k, hus⟩ : ∃ s k, utx l = (s, k, 0) := ⟨_, _, Prod.ext rfl (Prod.ext rfl hu)⟩
    have hui := utx_inv hu
    rw [hus] at hui ⊢
    simp only at hui ⊢
    rw [rtV_of hus] at HN
    have HC := Lib.hid fun w => refCheck_any s w (by unfold maxLen; omega)
    rw [decide_eq_true hui.2.2.2.2] at HC
    clear hus hu hui hB
    go_enter Try.func42, Try.ntmps42
    go_wp2_with (first
      | (go_at_call 54; refine HN.out.mono ?_; rintro e w' ⟨rfl, rfl⟩)
      | (go_at_call 55; refine (HC.out _).mono ?_; rintro e w' ⟨rfl, rfl⟩))
    go_ret3
    exact ⟨rfl, rfl⟩
  · by_cases h1 : (O.rdText l 2147483647).2.2 = 0
    · have h2 : (O.rdText l 2147483647).1.length % 2 = 1 := by
        unfold utx at hu
        rw [if_neg (by simp [h1])] at hu
        by_cases h2 : (O.rdText l 2147483647).1.length % 2 = 1
        · exact h2
        · rw [if_neg h2] at hu
          exact absurd rfl hu
      have hE : utx l = (⟨#[]⟩, 0, 22) := by
        unfold utx
        rw [if_neg (by simp [h1]), if_pos h2]
      rw [hE]
      simp only
      have hi := rdText_inv h1
      unfold O.rtV at HN
      rw [h1] at HN
      obtain ⟨t, ht⟩ : ∃ t : ByteArray, t = ⟨(O.rdText l 2147483647).1.toArray⟩ := ⟨_, rfl⟩
      have hts : t.size = (O.rdText l 2147483647).1.length := by
        subst ht
        show (O.rdText l 2147483647).1.toArray.size = _
        rw [List.size_toArray]
      rw [← ht] at HN
      have HC := Lib.hid fun w => refCheck_any t w (by unfold maxLen; omega)
      rw [decide_eq_false (by omega)] at HC
      generalize (O.rdText l 2147483647).2.1 = k at *
      clear hB ht hts h1 h2 hi hE hu
      go_enter Try.func42, Try.ntmps42
      go_wp2_with (first
        | (go_at_call 54; refine HN.out.mono ?_; rintro e w' ⟨rfl, rfl⟩)
        | (go_at_call 55; refine (HC.out _).mono ?_; rintro e w' ⟨rfl, rfl⟩))
      go_ret3
      exact ⟨rfl, rfl⟩
    · have hE : utx l = (⟨#[]⟩, 0, (O.rdText l 2147483647).2.2) := by
        unfold utx
        rw [if_pos h1]
      rw [hE]
      simp only
      have hz := rdText_zero h1
      have he := (rdText_err l 2147483647).resolve_left h1
      unfold O.rtV at HN
      rw [hz.1, hz.2] at HN
      generalize (O.rdText l 2147483647).2.2 = q at *
      clear hB hz h1 hE hu
      rcases he with rfl | rfl
      · go_enter Try.func42, Try.ntmps42
        go_wp2_with (go_at_call 54; refine HN.out.mono ?_; rintro e w' ⟨rfl, rfl⟩)
        go_ret3
        exact ⟨rfl, rfl⟩
      · go_enter Try.func42, Try.ntmps42
        go_wp2_with (go_at_call 54; refine HN.out.mono ?_; rintro e w' ⟨rfl, rfl⟩)
        go_ret3
        exact ⟨rfl, rfl⟩
theorem str_yes (a : ByteArray) : (a.toList == a.toList) = true := by simp
theorem hasKey_take_succ (ks : List ByteArray) (s : ByteArray) (j : Nat) (h : j < ks.length) : hasKey (ks.take (j + 1)) s = (hasKey (ks.take j) s || decide (ks[j] = s)) := by
  unfold hasKey
  rw [snoc_get ks j h, List.any_append]
  simp
set_option maxRecDepth 4000 in
set_option maxHeartbeats 400000 in
theorem has_any (A : Option Addr) (ks : List ByteArray) (c : Nat) (s : ByteArray) (w : World) (h : Strs w A ks) (hk : ks.length ≤ 4194304) :
    Calls Try.prog 56 #[.slice A ks.length c, .string s] w fun e w' => e = .returned (.bool (hasKey ks s)) ∧ w = w' := by
  go_enter Try.func56, Try.ntmps56
  go_wp2_with fail
  go_loopw [9] (fun i wr => ∃ j : Nat, j ≤ ks.length ∧ i = .int .i64 j ∧ w = wr ∧ Hid (hasKey (ks.take j) s = false))
    (fun i _ => ks.length - (intOf i).toNat)
  case atStart => exact ⟨0, Nat.zero_le _, rfl, rfl, rfl⟩
  case round =>
    obtain ⟨j, hj, rfl, rfl, hh⟩ := hrel
    by_cases hlt : j < ks.length
    · obtain ⟨g, o, rfl, hg, hc⟩ := h.at_ hlt
      have HS := Lib.hid (hasKey_take_succ ks s j hlt)
      have HM : Hid (ks[j] = s → hasKey ks s = true) := fun e => hasKey_iff.2 (by rw [← e]; exact List.getElem_mem hlt)
      generalize ks[j] = y at *
      by_cases he : y = s
      · have HV := Lib.hid (HM.out he)
        subst he
        have hb := str_yes y
        clear HM HS
        go_wp2_with fail
        go_ret
        exact ⟨by rw [HV.out]; rfl, rfl⟩
      · have hb := str_ne he
        have HN : Hid (hasKey (ks.take (j + 1)) s = false) := by
          show _ = _
          rw [HS.out, hh.out, decide_eq_false he]
          rfl
        clear HM HS he
        go_wp2_with fail
        go_roundw
        case rel => exact ⟨j + 1, by omega, by go_num, trivial, HN⟩
        case measure => simp [intOf]; omega
    · obtain rfl : j = ks.length := by omega
      rw [List.take_length] at hh
      go_wp2_with fail
      go_ret
      exact ⟨by rw [hh.out]; rfl, rfl⟩

theorem old_row (w : World) (a b : Obj) : ((w.alloc a).alloc b).heap[w.heap.size]? = some a := (Below.heap_alloc _ _ _ (by simp)).trans (hp_new rfl)

set_option maxRecDepth 4000 in
set_option maxHeartbeats 1000000 in
theorem number_4 (A : Option Addr) (l : Bs) (c : Nat) (w : World) (hB : O.Byt w A l) (hl : l.length ≤ 4194304) :
    Calls Try.prog 41 #[.int .u8 4, .slice A l.length c] w (PostR w (decNum 4 l)) := by
  obtain ⟨i5, hi5, hz5, hs5, hb5⟩ := info_parts infoData
  have HN := Lib.hid fun w' (hb : Below w.heap.size w w') => O.refReadNum_any A l c w' (hB.below hb) (by omega)
  by_cases he : (O.rd 0 0 l).2.2 = 0
  · obtain ⟨n, k0, hr⟩ : ∃ n k0, O.rd 0 0 l = (n, k0, 0) := ⟨_, _, Prod.ext rfl (Prod.ext rfl he)⟩
    have hn64 := (rd_take hr).2.2.2
    rw [hr] at HN
    simp only [O.rdV] at HN
    by_cases hn : n ≤ 9007199254740991
    · have hw := wrap_safe (n := n) (by omega)
      have hm : IntKind.i64.wrap (-1 - (n : Int)) = -1 - (n : Int) := IntWalk.i64_in _ (by omega)
      have h1 : ¬ (9007199254740991 : Int) < (n : Int) := by omega
      have h2 : ¬ (9007199254740991 : Int) < (n : Int) := by omega
      have HD : Hid (decNum 4 l = .good (.mk 3 (n : Int) ⟨#[]⟩ [] []) k0) := by
        unfold decNum
        rw [hr, if_neg (by simp), if_neg (by intro e; rcases e with e | ⟨e, _⟩; omega; exact absurd e (by decide)), if_neg (by decide)]
        exact Lib.hid rfl
      rw [HD.out]
      clear he hr hn64 hB hn
      go_enter Try.func41, Try.ntmps41
      go_wp2_with (go_at_call 53; refine (HN.out _ (below_alloc _ _)).mono ?_; rintro e w' ⟨rfl, rfl⟩)
      refine bodyPost_ret (res_ctt rfl _ _ w.heap.size 25 _ (0, 0) _ rfl (old_row _ _ _) Try.underlying25 rfl (by rw [hi5]; simp [hs5])) rfl ?_
      exact ⟨⟨3, (n : Int), ⟨#[]⟩, none, 0, 0, none, 0, 0⟩, rfl, isP_plain _ _ _ _ _, below2d _ _ _⟩
    · have h1 : (9007199254740991 : Int) < (n : Int) := by omega
      have HD : Hid (decNum 4 l = .bad 22) := by
        unfold decNum
        rw [hr, if_neg (by simp), if_pos (by first | exact .inl (by omega) | exact .inr ⟨rfl, by omega⟩)]
        exact Lib.hid rfl
      rw [HD.out]
      clear he hr hn64 hB hn

      go_enter Try.func41, Try.ntmps41
      go_wp2_with (go_at_call 53; refine (HN.out _ (below_alloc _ _)).mono ?_; rintro e w' ⟨rfl, rfl⟩)
      refine bodyPost_ret (res_ctt rfl _ _ w.heap.size 25 _ (0, 0) _ rfl (hp_new rfl) Try.underlying25 rfl (by rw [hi5]; simp [hs5])) rfl ?_
      exact ⟨rfl, below_alloc _ _⟩
  · have hbad := rd_bad0 he
    have hr : O.rd 0 0 l = (0, 0, (O.rd 0 0 l).2.2) := Prod.ext hbad.1 (Prod.ext hbad.2 rfl)
    have hq := (rd_err l).resolve_left he
    have HD : Hid (decNum 4 l = .bad (O.rd 0 0 l).2.2) := by
      unfold decNum
      rw [if_pos he]
      exact Lib.hid rfl
    rw [HD.out]
    rw [hr] at HN
    simp only [O.rdV] at HN
    generalize (O.rd 0 0 l).2.2 = q at *
    clear he hr hB hbad HD
    rcases hq with rfl | rfl
    · go_enter Try.func41, Try.ntmps41
      go_wp2_with (go_at_call 53; refine (HN.out _ (below_alloc _ _)).mono ?_; rintro e w' ⟨rfl, rfl⟩)
      refine bodyPost_ret (res_ctt rfl _ _ w.heap.size 25 _ (0, 0) _ rfl (hp_new rfl) Try.underlying25 rfl (by rw [hi5]; simp [hs5])) rfl ?_
      exact ⟨rfl, below_alloc _ _⟩
    · go_enter Try.func41, Try.ntmps41
      go_wp2_with (go_at_call 53; refine (HN.out _ (below_alloc _ _)).mono ?_; rintro e w' ⟨rfl, rfl⟩)
      refine bodyPost_ret (res_ctt rfl _ _ w.heap.size 25 _ (0, 0) _ rfl (hp_new rfl) Try.underlying25 rfl (by rw [hi5]; simp [hs5])) rfl ?_
      exact ⟨rfl, below_alloc _ _⟩

set_option maxRecDepth 4000 in
set_option maxHeartbeats 1000000 in
theorem number_5 (A : Option Addr) (l : Bs) (c : Nat) (w : World) (hB : O.Byt w A l) (hl : l.length ≤ 4194304) :
    Calls Try.prog 41 #[.int .u8 5, .slice A l.length c] w (PostR w (decNum 5 l)) := by
  obtain ⟨i5, hi5, hz5, hs5, hb5⟩ := info_parts infoData
  have HN := Lib.hid fun w' (hb : Below w.heap.size w w') => O.refReadNum_any A l c w' (hB.below hb) (by omega)
  by_cases he : (O.rd 0 0 l).2.2 = 0
  · obtain ⟨n, k0, hr⟩ : ∃ n k0, O.rd 0 0 l = (n, k0, 0) := ⟨_, _, Prod.ext rfl (Prod.ext rfl he)⟩
    have hn64 := (rd_take hr).2.2.2
    rw [hr] at HN
    simp only [O.rdV] at HN
    by_cases hn : n ≤ 9007199254740990
    · have hw := wrap_safe (n := n) (by omega)
      have hm : IntKind.i64.wrap (-1 - (n : Int)) = -1 - (n : Int) := IntWalk.i64_in _ (by omega)
      have h1 : ¬ (9007199254740991 : Int) < (n : Int) := by omega
      have h2 : ¬ (9007199254740990 : Int) < (n : Int) := by omega
      have HD : Hid (decNum 5 l = .good (.mk 3 (-1 - (n : Int)) ⟨#[]⟩ [] []) k0) := by
        unfold decNum
        rw [hr, if_neg (by simp), if_neg (by omega), if_pos rfl]
        exact Lib.hid rfl
      rw [HD.out]
      clear he hr hn64 hB hn
      go_enter Try.func41, Try.ntmps41
      go_wp2_with (go_at_call 53; refine (HN.out _ (below_alloc _ _)).mono ?_; rintro e w' ⟨rfl, rfl⟩)
      refine bodyPost_ret (res_ctt rfl _ _ w.heap.size 25 _ (0, 0) _ rfl (old_row _ _ _) Try.underlying25 rfl (by rw [hi5]; simp [hs5])) rfl ?_
      exact ⟨⟨3, (-1 - (n : Int)), ⟨#[]⟩, none, 0, 0, none, 0, 0⟩, rfl, isP_plain _ _ _ _ _, below2d _ _ _⟩
    · have h1 : (9007199254740990 : Int) < (n : Int) := by omega
      have HD : Hid (decNum 5 l = .bad 22) := by
        unfold decNum
        rw [hr, if_neg (by simp), if_pos (by first | exact .inl (by omega) | exact .inr ⟨rfl, by omega⟩)]
        exact Lib.hid rfl
      rw [HD.out]
      clear he hr hn64 hB hn
      by_cases h0 : (9007199254740991 : Int) < (n : Int)
      · go_enter Try.func41, Try.ntmps41
        go_wp2_with (go_at_call 53; refine (HN.out _ (below_alloc _ _)).mono ?_; rintro e w' ⟨rfl, rfl⟩)
        refine bodyPost_ret (res_ctt rfl _ _ w.heap.size 25 _ (0, 0) _ rfl (hp_new rfl) Try.underlying25 rfl (by rw [hi5]; simp [hs5])) rfl ?_
        exact ⟨rfl, below_alloc _ _⟩
      · go_enter Try.func41, Try.ntmps41
        go_wp2_with (go_at_call 53; refine (HN.out _ (below_alloc _ _)).mono ?_; rintro e w' ⟨rfl, rfl⟩)
        refine bodyPost_ret (res_ctt rfl _ _ w.heap.size 25 _ (0, 0) _ rfl (hp_new rfl) Try.underlying25 rfl (by rw [hi5]; simp [hs5])) rfl ?_
        exact ⟨rfl, below_alloc _ _⟩
  · have hbad := rd_bad0 he
    have hr : O.rd 0 0 l = (0, 0, (O.rd 0 0 l).2.2) := Prod.ext hbad.1 (Prod.ext hbad.2 rfl)
    have hq := (rd_err l).resolve_left he
    have HD : Hid (decNum 5 l = .bad (O.rd 0 0 l).2.2) := by
      unfold decNum
      rw [if_pos he]
      exact Lib.hid rfl
    rw [HD.out]
    rw [hr] at HN
    simp only [O.rdV] at HN
    generalize (O.rd 0 0 l).2.2 = q at *
    clear he hr hB hbad HD
    rcases hq with rfl | rfl
    · go_enter Try.func41, Try.ntmps41
      go_wp2_with (go_at_call 53; refine (HN.out _ (below_alloc _ _)).mono ?_; rintro e w' ⟨rfl, rfl⟩)
      refine bodyPost_ret (res_ctt rfl _ _ w.heap.size 25 _ (0, 0) _ rfl (hp_new rfl) Try.underlying25 rfl (by rw [hi5]; simp [hs5])) rfl ?_
      exact ⟨rfl, below_alloc _ _⟩
    · go_enter Try.func41, Try.ntmps41
      go_wp2_with (go_at_call 53; refine (HN.out _ (below_alloc _ _)).mono ?_; rintro e w' ⟨rfl, rfl⟩)
      refine bodyPost_ret (res_ctt rfl _ _ w.heap.size 25 _ (0, 0) _ rfl (hp_new rfl) Try.underlying25 rfl (by rw [hi5]; simp [hs5])) rfl ?_
      exact ⟨rfl, below_alloc _ _⟩
end Go.Proofs.Ytnkknlhdbhfjlaa
