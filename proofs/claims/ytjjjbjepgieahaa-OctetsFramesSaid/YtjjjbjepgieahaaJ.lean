/-
  The reference's ReadText; live: the chapter's examples, by contract.
-/
import Derived.Test.YtjjjbjepgieahaaI
namespace Go.Proofs.Ytjjjbjepgieahaa
open Go.RowKit

/-- a slice of bytes cut ahead and behind -/
theorem cut2_law {w : World} {ops : Array Oper} {rest : List Oper} {o : Oper} {a : Act} {Q : Exit → Act → World → Prop} (hgd : o.guard = none) (x y z : Operand)
    (ho : o.op = .slice 25 x (some y) (some z) none) (A : Option Addr) (m c : Nat) (hx : a.eval x = .slice A m c) (k n : Nat) (K H : Int) (hy : a.eval y = .int .i64 K) (hz : a.eval z = .int .i64 H)
    (hK : K = k) (hH : H = ((k + n : Nat) : Int)) (hk : k + n ≤ c)
    (h : wpList Try.prog ops Q rest (a.put o.dst (.slice (cutA A c k) n (c - k))) w) : wpList Try.prog ops Q (o :: rest) a w := by
  subst hK
  subst hH
  refine wpList_plain hgd fun K hK => ?_
  have hrun : (Instr.sliceAt 25 (.slice A m c) (some (.int .i64 k)) (some (.int .i64 ((k + n : Nat) : Int))) none).run Try.prog w = .ok (.slice (cutA A c k) n (c - k)) w := by
    rw [run_sliceAt_slice w _ _ _ _ _ und25, run_slice_lh w _ A m c und25 .i64 .i64 k ((k + n : Nat) : Int) (by omega) (by omega) (by omega), size5]
    have e2 : (k : Int).toNat = k := by omega
    have e : (((k + n : Nat) : Int)).toNat - k = n := by omega
    simp only [Result.andThen, sliced, cutA, e2, Nat.mul_one, e]
  unfold Oper.wp
  simp only [execOp, ho, hx, hy, hz, Option.map_some, Option.map_none, hrun, Sem.run_bind, Sem.run_pure, Result.andThen]
  exact hK _ _ h

set_option maxRecDepth 4000 in
set_option maxHeartbeats 1000000 in
theorem refReadText_any (A : Option Addr) (l : Bs) (c : Nat) (most : Int) (w : World) (h : Byt w A l) (hl : l.length ≤ 9223372036854775807) (hlc : l.length ≤ c) (hm : most ≤ 9223372036854775807) :
    Calls Try.prog 19 #[.slice A l.length c, .int .i64 most] w fun e w' => e = .returned (rtV (rdText l most)) ∧ w = w' := by
  have HN : Hid (∀ w, Byt w A l → Calls Try.prog 17 #[.slice A l.length c] w fun e w' => e = .returned (rdV (rd 0 0 l)) ∧ w = w') := fun w h => refReadNum_any A l c w h hl
  obtain ⟨_, hok2, hok3, hok4, hok5⟩ := rd_ok l 0 0 (by decide) (by omega)
  have HY := Lib.hid h
  clear h
  obtain ⟨n, k, e, hr⟩ : ∃ n k e, rd 0 0 l = (n, k, e) := ⟨_, _, _, rfl⟩
  rw [hr] at HN hok2 hok3 hok4 hok5
  simp only [rdV] at HN
  by_cases he : e = 0
  · subst he
    have hk := (hok3 rfl).2
    simp only [Nat.zero_add] at hk
    clear hok2 hok3 hok4 hok5
    have hld : (l.drop k).length = l.length - k := List.length_drop ..
    have hsub : IntKind.i64.wrap ((l.length : Int) - (k : Int)) = (l.length : Int) - (k : Int) := IntWalk.i64_in _ (by omega)
    have hwl : IntKind.u64.wrap ((l.length : Int) - (k : Int)) = (l.length : Int) - (k : Int) := wrap_pos (by omega) (by omega)
    by_cases hb : most < 0 ∨ most < n
    · have hf := first_neg (l := l.drop k) hb
      have HR := Lib.hid (rdText_first (most := most) hr (by rw [hf]; decide))
      rw [hf] at HR
      clear hr hf hld
      by_cases h0 : most < 0
      · clear hb
        go_enter Try.func19, Try.ntmps19
        go_wp2_with fail
        refine (HN.out _ HY.out).mono ?_
        rintro e w' ⟨rfl, rfl⟩
        go_wp2
        go_ret3
        exact ⟨by rw [HR.out]; rfl, rfl⟩
      · have h00 : 0 ≤ most := by omega
        have h1 : most < n := by omega
        have hwm := wrap_pos h00 hm
        clear hb h0
        go_enter Try.func19, Try.ntmps19
        go_wp2_with fail
        refine (HN.out _ HY.out).mono ?_
        rintro e w' ⟨rfl, rfl⟩
        go_wp2
        go_ret3
        exact ⟨by rw [HR.out]; rfl, rfl⟩
    · have h00 : 0 ≤ most := by omega
      have h11 : (n : Int) ≤ most := by omega
      have hwm := wrap_pos h00 hm
      by_cases hs : (l.drop k).length < n
      · have hf := first_short hb hs
        have HR := Lib.hid (rdText_first (most := most) hr (by rw [hf]; decide))
        rw [hf] at HR
        have hs2 : l.length - k < n := by omega
        have hs3 : (l.length : Int) - (k : Int) < n := by omega
        clear hr hf hld hb hs
        go_enter Try.func19, Try.ntmps19
        go_wp2_with fail
        refine (HN.out _ HY.out).mono ?_
        rintro e w' ⟨rfl, rfl⟩
        go_wp2
        go_ret3
        exact ⟨by rw [HR.out]; rfl, rfl⟩
      · have HR := Lib.hid (rdText_good (most := most) hr (by rw [first_good hb hs]))
        have hl2 : ((l.drop k).take n).length = n := by rw [List.length_take]; omega
        have hcv := string_of (P := Try.prog) (c := c - k) w 25 9 5 Try.underlying25 Try.underlying5 Try.underlying9 ((HY.out.cut hk hlc).take n)
        rw [hl2] at hcv
        have hn : k + n ≤ l.length := by omega
        have hn2 : (n : Int) ≤ (l.length : Int) - (k : Int) := by omega
        have hsum : IntKind.i64.wrap ((k : Int) + (n : Int)) = (k : Int) + (n : Int) := IntWalk.i64_in _ (by omega)
        have hni : IntKind.i64.wrap (n : Int) = (n : Int) := IntWalk.i64_in _ (by omega)
        clear hr hl2 hs hld hb
        go_enter Try.func19, Try.ntmps19
        go_wp2_with fail
        refine (HN.out _ HY.out).mono ?_
        rintro e w' ⟨rfl, rfl⟩
        go_wp2_with (refine cut2_law rfl (.tmp 34) (.tmp 35) (.tmp 39) (by rfl) A _ _ (by rfl) k n _ _ (by rfl) (by rfl) rfl (by omega) (by omega) ?_)
        go_ret3
        exact ⟨by rw [HR.out]; rfl, rfl⟩
  · have HR := Lib.hid (rdText_bad (most := most) hr he)
    clear hr hok2 hok3 hok4
    rcases hok5 with hok5 | hok5 | hok5
    · exact absurd hok5 he
    all_goals
      simp only at hok5
      subst hok5
      clear he
      go_enter Try.func19, Try.ntmps19
      go_wp2_with fail
      refine (HN.out _ HY.out).mono ?_
      rintro e w' ⟨rfl, rfl⟩
      go_wp2
      go_ret3
      exact ⟨by rw [HR.out]; rfl, rfl⟩
end Go.Proofs.Ytjjjbjepgieahaa
