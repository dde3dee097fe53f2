/-
  The reference's Cut, by contract.
-/
import Derived.Test.YtkaamaopjcaalaaDoorN2
import Derived.Test.YtkaamaopjcaalaaDoorO
namespace Go.Proofs.YtkaamaopjcaalaaDoor.T
open Go.RowKit Go.Proofs.YtkaamaopjcaalaaDoor

set_option maxRecDepth 8000 in
set_option maxHeartbeats 2000000 in
theorem refCut_any (s : ByteArray) (w : World) (hs : s.size ≤ 4096) :
    Calls Tryd.prog 15 #[.string s] w (CutR (cutl s.data.toList 0) w) := by
  have h1 : (s.size : Int) ≤ 4096 := by omega
  have H0 := Lib.hid (Sofar.start s.data.toList)
  have HL := Lib.hid (size_list s)
  have HBl := Lib.hid fun p (h : p ≤ s.size) w => blanks_any s p w (by omega) h
  have HOne := Lib.hid fun p c r (h : s.data.toList.drop p = c :: r) w => refOne_any s p w (by omega) (c :: r) c r h rfl
  generalize s.data.toList = L at *
  go_enter Tryd.func15, Tryd.ntmps15
  go_wp2_with fail
  go_loopw [5, 6] (fun vt va wr => ∃ (T : List Tk) (p : Nat), va = .int .i64 p ∧ p ≤ s.size ∧ T.length ≤ p ∧ OwnT wr w.heap.size vt T ∧ Hid (Sofar L T p) ∧ Below w.heap.size w wr)
    (fun _ va _ => s.size + 1 - (intOf va).toNat)
  case atStart => exact ⟨[], 0, rfl, Nat.zero_le _, Nat.zero_le _, OwnT.nil _ _, H0, Below.refl _ _⟩
  case round =>
    obtain ⟨T, p, rfl, hp, hTp, hO, hS, hbw⟩ := hrel
    have HSp := Lib.hid fun w => HBl.out p hp w
    have hlen : (L.drop p).length = s.size - p := by rw [List.length_drop, HL.out]
    obtain ⟨n, c, hsp⟩ : ∃ n c, spc (L.drop p) = (n, c) := ⟨_, _, rfl⟩
    have hn := spc_le (L.drop p)
    rw [hsp, hlen] at hn
    have hn : n ≤ s.size - p := hn
    obtain ⟨fb, hfb⟩ : ∃ fb, fresh (L.drop p) n = fb := ⟨_, rfl⟩
    cases c with
    | false =>
      have HR := Lib.hid (hS.out.opened hsp)
      rw [blV_eq (b := false) hsp rfl rfl] at HSp
      clear hsp hlen hfb hS hn hO
      go_wp2_with fail
      refine (HSp.out _).mono ?_
      rintro e w' ⟨rfl, rfl⟩
      go_wp2_with fail
      go_ret3
      exact cutR_inl HR.out hbw rfl
    | true =>
      rw [blV_eq (b := fb) hsp rfl (by rw [Bool.true_and, hfb])] at HSp
      obtain ⟨q, hq⟩ : ∃ q, q = p + n := ⟨_, rfl⟩
      rw [← hq] at HSp
      by_cases hend : q = s.size
      · have hn2 : n = (L.drop p).length := by omega
        rw [hn2] at hsp
        have hR := hS.out.ended hsp
        rw [← hn2, hfb, ← hq, hend] at hR
        have HR := Lib.hid hR
        rw [hend] at HSp
        clear hsp hlen hfb hS hn hn2 hR hq hend
        go_wp2_with fail
        refine (HSp.out _).mono ?_
        rintro e w' ⟨rfl, rfl⟩
        go_wp2_with (at_builtin; refine app_tok rfl (.tmp 29) (.tmp 33) (by rfl) w.heap.size hbw.size _ T (by rfl) hO _ 1 (endT s.size fb) _ (by rfl) ?g1 rfl ?a1 ?c1 ?_)
        case g1 => rfl
        case a1 => rfl
        case c1 => omega
        intro v3 w3 hO3 hb3
        have hb5 := hbw.trans hb3
        clear hO hb3
        go_wp2_with fail
        go_ret3
        exact cutR_inr HR.out hb5 rfl hO3
      · have hpl : q < s.size := by omega
        have hne : ((q : Int) == (s.size : Int)) = false := by rw [beq_eq_false_iff_ne]; omega
        obtain ⟨x, r, hxr⟩ := drop_cons (l := L) (k := q) (by rw [HL.out]; exact hpl)
        have hdd : (L.drop p).drop n = x :: r := by rw [List.drop_drop, ← hq]; exact hxr
        have HT := Lib.hid fun w => HOne.out q x r hxr w
        have hnl : n < (L.drop p).length := by omega
        cases ho : one (x :: r) with
        | none =>
          rw [ho] at HT
          have hR := hS.out.bad hsp hnl (by rw [hdd]; exact ho)
          rw [← hq] at hR
          have HR := Lib.hid hR
          clear hsp hlen hfb hS hn ho hdd hxr hnl hend hpl hq hR hO
          go_wp2_with fail
          refine (HSp.out _).mono ?_
          rintro e w' ⟨rfl, rfl⟩
          go_wp2_with fail
          refine (HT.out _).mono ?_
          rintro e w3 ⟨hb3, t, k, rfl, hk⟩
          have hk0 : k = 0 := by
            rcases hk with ⟨_, h⟩ | h
            · exact h
            · cases h
          subst hk0
          have hb5 := hbw.trans (hb3.mono hbw.size)
          unfold tV
          clear hb3 hbw hk
          go_wp2_with fail
          go_ret3
          exact cutR_inl HR.out (hb5.trans ((below_alloc _ _).mono hb5.size)) rfl
        | some y =>
          obtain ⟨t, k⟩ := y
          rw [ho] at HT
          have hf := one_form ho
          have hR := hS.out.step hsp hnl (by rw [hdd]; exact ho)
          rw [hfb, ← hq] at hR
          have HR := Lib.hid hR
          have hk0 : ((k : Int) == 0) = false := by rw [beq_eq_false_iff_ne]; omega
          have hkl : q + k ≤ s.size := by
            have : (x :: r).length = s.size - q := by rw [← hxr, List.length_drop, HL.out]
            omega
          have hkpos : 0 < k := hf.1
          have hpq : p ≤ q := by omega
          clear hsp hlen hfb hS hn ho hdd hxr hnl hend hpl hf hR hq
          go_wp2_with fail
          refine (HSp.out _).mono ?_
          rintro e w' ⟨rfl, rfl⟩
          go_wp2_with fail
          refine (HT.out _).mono ?_
          rintro e w3 ⟨hb3, t', k', rfl, hk⟩
          obtain ⟨rfl, rfl⟩ : t = t' ∧ k = k' := by
            rcases hk with ⟨h, _⟩ | h
            · cases h
            · injection h with h
              injection h with h1 h2
              exact ⟨h1, h2⟩
          have hO3 := own_below hO hb3
          have hb5 := hbw.trans (hb3.mono hbw.size)
          unfold tV
          clear hb3 hbw hO hk
          go_wp2_with (at_builtin; refine app_tok rfl (.tmp 48) (.tmp 50) (by rfl) w.heap.size (Nat.le_trans hb5.size (below_alloc _ _).size) _ T (by rfl) (own_below hO3 (below_alloc _ _)) _ 1 (mk t q fb) _ (by rfl) ?g1 rfl ?a1 ?c1 ?_)
          case g1 => simp
          case a1 => rfl
          case c1 => omega
          intro v4 w4 hO4 hb6
          have hb7 := (hb5.trans ((below_alloc w3 _).mono hb5.size)).trans hb6
          have HO4 := Lib.hid hO4
          clear hO3 hb5 hb6 hO4
          go_wp2_with fail
          go_roundw
          case rel => exact ⟨_, q + k, by go_num, hkl, by simp; omega, HO4.out, HR, hb7⟩
          case measure => simp [intOf]; omega
theorem refCut_long (s : ByteArray) (w : World) (hs : 4096 < s.size) :
    Calls Tryd.prog 15 #[.string s] w fun e w' => e = .returned (.tuple #[.slice none 0 0, .int .i64 0, .int .i64 2]) ∧ w = w' := by
  have h1 : 4096 < (s.size : Int) := by omega
  go_enter Tryd.func15, Tryd.ntmps15
  go_wp2_with fail
  go_ret3
  exact ⟨rfl, rfl⟩
end Go.Proofs.YtkaamaopjcaalaaDoor.T
