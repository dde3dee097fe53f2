/-

-/
import Derived.Test.YtllpgoaanbiodaaGreatDoorMIns
import Derived.Test.YtllpgoaanbiodaaGreatDoorMQ
set_option maxHeartbeats 1000000
set_option maxRecDepth 8000
namespace Go.Proofs.YtllpgoaanbiodaaGreatDoor.R
open Go.RowKit Go.Proofs.YtllpgoaanbiodaaGreatDoor Go.Proofs.YtllpgoaanbiodaaGreatDoor.T
theorem raw_ne {v : V} (h : isE v = true) (no : Bool) : v.o.raw no ≠ [] := by
 have hk := isE_k h
 rw [o_raw]
 have hz : v.k = 1 ∨ v.k = 2 ∨ v.k = 3 ∨ v.k = 4 ∨ v.k = 5 ∨ v.k = 6 ∨ v.k = 7 ∨ v.k = 8 ∨ v.k = 10 ∨ v.k = 11 ∨ v.k = 12 ∨ v.k = 13 ∨ v.k = 14 ∨ v.k = 15 ∨ v.k = 16 ∨ v.k = 17 ∨ v.k = 18 ∨ v.k = 19 ∨ v.k = 20 ∨ v.k = 21 := by omega
 rcases hz with h | h | h | h | h | h | h | h | h | h | h | h | h | h | h | h | h | h | h | h <;> rw [h] <;> simp [rawN, func]
 split <;> simp
theorem at_ne {v : V} (h : isE v = true) (m : Nat) (no : Bool) : v.o.at m no ≠ [] := by
 unfold O.at
 split
 ·simp
 ·exact raw_ne h no
theorem Wr.nth {w : World} {F : Nat → Prop} {B : Nat} {T : Ts} {b : Bool} {v : Value} (h : Wr w F B T b v) {i : Nat} (hi : i < T.length) : ∃ g c, v = .slice (some ⟨g, 0, none⟩) T.length c ∧ T.length ≤ c ∧ w.cell? ⟨g, i, none⟩ = some (.string T[i]) := by
 rcases h.own.2 with ⟨_, h0⟩ | ⟨g, c, cur, rfl, _, hg, hnc, hmx, hcs, htk⟩
 ·omega
 ·refine ⟨g, c, rfl, hnc, ?_⟩
  rw [Nat.mul_one] at htk
  rw [cell_of_row _ g i cur _ _ hg, ← Array.getElem?_toList, ← List.getElem?_take_of_lt hi, htk]
  simp [hi]
theorem exprSt_b (u : V) (hu : WExpr u) (t0 : ByteArray) (r : Ts) (ht : u.o.at 0 false = t0 :: r) (ht0 : t0 = ⟨#[123]⟩) (x : X) (F : Nat → Prop) (B : Nat) (T : Ts) (vs : Value) (n0 : Nat) (w : World) (hE : Env w F n0) (hx : IsB w n0 u x) (hW : Wr w F B T false vs) (hlim : T.length + (t0 :: r).length + 3 ≤ 8796093020000) :
  Calls Tryz.prog 82 #[.pointer (some ⟨B, 0, none⟩), x.v] w (Adds w F B (T ++ (brack ⟨#[40]⟩ ⟨#[41]⟩ (t0 :: r) ++ [⟨#[59]⟩])) false) := by
 subst ht0
 obtain ⟨k, nm, n, s, ka, kn, kc, la, ln, lc⟩ := x
 simp only [X.v] at *
 obtain ⟨hN, hq⟩ := new1 hE hW #[.int .i64 k, .string nm, .int .i64 n, .string s, .slice ka kn kc, .slice la ln lc] 25
 have HS0 := Lib.hid hN.sit
 have HFIN := Lib.hid hN.fin
 have HQ := Lib.hid (Box.at_ (x := ⟨k, nm, n, s, ka, kn, kc, la, ln, lc⟩) hq)
 have HQG := Lib.hid hq.inF
 have HI0 := Lib.hid (hN.is _ _ hx)
 have HU := Lib.hid hu
 have HTT := Lib.hid ht
 obtain ⟨A0, c0, rfl, hvc, hv0⟩ := hW.form
 have cB := hN.sit.wr.c0
 have HTL := Lib.hid (rfl : T.length = T.length)
 have htl1 : (T.length : Int) ≤ 8796093020000 := by omega
 clear hN hq hE hx hW hu ht hvc hv0
 go_enter Tryz.func82, Tryz.ntmps82
 go_wp2_with fail
 have HZ : Hid ((w.alloc (.cells #[.int .i64 k, .string nm, .int .i64 n, .string s, .slice ka kn kc, .slice la ln lc] 25)).heap.size = w.heap.size + 1) := by
  show _ = _
  simp
 generalize w.alloc (.cells #[.int .i64 k, .string nm, .int .i64 n, .string s, .slice ka kn kc, .slice la ln lc] 25) = w0 at *
 generalize Ex F w.heap.size 1 = G at *
 obtain ⟨HQ_0, HQ_1, HQ_2, HQ_3, HQ_4, HQ_5⟩ := (HQ.out.fr HQG.out HS0.out.fr).six
 go_wp2_with fail
 refine (HU.out 0 ⟨k, nm, n, s, ka, kn, kc, la, ln, lc⟩ G B T false _ n0 w0 HS0.out.env HI0.out HS0.out.wr (by rw [HTT.out]; omega)).mono ?_
 rintro e w1 ⟨rfl, ⟨vs1, hw⟩, hf⟩
 rw [HTT.out] at hw
 have HS1 := Lib.hid (HS0.out.next hw hf)
 obtain ⟨g1, c1, rfl, hc1, hcell⟩ := hw.nth (i := T.length) (by rw [List.length_append, List.length_cons]; omega)
 have hgt : (T ++ ⟨#[123]⟩ :: r)[T.length]'(by rw [List.length_append, List.length_cons]; omega) = ⟨#[123]⟩ := by simp
 rw [hgt] at hcell
 clear hgt
 have cB1 := hw.c0
 have hl1 : (T.length : Int) < ((T ++ ⟨#[123]⟩ :: r).length : Int) := by rw [List.length_append, List.length_cons]; omega
 have hl2 : ((T ++ ⟨#[123]⟩ :: r).length : Int) ≤ 8796093020000 := by rw [List.length_append]; omega
 generalize hT1 : T ++ ⟨#[123]⟩ :: r = T1 at *
 have HT1 := Lib.hid hT1
 clear hw hf HS0 hT1 cB HQ_0 HQ_1 HQ_2 HQ_3 HQ_4 HQ_5
 have hlen1 : T1.length + 2 ≤ 8796093020000 := by
  have := congrArg List.length HT1.out
  rw [List.length_append] at this
  omega
 have htl : T.length < T1.length := by omega
 go_wp2_with fail
 refine (insert_any G B T1 false _ ⟨#[40]⟩ T.length _ 1 w1 HS1.out.env.hF HS1.out.wr htl (by omega) rfl rfl).mono ?_
 rintro e w2 ⟨g2, c2, rfl, hcb, hfb, hw, hf⟩
 have HS2 := Lib.hid (HS1.out.next hw hf)
 have hpl := put1_length T1 T.length ⟨#[40]⟩ (Nat.le_of_lt htl)
 have HPT : Hid (put1 T1 T.length ⟨#[40]⟩ = T ++ ⟨#[40]⟩ :: (⟨#[123]⟩ :: r)) := by
  show _ = _
  rw [← HT1.out]
  unfold put1
  simp
 have hln2 : (put1 T1 T.length ⟨#[40]⟩).length ≤ 8796093019999 := by omega
 generalize put1 T1 T.length ⟨#[40]⟩ = T2 at *
 clear hw hf hpl hcell cB1 hl1 hl2 HS1
 go_wp2_with fail
 refine (add_one G B T2 false _ ⟨#[41]⟩ _ _ HS2.out.env.hF HS2.out.wr (by omega) (by decide) (by simp)).mono ?_
 rintro e w3 ⟨rfl, ⟨vs3, hw⟩, hf⟩
 have HS3 := Lib.hid (HS2.out.next hw hf)
 clear hw hf hcb hfb
 go_wp2_with fail
 refine (add_one G B (T2 ++ [⟨#[41]⟩]) false _ ⟨#[59]⟩ _ _ HS3.out.env.hF HS3.out.wr (by simp; omega) (by decide) (by simp)).mono ?_
 rintro e w4 ⟨rfl, ⟨vs4, hw⟩, hf⟩
 have HS4 := Lib.hid (HS3.out.next hw hf)
 clear hw hf HS3
 go_wp2_with fail
 go_end0
 have hfin := HS4.out.adds
 rw [HPT.out] at hfin
 have e2 : T ++ ⟨#[40]⟩ :: (⟨#[123]⟩ :: r) ++ [⟨#[41]⟩] ++ [⟨#[59]⟩] = T ++ (brack ⟨#[40]⟩ ⟨#[41]⟩ (⟨#[123]⟩ :: r) ++ [⟨#[59]⟩]) := by simp
 rw [e2] at hfin
 exact HFIN.out _ _ _ _ hfin
theorem exprSt_f (u : V) (hu : WExpr u) (t0 : ByteArray) (r : Ts) (ht : u.o.at 0 false = t0 :: r) (ht0 : t0 = ⟨#[102, 117, 110, 99, 116, 105, 111, 110]⟩) (x : X) (F : Nat → Prop) (B : Nat) (T : Ts) (vs : Value) (n0 : Nat) (w : World) (hE : Env w F n0) (hx : IsB w n0 u x) (hW : Wr w F B T false vs) (hlim : T.length + (t0 :: r).length + 3 ≤ 8796093020000) :
  Calls Tryz.prog 82 #[.pointer (some ⟨B, 0, none⟩), x.v] w (Adds w F B (T ++ (brack ⟨#[40]⟩ ⟨#[41]⟩ (t0 :: r) ++ [⟨#[59]⟩])) false) := by
 subst ht0
 obtain ⟨k, nm, n, s, ka, kn, kc, la, ln, lc⟩ := x
 simp only [X.v] at *
 obtain ⟨hN, hq⟩ := new1 hE hW #[.int .i64 k, .string nm, .int .i64 n, .string s, .slice ka kn kc, .slice la ln lc] 25
 have HS0 := Lib.hid hN.sit
 have HFIN := Lib.hid hN.fin
 have HQ := Lib.hid (Box.at_ (x := ⟨k, nm, n, s, ka, kn, kc, la, ln, lc⟩) hq)
 have HQG := Lib.hid hq.inF
 have HI0 := Lib.hid (hN.is _ _ hx)
 have HU := Lib.hid hu
 have HTT := Lib.hid ht
 obtain ⟨A0, c0, rfl, hvc, hv0⟩ := hW.form
 have cB := hN.sit.wr.c0
 have HTL := Lib.hid (rfl : T.length = T.length)
 have htl1 : (T.length : Int) ≤ 8796093020000 := by omega
 clear hN hq hE hx hW hu ht hvc hv0
 go_enter Tryz.func82, Tryz.ntmps82
 go_wp2_with fail
 have HZ : Hid ((w.alloc (.cells #[.int .i64 k, .string nm, .int .i64 n, .string s, .slice ka kn kc, .slice la ln lc] 25)).heap.size = w.heap.size + 1) := by
  show _ = _
  simp
 generalize w.alloc (.cells #[.int .i64 k, .string nm, .int .i64 n, .string s, .slice ka kn kc, .slice la ln lc] 25) = w0 at *
 generalize Ex F w.heap.size 1 = G at *
 obtain ⟨HQ_0, HQ_1, HQ_2, HQ_3, HQ_4, HQ_5⟩ := (HQ.out.fr HQG.out HS0.out.fr).six
 go_wp2_with fail
 refine (HU.out 0 ⟨k, nm, n, s, ka, kn, kc, la, ln, lc⟩ G B T false _ n0 w0 HS0.out.env HI0.out HS0.out.wr (by rw [HTT.out]; omega)).mono ?_
 rintro e w1 ⟨rfl, ⟨vs1, hw⟩, hf⟩
 rw [HTT.out] at hw
 have HS1 := Lib.hid (HS0.out.next hw hf)
 obtain ⟨g1, c1, rfl, hc1, hcell⟩ := hw.nth (i := T.length) (by rw [List.length_append, List.length_cons]; omega)
 have hgt : (T ++ ⟨#[102, 117, 110, 99, 116, 105, 111, 110]⟩ :: r)[T.length]'(by rw [List.length_append, List.length_cons]; omega) = ⟨#[102, 117, 110, 99, 116, 105, 111, 110]⟩ := by simp
 rw [hgt] at hcell
 clear hgt
 have cB1 := hw.c0
 have hl1 : (T.length : Int) < ((T ++ ⟨#[102, 117, 110, 99, 116, 105, 111, 110]⟩ :: r).length : Int) := by rw [List.length_append, List.length_cons]; omega
 have hl2 : ((T ++ ⟨#[102, 117, 110, 99, 116, 105, 111, 110]⟩ :: r).length : Int) ≤ 8796093020000 := by rw [List.length_append]; omega
 generalize hT1 : T ++ ⟨#[102, 117, 110, 99, 116, 105, 111, 110]⟩ :: r = T1 at *
 have HT1 := Lib.hid hT1
 clear hw hf HS0 hT1 cB HQ_0 HQ_1 HQ_2 HQ_3 HQ_4 HQ_5
 have hlen1 : T1.length + 2 ≤ 8796093020000 := by
  have := congrArg List.length HT1.out
  rw [List.length_append] at this
  omega
 have htl : T.length < T1.length := by omega
 go_wp2_with fail
 refine (insert_any G B T1 false _ ⟨#[40]⟩ T.length _ 1 w1 HS1.out.env.hF HS1.out.wr htl (by omega) rfl rfl).mono ?_
 rintro e w2 ⟨g2, c2, rfl, hcb, hfb, hw, hf⟩
 have HS2 := Lib.hid (HS1.out.next hw hf)
 have hpl := put1_length T1 T.length ⟨#[40]⟩ (Nat.le_of_lt htl)
 have HPT : Hid (put1 T1 T.length ⟨#[40]⟩ = T ++ ⟨#[40]⟩ :: (⟨#[102, 117, 110, 99, 116, 105, 111, 110]⟩ :: r)) := by
  show _ = _
  rw [← HT1.out]
  unfold put1
  simp
 have hln2 : (put1 T1 T.length ⟨#[40]⟩).length ≤ 8796093019999 := by omega
 generalize put1 T1 T.length ⟨#[40]⟩ = T2 at *
 clear hw hf hpl hcell cB1 hl1 hl2 HS1
 go_wp2_with fail
 refine (add_one G B T2 false _ ⟨#[41]⟩ _ _ HS2.out.env.hF HS2.out.wr (by omega) (by decide) (by simp)).mono ?_
 rintro e w3 ⟨rfl, ⟨vs3, hw⟩, hf⟩
 have HS3 := Lib.hid (HS2.out.next hw hf)
 clear hw hf hcb hfb
 go_wp2_with fail
 refine (add_one G B (T2 ++ [⟨#[41]⟩]) false _ ⟨#[59]⟩ _ _ HS3.out.env.hF HS3.out.wr (by simp; omega) (by decide) (by simp)).mono ?_
 rintro e w4 ⟨rfl, ⟨vs4, hw⟩, hf⟩
 have HS4 := Lib.hid (HS3.out.next hw hf)
 clear hw hf HS3
 go_wp2_with fail
 go_end0
 have hfin := HS4.out.adds
 rw [HPT.out] at hfin
 have e2 : T ++ ⟨#[40]⟩ :: (⟨#[102, 117, 110, 99, 116, 105, 111, 110]⟩ :: r) ++ [⟨#[41]⟩] ++ [⟨#[59]⟩] = T ++ (brack ⟨#[40]⟩ ⟨#[41]⟩ (⟨#[102, 117, 110, 99, 116, 105, 111, 110]⟩ :: r) ++ [⟨#[59]⟩]) := by simp
 rw [e2] at hfin
 exact HFIN.out _ _ _ _ hfin
theorem exprSt_o (u : V) (hu : WExpr u) (t0 : ByteArray) (r : Ts) (ht : u.o.at 0 false = t0 :: r) (hn1 : ¬ t0 = ⟨#[123]⟩) (hn2 : ¬ t0 = ⟨#[102, 117, 110, 99, 116, 105, 111, 110]⟩) (x : X) (F : Nat → Prop) (B : Nat) (T : Ts) (vs : Value) (n0 : Nat) (w : World) (hE : Env w F n0) (hx : IsB w n0 u x) (hW : Wr w F B T false vs) (hlim : T.length + (t0 :: r).length + 1 ≤ 8796093020000) :
  Calls Tryz.prog 82 #[.pointer (some ⟨B, 0, none⟩), x.v] w (Adds w F B (T ++ ((t0 :: r) ++ [⟨#[59]⟩])) false) := by
 obtain ⟨k, nm, n, s, ka, kn, kc, la, ln, lc⟩ := x
 simp only [X.v] at *
 obtain ⟨hN, hq⟩ := new1 hE hW #[.int .i64 k, .string nm, .int .i64 n, .string s, .slice ka kn kc, .slice la ln lc] 25
 have HS0 := Lib.hid hN.sit
 have HFIN := Lib.hid hN.fin
 have HQ := Lib.hid (Box.at_ (x := ⟨k, nm, n, s, ka, kn, kc, la, ln, lc⟩) hq)
 have HQG := Lib.hid hq.inF
 have HI0 := Lib.hid (hN.is _ _ hx)
 have HU := Lib.hid hu
 have HTT := Lib.hid ht
 obtain ⟨A0, c0, rfl, hvc, hv0⟩ := hW.form
 have cB := hN.sit.wr.c0
 have HTL := Lib.hid (rfl : T.length = T.length)
 have htl1 : (T.length : Int) ≤ 8796093020000 := by omega
 clear hN hq hE hx hW hu ht hvc hv0
 go_enter Tryz.func82, Tryz.ntmps82
 go_wp2_with fail
 have HZ : Hid ((w.alloc (.cells #[.int .i64 k, .string nm, .int .i64 n, .string s, .slice ka kn kc, .slice la ln lc] 25)).heap.size = w.heap.size + 1) := by
  show _ = _
  simp
 generalize w.alloc (.cells #[.int .i64 k, .string nm, .int .i64 n, .string s, .slice ka kn kc, .slice la ln lc] 25) = w0 at *
 generalize Ex F w.heap.size 1 = G at *
 obtain ⟨HQ_0, HQ_1, HQ_2, HQ_3, HQ_4, HQ_5⟩ := (HQ.out.fr HQG.out HS0.out.fr).six
 go_wp2_with fail
 refine (HU.out 0 ⟨k, nm, n, s, ka, kn, kc, la, ln, lc⟩ G B T false _ n0 w0 HS0.out.env HI0.out HS0.out.wr (by rw [HTT.out]; omega)).mono ?_
 rintro e w1 ⟨rfl, ⟨vs1, hw⟩, hf⟩
 rw [HTT.out] at hw
 have HS1 := Lib.hid (HS0.out.next hw hf)
 obtain ⟨g1, c1, rfl, hc1, hcell⟩ := hw.nth (i := T.length) (by rw [List.length_append, List.length_cons]; omega)
 have hgt : (T ++ t0 :: r)[T.length]'(by rw [List.length_append, List.length_cons]; omega) = t0 := by simp
 rw [hgt] at hcell
 clear hgt
 have cB1 := hw.c0
 have hl1 : (T.length : Int) < ((T ++ t0 :: r).length : Int) := by rw [List.length_append, List.length_cons]; omega
 have hl2 : ((T ++ t0 :: r).length : Int) ≤ 8796093020000 := by rw [List.length_append]; omega
 generalize hT1 : T ++ t0 :: r = T1 at *
 have HT1 := Lib.hid hT1
 have hb1 : (t0.toList == [123]) = false := by
  rw [Lib.toList_data, beq_eq_false_iff_ne]
  exact fun e => hn1 (of_bl e)
 have hb2 : (t0.toList == [102, 117, 110, 99, 116, 105, 111, 110]) = false := by
  rw [Lib.toList_data, beq_eq_false_iff_ne]
  exact fun e => hn2 (of_bl e)
 clear hw hf HS0 hT1 cB HQ_0 HQ_1 HQ_2 HQ_3 HQ_4 HQ_5 hn1 hn2
 have hlen1 : T1.length + 1 ≤ 8796093020000 := by
  have := congrArg List.length HT1.out
  rw [List.length_append] at this
  omega
 go_wp2_with fail
 refine (add_one G B T1 false _ ⟨#[59]⟩ _ w1 HS1.out.env.hF HS1.out.wr (by omega) (by decide) (by simp)).mono ?_
 rintro e w4 ⟨rfl, ⟨vs4, hw⟩, hf⟩
 have HS4 := Lib.hid (HS1.out.next hw hf)
 clear hw hf HS1 hcell cB1 hl1 hl2
 go_wp2_with fail
 go_end0
 have hfin := HS4.out.adds
 rw [← HT1.out] at hfin
 have e2 : T ++ t0 :: r ++ [⟨#[59]⟩] = T ++ ((t0 :: r) ++ [⟨#[59]⟩]) := by simp
 rw [e2] at hfin
 exact HFIN.out _ _ _ _ hfin
theorem exprSt_any (u : V) (hu : WExpr u) (he : isE u = true) (x : X) (F : Nat → Prop) (B : Nat) (T : Ts) (vs : Value) (n0 : Nat) (w : World) (hE : Env w F n0) (hx : IsB w n0 u x) (hW : Wr w F B T false vs) (hlim : T.length + (bareT (u.o.at 0 false) ++ ([⟨#[59]⟩] : Ts)).length ≤ 8796093020000) :
  Calls Tryz.prog 82 #[.pointer (some ⟨B, 0, none⟩), x.v] w (Adds w F B (T ++ (bareT (u.o.at 0 false) ++ [⟨#[59]⟩])) false) := by
 obtain ⟨t0, r, ht⟩ : ∃ t0 r, u.o.at 0 false = t0 :: r := by
  cases h : u.o.at 0 false with
  | nil => exact absurd h (at_ne he 0 false)
  | cons a b => exact ⟨a, b, rfl⟩
 rw [ht] at hlim ⊢
 by_cases h1 : t0 = ⟨#[123]⟩
 ·unfold bareT at hlim ⊢
  rw [if_pos (.inl (by rw [h1]; rfl))] at hlim ⊢
  exact exprSt_b u hu t0 r ht h1 x F B T vs n0 w hE hx hW (by simp at hlim ⊢; omega)
 ·by_cases h2 : t0 = ⟨#[102, 117, 110, 99, 116, 105, 111, 110]⟩
  ·unfold bareT at hlim ⊢
   rw [if_pos (.inr (by rw [h2]; rfl))] at hlim ⊢
   exact exprSt_f u hu t0 r ht h2 x F B T vs n0 w hE hx hW (by simp at hlim ⊢; omega)
  ·have hno : ¬ ((t0 :: r).head? = some ⟨#[123]⟩ ∨ (t0 :: r).head? = some ⟨#[102, 117, 110, 99, 116, 105, 111, 110]⟩) := by
    intro h
    rw [List.head?_cons] at h
    rcases h with h | h
    ·injection h with h; exact h1 h
    ·injection h with h; exact h2 h
   unfold bareT at hlim ⊢
   rw [if_neg hno] at hlim ⊢
   exact exprSt_o u hu t0 r ht h1 h2 x F B T vs n0 w hE hx hW (by simp at hlim ⊢; omega)
end Go.Proofs.YtllpgoaanbiodaaGreatDoor.R
