/-

-/
import Derived.Test.YtllpgoaanbiodaaGreatDoorMR
import Derived.Test.YtllpgoaanbiodaaGreatDoorMQ
set_option maxHeartbeats 2000000
set_option maxRecDepth 8000
namespace Go.Proofs.YtllpgoaanbiodaaGreatDoor.R
open Go.RowKit Go.Proofs.YtllpgoaanbiodaaGreatDoor Go.Proofs.YtllpgoaanbiodaaGreatDoor.T
theorem Sit.isUp {w3 wi : World} {G : Nat → Prop} {n0 B : Nat} {T : Ts} {b : Bool} {vs : Value} (h : Sit w3 G n0 B T b vs wi) {v : V} {x : X} (hx : IsB w3 n0 v x) : Is wi v x := IsB.to (Below.refl _ _) h.env.le v x (h.is hx)
def caseT (u : V) : Ts := if u.k = 42 then [⟨#[100, 101, 102, 97, 117, 108, 116]⟩, ⟨#[58]⟩] else brack ⟨#[99, 97, 115, 101]⟩ ⟨#[58]⟩ (u.o.at 0 false)
theorem caseHead_e (u : V) (hk : u.k = 42) : Writes0 88 u (caseT u) := by
 intro x F B T vs n0 w hE hx hW hlim
 have hc : caseT u = [⟨#[100, 101, 102, 97, 117, 108, 116]⟩, ⟨#[58]⟩] := if_pos hk
 rw [hc] at hlim ⊢
 clear hc
 have hp : isK 42 u = true := decide_eq_true hk
 obtain ⟨k, nm, n, s, ka, kn, kc, la, ln, lc⟩ := x
 simp only [X.v] at *
 obtain ⟨hN, hq⟩ := new1 hE hW #[.int .i64 k, .string nm, .int .i64 n, .string s, .slice ka kn kc, .slice la ln lc] 25
 have HS0 := Lib.hid hN.sit
 have HFIN := Lib.hid hN.fin
 have HQ := Lib.hid (Box.at_ (x := ⟨k, nm, n, s, ka, kn, kc, la, ln, lc⟩) hq)
 have HQG := Lib.hid hq.inF
 have HI0 := Lib.hid (hN.is _ _ hx)
 have HP := Lib.hid fun w' (h : Is w' u ⟨k, nm, n, s, ka, kn, kc, la, ln, lc⟩) => isEmpty_any u _ w' h
 rw [hp] at HP
 clear hN hq hE hx hW hk hp
 go_enter Tryz.func88, Tryz.ntmps88
 go_wp2_with fail
 have HZ : Hid ((w.alloc (.cells #[.int .i64 k, .string nm, .int .i64 n, .string s, .slice ka kn kc, .slice la ln lc] 25)).heap.size = w.heap.size + 1) := by
  show _ = _
  simp
 generalize w.alloc (.cells #[.int .i64 k, .string nm, .int .i64 n, .string s, .slice ka kn kc, .slice la ln lc] 25) = w0 at *
 generalize Ex F w.heap.size 1 = G at *
 obtain ⟨HQ_0, HQ_1, HQ_2, HQ_3, HQ_4, HQ_5⟩ := (HQ.out.fr HQG.out HS0.out.fr).six
 go_wp2_with fail
 refine (HP.out _ (HS0.out.isUp HI0.out)).mono ?_
 rintro e w1 ⟨rfl, hb1⟩
 have HS1 := Lib.hid (HS0.out.below hb1)
 clear hb1 HS0 HQ_0 HQ_1 HQ_2 HQ_3 HQ_4 HQ_5
 obtain ⟨HQ_0, HQ_1, HQ_2, HQ_3, HQ_4, HQ_5⟩ := (HQ.out.fr HQG.out HS1.out.fr).six
 go_wp2_with fail
 refine (add_two G B T false vs ⟨#[100, 101, 102, 97, 117, 108, 116]⟩ ⟨#[58]⟩ _ w1 HS1.out.env.hF HS1.out.wr (by (try simp at hlim); (try simp); omega) (by decide) (by simp)).mono ?_
 rintro e w2 ⟨rfl, ⟨vs2, hw⟩, hf⟩
 have HS2 := Lib.hid (HS1.out.next hw hf)
 clear hw hf HS1 HQ_0 HQ_1 HQ_2 HQ_3 HQ_4 HQ_5
 go_wp2_with fail
 go_end0
 exact HFIN.out _ _ _ _ HS2.out.adds
theorem caseHead_x (u : V) (hk : ¬ u.k = 42) (hu : WExpr u) : Writes0 88 u (caseT u) := by
 intro x F B T vs n0 w hE hx hW hlim
 have hc : caseT u = brack ⟨#[99, 97, 115, 101]⟩ ⟨#[58]⟩ (u.o.at 0 false) := if_neg hk
 rw [hc] at hlim ⊢
 clear hc
 have hp : isK 42 u = false := decide_eq_false hk
 obtain ⟨k, nm, n, s, ka, kn, kc, la, ln, lc⟩ := x
 simp only [X.v] at *
 obtain ⟨hN, hq⟩ := new1 hE hW #[.int .i64 k, .string nm, .int .i64 n, .string s, .slice ka kn kc, .slice la ln lc] 25
 have HS0 := Lib.hid hN.sit
 have HFIN := Lib.hid hN.fin
 have HQ := Lib.hid (Box.at_ (x := ⟨k, nm, n, s, ka, kn, kc, la, ln, lc⟩) hq)
 have HQG := Lib.hid hq.inF
 have HI0 := Lib.hid (hN.is _ _ hx)
 have HP := Lib.hid fun w' (h : Is w' u ⟨k, nm, n, s, ka, kn, kc, la, ln, lc⟩) => isEmpty_any u _ w' h
 rw [hp] at HP
 have HU := Lib.hid hu
 clear hN hq hE hx hW hk hp hu
 go_enter Tryz.func88, Tryz.ntmps88
 go_wp2_with fail
 have HZ : Hid ((w.alloc (.cells #[.int .i64 k, .string nm, .int .i64 n, .string s, .slice ka kn kc, .slice la ln lc] 25)).heap.size = w.heap.size + 1) := by
  show _ = _
  simp
 generalize w.alloc (.cells #[.int .i64 k, .string nm, .int .i64 n, .string s, .slice ka kn kc, .slice la ln lc] 25) = w0 at *
 generalize Ex F w.heap.size 1 = G at *
 obtain ⟨HQ_0, HQ_1, HQ_2, HQ_3, HQ_4, HQ_5⟩ := (HQ.out.fr HQG.out HS0.out.fr).six
 go_wp2_with fail
 refine (HP.out _ (HS0.out.isUp HI0.out)).mono ?_
 rintro e w1 ⟨rfl, hb1⟩
 have HS1 := Lib.hid (HS0.out.below hb1)
 clear hb1 HS0 HQ_0 HQ_1 HQ_2 HQ_3 HQ_4 HQ_5
 obtain ⟨HQ_0, HQ_1, HQ_2, HQ_3, HQ_4, HQ_5⟩ := (HQ.out.fr HQG.out HS1.out.fr).six
 go_wp2_with fail
 refine (add_one G B T false vs ⟨#[99, 97, 115, 101]⟩ _ w1 HS1.out.env.hF HS1.out.wr (by (try simp at hlim); (try simp); omega) (by decide) (by simp)).mono ?_
 rintro e w2 ⟨rfl, ⟨vs2, hw⟩, hf⟩
 have HS2 := Lib.hid (HS1.out.next hw hf)
 clear hw hf HS1 HQ_0 HQ_1 HQ_2 HQ_3 HQ_4 HQ_5
 obtain ⟨HQ_0, HQ_1, HQ_2, HQ_3, HQ_4, HQ_5⟩ := (HQ.out.fr HQG.out HS2.out.fr).six
 go_wp2_with fail
 refine (HU.out 0 ⟨k, nm, n, s, ka, kn, kc, la, ln, lc⟩ G B (T ++ [⟨#[99, 97, 115, 101]⟩]) false vs2 n0 w2 HS2.out.env (HS2.out.is HI0.out) HS2.out.wr (by (try simp at hlim); (try simp); omega)).mono ?_
 rintro e w3 ⟨rfl, ⟨vs3, hw⟩, hf⟩
 have HS3 := Lib.hid (HS2.out.next hw hf)
 clear hw hf HS2 HQ_0 HQ_1 HQ_2 HQ_3 HQ_4 HQ_5
 obtain ⟨HQ_0, HQ_1, HQ_2, HQ_3, HQ_4, HQ_5⟩ := (HQ.out.fr HQG.out HS3.out.fr).six
 go_wp2_with fail
 refine (add_one G B ((T ++ [⟨#[99, 97, 115, 101]⟩]) ++ u.o.at 0 false) false vs3 ⟨#[58]⟩ _ w3 HS3.out.env.hF HS3.out.wr (by (try simp at hlim); (try simp); omega) (by decide) (by simp)).mono ?_
 rintro e w4 ⟨rfl, ⟨vs4, hw⟩, hf⟩
 have HS4 := Lib.hid (HS3.out.next hw hf)
 clear hw hf HS3 HQ_0 HQ_1 HQ_2 HQ_3 HQ_4 HQ_5
 go_wp2_with fail
 go_end0
 have hfin := HS4.out.adds
 have e2 : (((T ++ [⟨#[99, 97, 115, 101]⟩]) ++ u.o.at 0 false) ++ [⟨#[58]⟩]) = T ++ brack ⟨#[99, 97, 115, 101]⟩ ⟨#[58]⟩ (u.o.at 0 false) := by simp
 rw [e2] at hfin
 exact HFIN.out _ _ _ _ hfin
theorem caseHead_any (u : V) (h : u.k = 42 ∨ WExpr u) : Writes0 88 u (caseT u) := by
 by_cases hk : u.k = 42
 ·exact caseHead_e u hk
 ·exact caseHead_x u hk (h.resolve_left hk)
def vals0 (m : List V) : Ts := m.flatMap fun c => c.o.at 0 false
theorem vals0_snoc (m : List V) (j : Nat) (h : j < m.length) : vals0 (m.take (j + 1)) = vals0 (m.take j) ++ m[j].o.at 0 false := by
 unfold vals0
 rw [snoc_get _ _ h, List.flatMap_append]
 simp
theorem vals0_take (m : List V) (j : Nat) : (vals0 (m.take j)).length ≤ (vals0 m).length := by
 conv => rhs; rw [← List.take_append_drop j m]; unfold vals0; rw [List.flatMap_append, List.length_append]
 unfold vals0
 omega
theorem short_31 (v : V) (hv : v.k = 31) (hll : v.l.length ≤ 4194304) (hl : ∀ c ∈ v.l, WExpr c) : Writes0 90 v ((⟨#[98, 114, 101, 97, 107]⟩ :: some1 v.nm) ++ (vals0 v.l ++ [⟨#[59]⟩])) := by
 intro x F B T vs n0 w hE hx hW hlim
 have HIx := Lib.hid hx
 obtain ⟨ka, kc, la, lc, rfl, h1, h2, h3, h4⟩ := hx.open
 simp only [X.v] at *
 rw [hv] at HIx ⊢
 obtain ⟨hN, hq⟩ := new1 hE hW #[.int .i64 31, .string v.nm, .int .i64 v.n, .string v.s, .slice ka v.ks.length kc, .slice la v.l.length lc] 25
 have HS0 := Lib.hid hN.sit
 have HFIN := Lib.hid hN.fin
 have HQ := Lib.hid (Box.at_ (x := ⟨31, v.nm, v.n, v.s, ka, v.ks.length, kc, la, v.l.length, lc⟩) hq)
 have HQG := Lib.hid hq.inF
 have HR2 := Lib.hid (hN.row _ _ h4)
 have HWC := Lib.hid hl
 have hlen' : (v.l.length : Int) ≤ 4194304 := by omega
 clear hN hq hE hx hW h1 h2 h3 h4 hl hv HIx
 generalize v.nm = nm at *
 generalize v.n = n at *
 generalize v.s = s at *
 generalize v.ks.length = kn at *
 generalize v.l = m at *
 go_enter Tryz.func90, Tryz.ntmps90
 go_wp2_with fail
 have HZ : Hid ((w.alloc (.cells #[.int .i64 31, .string nm, .int .i64 n, .string s, .slice ka kn kc, .slice la m.length lc] 25)).heap.size = w.heap.size + 1) := by
  show _ = _
  simp
 generalize w.alloc (.cells #[.int .i64 31, .string nm, .int .i64 n, .string s, .slice ka kn kc, .slice la m.length lc] 25) = w0 at *
 generalize Ex F w.heap.size 1 = G at *
 obtain ⟨HQ_0, HQ_1, HQ_2, HQ_3, HQ_4, HQ_5⟩ := (HQ.out.fr HQG.out HS0.out.fr).six
 refine (add_two G B T false vs ⟨#[98, 114, 101, 97, 107]⟩ nm _ w0 HS0.out.env.hF HS0.out.wr (by (try simp at hlim); (try simp); omega) (by decide) HZ.out.symm).mono ?_
 rintro e w1 ⟨rfl, ⟨vs1, hw⟩, hf⟩
 have HS1 := Lib.hid (HS0.out.next hw hf)
 clear hw hf HS0 HQ_0 HQ_1 HQ_2 HQ_3 HQ_4 HQ_5
 obtain ⟨HQ_0, HQ_1, HQ_2, HQ_3, HQ_4, HQ_5⟩ := (HQ.out.fr HQG.out HS1.out.fr).six
 go_wp2_with fail
 clear HQ_0 HQ_1 HQ_2 HQ_3 HQ_4 HQ_5
 generalize hT1 : (T ++ (⟨#[98, 114, 101, 97, 107]⟩ :: some1 nm)) = T1 at *
 have HT1 := Lib.hid hT1
 clear hT1
 have hlim1 : T1.length + (vals0 m).length + 1 ≤ 8796093020000 := by
  have := congrArg List.length HT1.out
  simp at hlim this
  omega
 go_loopw [35] (fun i wr => ∃ (t : Nat) (v' : Value), t ≤ m.length ∧ i = .int .i64 t ∧ Hid (Sit w0 G n0 B (T1 ++ vals0 (m.take t)) false v' wr))
  (fun i _ => m.length - (intOf i).toNat)
 case atStart => exact ⟨0, _, Nat.zero_le _, rfl, by rw [show T1 ++ vals0 (m.take 0) = T1 by simp [vals0]]; exact HS1⟩
 case round =>
  obtain ⟨t, v', ht, rfl, hw⟩ := hrel
  by_cases hlt : t < m.length
  ·obtain ⟨g2, o2, rfl, hg2, z, hz, hzc⟩ := HR2.out.at_ hlt
   have HSn := Lib.hid (vals0_snoc m t hlt)
   have HWc := Lib.hid (HWC.out _ (List.getElem_mem hlt))
   have hll2 : (T1 ++ vals0 (m.take t)).length + (m[t].o.at 0 false).length ≤ 8796093020000 := by
    have h1 := congrArg List.length HSn.out
    have h2 := vals0_take m (t + 1)
    rw [List.length_append] at h1 ⊢
    omega
   have HIc := Lib.hid (hw.out.is hzc)
   obtain ⟨b0, b1, b2, b3, b4, b5⟩ := hz.fr (HS1.out.env.sub g2 hg2) hw.out.fr
   have HSr := Lib.hid fun (o : Obj) => hw.out.below (below_alloc wr o)
   have HIr := Lib.hid fun (o : Obj) => (hw.out.below (below_alloc wr o)).is hzc
   obtain ⟨z_k, z_nm, z_n, z_s, z_ka, z_kn, z_kc, z_la, z_ln, z_lc⟩ := z
   dsimp only at b0 b1 b2 b3 b4 b5
   clear hz hzc hg2 hw HIc
   generalize m[t] = c at *
   generalize hT2 : T1 ++ vals0 (m.take t) = T2 at *
   have HT2 := Lib.hid hT2
   clear hT2
   go_wp2_with fail
   refine (HWc.out 0 ⟨z_k, z_nm, z_n, z_s, z_ka, z_kn, z_kc, z_la, z_ln, z_lc⟩ G B T2 false v' n0 _ (HSr.out _).env (HIr.out _) (HSr.out _).wr hll2).mono ?_
   rintro e we ⟨rfl, ⟨ve, hw⟩, hf⟩
   have HSe := Lib.hid ((HSr.out _).next hw hf)
   clear hw hf b0 b1 b2 b3 b4 b5 HSr HIr
   go_wp2_with fail
   go_roundw
   case rel => exact ⟨t + 1, ve, by omega, by go_num, by rw [HSn.out, ← List.append_assoc, HT2.out]; exact HSe⟩
   case measure => simp [intOf]; omega
  ·obtain rfl : t = m.length := by omega
   rw [List.take_length] at hw
   go_wp2_with fail
   refine (add_one G B _ false v' ⟨#[59]⟩ _ wr hw.out.env.hF hw.out.wr (by simp; omega) (by decide) (by simp)).mono ?_
   rintro e we ⟨rfl, ⟨ve, hw2⟩, hf⟩
   have HSe := Lib.hid (hw.out.next hw2 hf)
   clear hw2 hf hw
   go_wp2_with fail
   go_end0
   have hfin := HSe.out.adds
   rw [← HT1.out, List.append_assoc, List.append_assoc] at hfin
   exact HFIN.out _ _ _ _ hfin
theorem short_32 (v : V) (hv : v.k = 32) (hll : v.l.length ≤ 4194304) (hl : ∀ c ∈ v.l, WExpr c) : Writes0 90 v ((⟨#[99, 111, 110, 116, 105, 110, 117, 101]⟩ :: some1 v.nm) ++ (vals0 v.l ++ [⟨#[59]⟩])) := by
 intro x F B T vs n0 w hE hx hW hlim
 have HIx := Lib.hid hx
 obtain ⟨ka, kc, la, lc, rfl, h1, h2, h3, h4⟩ := hx.open
 simp only [X.v] at *
 rw [hv] at HIx ⊢
 obtain ⟨hN, hq⟩ := new1 hE hW #[.int .i64 32, .string v.nm, .int .i64 v.n, .string v.s, .slice ka v.ks.length kc, .slice la v.l.length lc] 25
 have HS0 := Lib.hid hN.sit
 have HFIN := Lib.hid hN.fin
 have HQ := Lib.hid (Box.at_ (x := ⟨32, v.nm, v.n, v.s, ka, v.ks.length, kc, la, v.l.length, lc⟩) hq)
 have HQG := Lib.hid hq.inF
 have HR2 := Lib.hid (hN.row _ _ h4)
 have HWC := Lib.hid hl
 have hlen' : (v.l.length : Int) ≤ 4194304 := by omega
 clear hN hq hE hx hW h1 h2 h3 h4 hl hv HIx
 generalize v.nm = nm at *
 generalize v.n = n at *
 generalize v.s = s at *
 generalize v.ks.length = kn at *
 generalize v.l = m at *
 go_enter Tryz.func90, Tryz.ntmps90
 go_wp2_with fail
 have HZ : Hid ((w.alloc (.cells #[.int .i64 32, .string nm, .int .i64 n, .string s, .slice ka kn kc, .slice la m.length lc] 25)).heap.size = w.heap.size + 1) := by
  show _ = _
  simp
 generalize w.alloc (.cells #[.int .i64 32, .string nm, .int .i64 n, .string s, .slice ka kn kc, .slice la m.length lc] 25) = w0 at *
 generalize Ex F w.heap.size 1 = G at *
 obtain ⟨HQ_0, HQ_1, HQ_2, HQ_3, HQ_4, HQ_5⟩ := (HQ.out.fr HQG.out HS0.out.fr).six
 refine (add_two G B T false vs ⟨#[99, 111, 110, 116, 105, 110, 117, 101]⟩ nm _ w0 HS0.out.env.hF HS0.out.wr (by (try simp at hlim); (try simp); omega) (by decide) HZ.out.symm).mono ?_
 rintro e w1 ⟨rfl, ⟨vs1, hw⟩, hf⟩
 have HS1 := Lib.hid (HS0.out.next hw hf)
 clear hw hf HS0 HQ_0 HQ_1 HQ_2 HQ_3 HQ_4 HQ_5
 obtain ⟨HQ_0, HQ_1, HQ_2, HQ_3, HQ_4, HQ_5⟩ := (HQ.out.fr HQG.out HS1.out.fr).six
 go_wp2_with fail
 clear HQ_0 HQ_1 HQ_2 HQ_3 HQ_4 HQ_5
 generalize hT1 : (T ++ (⟨#[99, 111, 110, 116, 105, 110, 117, 101]⟩ :: some1 nm)) = T1 at *
 have HT1 := Lib.hid hT1
 clear hT1
 have hlim1 : T1.length + (vals0 m).length + 1 ≤ 8796093020000 := by
  have := congrArg List.length HT1.out
  simp at hlim this
  omega
 go_loopw [35] (fun i wr => ∃ (t : Nat) (v' : Value), t ≤ m.length ∧ i = .int .i64 t ∧ Hid (Sit w0 G n0 B (T1 ++ vals0 (m.take t)) false v' wr))
  (fun i _ => m.length - (intOf i).toNat)
 case atStart => exact ⟨0, _, Nat.zero_le _, rfl, by rw [show T1 ++ vals0 (m.take 0) = T1 by simp [vals0]]; exact HS1⟩
 case round =>
  obtain ⟨t, v', ht, rfl, hw⟩ := hrel
  by_cases hlt : t < m.length
  ·obtain ⟨g2, o2, rfl, hg2, z, hz, hzc⟩ := HR2.out.at_ hlt
   have HSn := Lib.hid (vals0_snoc m t hlt)
   have HWc := Lib.hid (HWC.out _ (List.getElem_mem hlt))
   have hll2 : (T1 ++ vals0 (m.take t)).length + (m[t].o.at 0 false).length ≤ 8796093020000 := by
    have h1 := congrArg List.length HSn.out
    have h2 := vals0_take m (t + 1)
    rw [List.length_append] at h1 ⊢
    omega
   have HIc := Lib.hid (hw.out.is hzc)
   obtain ⟨b0, b1, b2, b3, b4, b5⟩ := hz.fr (HS1.out.env.sub g2 hg2) hw.out.fr
   have HSr := Lib.hid fun (o : Obj) => hw.out.below (below_alloc wr o)
   have HIr := Lib.hid fun (o : Obj) => (hw.out.below (below_alloc wr o)).is hzc
   obtain ⟨z_k, z_nm, z_n, z_s, z_ka, z_kn, z_kc, z_la, z_ln, z_lc⟩ := z
   dsimp only at b0 b1 b2 b3 b4 b5
   clear hz hzc hg2 hw HIc
   generalize m[t] = c at *
   generalize hT2 : T1 ++ vals0 (m.take t) = T2 at *
   have HT2 := Lib.hid hT2
   clear hT2
   go_wp2_with fail
   refine (HWc.out 0 ⟨z_k, z_nm, z_n, z_s, z_ka, z_kn, z_kc, z_la, z_ln, z_lc⟩ G B T2 false v' n0 _ (HSr.out _).env (HIr.out _) (HSr.out _).wr hll2).mono ?_
   rintro e we ⟨rfl, ⟨ve, hw⟩, hf⟩
   have HSe := Lib.hid ((HSr.out _).next hw hf)
   clear hw hf b0 b1 b2 b3 b4 b5 HSr HIr
   go_wp2_with fail
   go_roundw
   case rel => exact ⟨t + 1, ve, by omega, by go_num, by rw [HSn.out, ← List.append_assoc, HT2.out]; exact HSe⟩
   case measure => simp [intOf]; omega
  ·obtain rfl : t = m.length := by omega
   rw [List.take_length] at hw
   go_wp2_with fail
   refine (add_one G B _ false v' ⟨#[59]⟩ _ wr hw.out.env.hF hw.out.wr (by simp; omega) (by decide) (by simp)).mono ?_
   rintro e we ⟨rfl, ⟨ve, hw2⟩, hf⟩
   have HSe := Lib.hid (hw.out.next hw2 hf)
   clear hw2 hf hw
   go_wp2_with fail
   go_end0
   have hfin := HSe.out.adds
   rw [← HT1.out, List.append_assoc, List.append_assoc] at hfin
   exact HFIN.out _ _ _ _ hfin
theorem short_33 (v : V) (hv : v.k = 33) (hll : v.l.length ≤ 4194304) (hl : ∀ c ∈ v.l, WExpr c) : Writes0 90 v ([⟨#[114, 101, 116, 117, 114, 110]⟩] ++ (vals0 v.l ++ [⟨#[59]⟩])) := by
 intro x F B T vs n0 w hE hx hW hlim
 have HIx := Lib.hid hx
 obtain ⟨ka, kc, la, lc, rfl, h1, h2, h3, h4⟩ := hx.open
 simp only [X.v] at *
 rw [hv] at HIx ⊢
 obtain ⟨hN, hq⟩ := new1 hE hW #[.int .i64 33, .string v.nm, .int .i64 v.n, .string v.s, .slice ka v.ks.length kc, .slice la v.l.length lc] 25
 have HS0 := Lib.hid hN.sit
 have HFIN := Lib.hid hN.fin
 have HQ := Lib.hid (Box.at_ (x := ⟨33, v.nm, v.n, v.s, ka, v.ks.length, kc, la, v.l.length, lc⟩) hq)
 have HQG := Lib.hid hq.inF
 have HR2 := Lib.hid (hN.row _ _ h4)
 have HWC := Lib.hid hl
 have hlen' : (v.l.length : Int) ≤ 4194304 := by omega
 clear hN hq hE hx hW h1 h2 h3 h4 hl hv HIx
 generalize v.nm = nm at *
 generalize v.n = n at *
 generalize v.s = s at *
 generalize v.ks.length = kn at *
 generalize v.l = m at *
 go_enter Tryz.func90, Tryz.ntmps90
 go_wp2_with fail
 have HZ : Hid ((w.alloc (.cells #[.int .i64 33, .string nm, .int .i64 n, .string s, .slice ka kn kc, .slice la m.length lc] 25)).heap.size = w.heap.size + 1) := by
  show _ = _
  simp
 generalize w.alloc (.cells #[.int .i64 33, .string nm, .int .i64 n, .string s, .slice ka kn kc, .slice la m.length lc] 25) = w0 at *
 generalize Ex F w.heap.size 1 = G at *
 obtain ⟨HQ_0, HQ_1, HQ_2, HQ_3, HQ_4, HQ_5⟩ := (HQ.out.fr HQG.out HS0.out.fr).six
 refine (add_one G B T false vs ⟨#[114, 101, 116, 117, 114, 110]⟩ _ w0 HS0.out.env.hF HS0.out.wr (by (try simp at hlim); (try simp); omega) (by decide) HZ.out.symm).mono ?_
 rintro e w1 ⟨rfl, ⟨vs1, hw⟩, hf⟩
 have HS1 := Lib.hid (HS0.out.next hw hf)
 clear hw hf HS0 HQ_0 HQ_1 HQ_2 HQ_3 HQ_4 HQ_5
 obtain ⟨HQ_0, HQ_1, HQ_2, HQ_3, HQ_4, HQ_5⟩ := (HQ.out.fr HQG.out HS1.out.fr).six
 go_wp2_with fail
 clear HQ_0 HQ_1 HQ_2 HQ_3 HQ_4 HQ_5
 generalize hT1 : (T ++ [⟨#[114, 101, 116, 117, 114, 110]⟩]) = T1 at *
 have HT1 := Lib.hid hT1
 clear hT1
 have hlim1 : T1.length + (vals0 m).length + 1 ≤ 8796093020000 := by
  have := congrArg List.length HT1.out
  simp at hlim this
  omega
 go_loopw [35] (fun i wr => ∃ (t : Nat) (v' : Value), t ≤ m.length ∧ i = .int .i64 t ∧ Hid (Sit w0 G n0 B (T1 ++ vals0 (m.take t)) false v' wr))
  (fun i _ => m.length - (intOf i).toNat)
 case atStart => exact ⟨0, _, Nat.zero_le _, rfl, by rw [show T1 ++ vals0 (m.take 0) = T1 by simp [vals0]]; exact HS1⟩
 case round =>
  obtain ⟨t, v', ht, rfl, hw⟩ := hrel
  by_cases hlt : t < m.length
  ·obtain ⟨g2, o2, rfl, hg2, z, hz, hzc⟩ := HR2.out.at_ hlt
   have HSn := Lib.hid (vals0_snoc m t hlt)
   have HWc := Lib.hid (HWC.out _ (List.getElem_mem hlt))
   have hll2 : (T1 ++ vals0 (m.take t)).length + (m[t].o.at 0 false).length ≤ 8796093020000 := by
    have h1 := congrArg List.length HSn.out
    have h2 := vals0_take m (t + 1)
    rw [List.length_append] at h1 ⊢
    omega
   have HIc := Lib.hid (hw.out.is hzc)
   obtain ⟨b0, b1, b2, b3, b4, b5⟩ := hz.fr (HS1.out.env.sub g2 hg2) hw.out.fr
   have HSr := Lib.hid fun (o : Obj) => hw.out.below (below_alloc wr o)
   have HIr := Lib.hid fun (o : Obj) => (hw.out.below (below_alloc wr o)).is hzc
   obtain ⟨z_k, z_nm, z_n, z_s, z_ka, z_kn, z_kc, z_la, z_ln, z_lc⟩ := z
   dsimp only at b0 b1 b2 b3 b4 b5
   clear hz hzc hg2 hw HIc
   generalize m[t] = c at *
   generalize hT2 : T1 ++ vals0 (m.take t) = T2 at *
   have HT2 := Lib.hid hT2
   clear hT2
   go_wp2_with fail
   refine (HWc.out 0 ⟨z_k, z_nm, z_n, z_s, z_ka, z_kn, z_kc, z_la, z_ln, z_lc⟩ G B T2 false v' n0 _ (HSr.out _).env (HIr.out _) (HSr.out _).wr hll2).mono ?_
   rintro e we ⟨rfl, ⟨ve, hw⟩, hf⟩
   have HSe := Lib.hid ((HSr.out _).next hw hf)
   clear hw hf b0 b1 b2 b3 b4 b5 HSr HIr
   go_wp2_with fail
   go_roundw
   case rel => exact ⟨t + 1, ve, by omega, by go_num, by rw [HSn.out, ← List.append_assoc, HT2.out]; exact HSe⟩
   case measure => simp [intOf]; omega
  ·obtain rfl : t = m.length := by omega
   rw [List.take_length] at hw
   go_wp2_with fail
   refine (add_one G B _ false v' ⟨#[59]⟩ _ wr hw.out.env.hF hw.out.wr (by simp; omega) (by decide) (by simp)).mono ?_
   rintro e we ⟨rfl, ⟨ve, hw2⟩, hf⟩
   have HSe := Lib.hid (hw.out.next hw2 hf)
   clear hw2 hf hw
   go_wp2_with fail
   go_end0
   have hfin := HSe.out.adds
   rw [← HT1.out, List.append_assoc, List.append_assoc] at hfin
   exact HFIN.out _ _ _ _ hfin
theorem short_34 (v : V) (hv : v.k = 34) (hll : v.l.length ≤ 4194304) (hl : ∀ c ∈ v.l, WExpr c) : Writes0 90 v ([⟨#[116, 104, 114, 111, 119]⟩] ++ (vals0 v.l ++ [⟨#[59]⟩])) := by
 intro x F B T vs n0 w hE hx hW hlim
 have HIx := Lib.hid hx
 obtain ⟨ka, kc, la, lc, rfl, h1, h2, h3, h4⟩ := hx.open
 simp only [X.v] at *
 rw [hv] at HIx ⊢
 obtain ⟨hN, hq⟩ := new1 hE hW #[.int .i64 34, .string v.nm, .int .i64 v.n, .string v.s, .slice ka v.ks.length kc, .slice la v.l.length lc] 25
 have HS0 := Lib.hid hN.sit
 have HFIN := Lib.hid hN.fin
 have HQ := Lib.hid (Box.at_ (x := ⟨34, v.nm, v.n, v.s, ka, v.ks.length, kc, la, v.l.length, lc⟩) hq)
 have HQG := Lib.hid hq.inF
 have HR2 := Lib.hid (hN.row _ _ h4)
 have HWC := Lib.hid hl
 have hlen' : (v.l.length : Int) ≤ 4194304 := by omega
 clear hN hq hE hx hW h1 h2 h3 h4 hl hv HIx
 generalize v.nm = nm at *
 generalize v.n = n at *
 generalize v.s = s at *
 generalize v.ks.length = kn at *
 generalize v.l = m at *
 go_enter Tryz.func90, Tryz.ntmps90
 go_wp2_with fail
 have HZ : Hid ((w.alloc (.cells #[.int .i64 34, .string nm, .int .i64 n, .string s, .slice ka kn kc, .slice la m.length lc] 25)).heap.size = w.heap.size + 1) := by
  show _ = _
  simp
 generalize w.alloc (.cells #[.int .i64 34, .string nm, .int .i64 n, .string s, .slice ka kn kc, .slice la m.length lc] 25) = w0 at *
 generalize Ex F w.heap.size 1 = G at *
 obtain ⟨HQ_0, HQ_1, HQ_2, HQ_3, HQ_4, HQ_5⟩ := (HQ.out.fr HQG.out HS0.out.fr).six
 refine (add_one G B T false vs ⟨#[116, 104, 114, 111, 119]⟩ _ w0 HS0.out.env.hF HS0.out.wr (by (try simp at hlim); (try simp); omega) (by decide) HZ.out.symm).mono ?_
 rintro e w1 ⟨rfl, ⟨vs1, hw⟩, hf⟩
 have HS1 := Lib.hid (HS0.out.next hw hf)
 clear hw hf HS0 HQ_0 HQ_1 HQ_2 HQ_3 HQ_4 HQ_5
 obtain ⟨HQ_0, HQ_1, HQ_2, HQ_3, HQ_4, HQ_5⟩ := (HQ.out.fr HQG.out HS1.out.fr).six
 go_wp2_with fail
 clear HQ_0 HQ_1 HQ_2 HQ_3 HQ_4 HQ_5
 generalize hT1 : (T ++ [⟨#[116, 104, 114, 111, 119]⟩]) = T1 at *
 have HT1 := Lib.hid hT1
 clear hT1
 have hlim1 : T1.length + (vals0 m).length + 1 ≤ 8796093020000 := by
  have := congrArg List.length HT1.out
  simp at hlim this
  omega
 go_loopw [35] (fun i wr => ∃ (t : Nat) (v' : Value), t ≤ m.length ∧ i = .int .i64 t ∧ Hid (Sit w0 G n0 B (T1 ++ vals0 (m.take t)) false v' wr))
  (fun i _ => m.length - (intOf i).toNat)
 case atStart => exact ⟨0, _, Nat.zero_le _, rfl, by rw [show T1 ++ vals0 (m.take 0) = T1 by simp [vals0]]; exact HS1⟩
 case round =>
  obtain ⟨t, v', ht, rfl, hw⟩ := hrel
  by_cases hlt : t < m.length
  ·obtain ⟨g2, o2, rfl, hg2, z, hz, hzc⟩ := HR2.out.at_ hlt
   have HSn := Lib.hid (vals0_snoc m t hlt)
   have HWc := Lib.hid (HWC.out _ (List.getElem_mem hlt))
   have hll2 : (T1 ++ vals0 (m.take t)).length + (m[t].o.at 0 false).length ≤ 8796093020000 := by
    have h1 := congrArg List.length HSn.out
    have h2 := vals0_take m (t + 1)
    rw [List.length_append] at h1 ⊢
    omega
   have HIc := Lib.hid (hw.out.is hzc)
   obtain ⟨b0, b1, b2, b3, b4, b5⟩ := hz.fr (HS1.out.env.sub g2 hg2) hw.out.fr
   have HSr := Lib.hid fun (o : Obj) => hw.out.below (below_alloc wr o)
   have HIr := Lib.hid fun (o : Obj) => (hw.out.below (below_alloc wr o)).is hzc
   obtain ⟨z_k, z_nm, z_n, z_s, z_ka, z_kn, z_kc, z_la, z_ln, z_lc⟩ := z
   dsimp only at b0 b1 b2 b3 b4 b5
   clear hz hzc hg2 hw HIc
   generalize m[t] = c at *
   generalize hT2 : T1 ++ vals0 (m.take t) = T2 at *
   have HT2 := Lib.hid hT2
   clear hT2
   go_wp2_with fail
   refine (HWc.out 0 ⟨z_k, z_nm, z_n, z_s, z_ka, z_kn, z_kc, z_la, z_ln, z_lc⟩ G B T2 false v' n0 _ (HSr.out _).env (HIr.out _) (HSr.out _).wr hll2).mono ?_
   rintro e we ⟨rfl, ⟨ve, hw⟩, hf⟩
   have HSe := Lib.hid ((HSr.out _).next hw hf)
   clear hw hf b0 b1 b2 b3 b4 b5 HSr HIr
   go_wp2_with fail
   go_roundw
   case rel => exact ⟨t + 1, ve, by omega, by go_num, by rw [HSn.out, ← List.append_assoc, HT2.out]; exact HSe⟩
   case measure => simp [intOf]; omega
  ·obtain rfl : t = m.length := by omega
   rw [List.take_length] at hw
   go_wp2_with fail
   refine (add_one G B _ false v' ⟨#[59]⟩ _ wr hw.out.env.hF hw.out.wr (by simp; omega) (by decide) (by simp)).mono ?_
   rintro e we ⟨rfl, ⟨ve, hw2⟩, hf⟩
   have HSe := Lib.hid (hw.out.next hw2 hf)
   clear hw2 hf hw
   go_wp2_with fail
   go_end0
   have hfin := HSe.out.adds
   rw [← HT1.out, List.append_assoc, List.append_assoc] at hfin
   exact HFIN.out _ _ _ _ hfin
theorem short_40 (v : V) (hv : v.k = 40) (hll : v.l.length ≤ 4194304) (hl : ∀ c ∈ v.l, WExpr c) : Writes0 90 v ([] ++ (vals0 v.l ++ [⟨#[59]⟩])) := by
 intro x F B T vs n0 w hE hx hW hlim
 have HIx := Lib.hid hx
 obtain ⟨ka, kc, la, lc, rfl, h1, h2, h3, h4⟩ := hx.open
 simp only [X.v] at *
 rw [hv] at HIx ⊢
 obtain ⟨hN, hq⟩ := new1 hE hW #[.int .i64 40, .string v.nm, .int .i64 v.n, .string v.s, .slice ka v.ks.length kc, .slice la v.l.length lc] 25
 have HS0 := Lib.hid hN.sit
 have HFIN := Lib.hid hN.fin
 have HQ := Lib.hid (Box.at_ (x := ⟨40, v.nm, v.n, v.s, ka, v.ks.length, kc, la, v.l.length, lc⟩) hq)
 have HQG := Lib.hid hq.inF
 have HR2 := Lib.hid (hN.row _ _ h4)
 have HWC := Lib.hid hl
 have hlen' : (v.l.length : Int) ≤ 4194304 := by omega
 clear hN hq hE hx hW h1 h2 h3 h4 hl hv HIx
 generalize v.nm = nm at *
 generalize v.n = n at *
 generalize v.s = s at *
 generalize v.ks.length = kn at *
 generalize v.l = m at *
 go_enter Tryz.func90, Tryz.ntmps90
 go_wp2_with fail
 have HZ : Hid ((w.alloc (.cells #[.int .i64 40, .string nm, .int .i64 n, .string s, .slice ka kn kc, .slice la m.length lc] 25)).heap.size = w.heap.size + 1) := by
  show _ = _
  simp
 generalize w.alloc (.cells #[.int .i64 40, .string nm, .int .i64 n, .string s, .slice ka kn kc, .slice la m.length lc] 25) = w0 at *
 generalize Ex F w.heap.size 1 = G at *
 obtain ⟨HQ_0, HQ_1, HQ_2, HQ_3, HQ_4, HQ_5⟩ := (HQ.out.fr HQG.out HS0.out.fr).six
 clear HQ_0 HQ_1 HQ_2 HQ_3 HQ_4 HQ_5
 obtain ⟨T1, hT1⟩ : ∃ T1, T ++ [] = T1 := ⟨_, rfl⟩
 have HT1 := Lib.hid hT1
 rw [List.append_nil] at hT1
 rw [hT1] at HS0
 clear hT1
 have hlim1 : T1.length + (vals0 m).length + 1 ≤ 8796093020000 := by
  have := congrArg List.length HT1.out
  simp at hlim this
  omega
 go_loopw [35] (fun i wr => ∃ (t : Nat) (v' : Value), t ≤ m.length ∧ i = .int .i64 t ∧ Hid (Sit w0 G n0 B (T1 ++ vals0 (m.take t)) false v' wr))
  (fun i _ => m.length - (intOf i).toNat)
 case atStart => exact ⟨0, _, Nat.zero_le _, rfl, by rw [show T1 ++ vals0 (m.take 0) = T1 by simp [vals0]]; exact HS0⟩
 case round =>
  obtain ⟨t, v', ht, rfl, hw⟩ := hrel
  by_cases hlt : t < m.length
  ·obtain ⟨g2, o2, rfl, hg2, z, hz, hzc⟩ := HR2.out.at_ hlt
   have HSn := Lib.hid (vals0_snoc m t hlt)
   have HWc := Lib.hid (HWC.out _ (List.getElem_mem hlt))
   have hll2 : (T1 ++ vals0 (m.take t)).length + (m[t].o.at 0 false).length ≤ 8796093020000 := by
    have h1 := congrArg List.length HSn.out
    have h2 := vals0_take m (t + 1)
    rw [List.length_append] at h1 ⊢
    omega
   have HIc := Lib.hid (hw.out.is hzc)
   obtain ⟨b0, b1, b2, b3, b4, b5⟩ := hz.fr (HS0.out.env.sub g2 hg2) hw.out.fr
   have HSr := Lib.hid fun (o : Obj) => hw.out.below (below_alloc wr o)
   have HIr := Lib.hid fun (o : Obj) => (hw.out.below (below_alloc wr o)).is hzc
   obtain ⟨z_k, z_nm, z_n, z_s, z_ka, z_kn, z_kc, z_la, z_ln, z_lc⟩ := z
   dsimp only at b0 b1 b2 b3 b4 b5
   clear hz hzc hg2 hw HIc
   generalize m[t] = c at *
   generalize hT2 : T1 ++ vals0 (m.take t) = T2 at *
   have HT2 := Lib.hid hT2
   clear hT2
   go_wp2_with fail
   refine (HWc.out 0 ⟨z_k, z_nm, z_n, z_s, z_ka, z_kn, z_kc, z_la, z_ln, z_lc⟩ G B T2 false v' n0 _ (HSr.out _).env (HIr.out _) (HSr.out _).wr hll2).mono ?_
   rintro e we ⟨rfl, ⟨ve, hw⟩, hf⟩
   have HSe := Lib.hid ((HSr.out _).next hw hf)
   clear hw hf b0 b1 b2 b3 b4 b5 HSr HIr
   go_wp2_with fail
   go_roundw
   case rel => exact ⟨t + 1, ve, by omega, by go_num, by rw [HSn.out, ← List.append_assoc, HT2.out]; exact HSe⟩
   case measure => simp [intOf]; omega
  ·obtain rfl : t = m.length := by omega
   rw [List.take_length] at hw
   go_wp2_with fail
   refine (add_one G B _ false v' ⟨#[59]⟩ _ wr hw.out.env.hF hw.out.wr (by simp; omega) (by decide) (by simp)).mono ?_
   rintro e we ⟨rfl, ⟨ve, hw2⟩, hf⟩
   have HSe := Lib.hid (hw.out.next hw2 hf)
   clear hw2 hf hw
   go_wp2_with fail
   go_end0
   have hfin := HSe.out.adds
   rw [← HT1.out, List.append_assoc, List.append_assoc] at hfin
   exact HFIN.out _ _ _ _ hfin
theorem full4 {nm : ByteArray} (h : ¬ nm.size = 0) : full [⟨#[99, 97, 116, 99, 104]⟩, ⟨#[40]⟩, nm, ⟨#[41]⟩] = ⟨#[99, 97, 116, 99, 104]⟩ :: brack ⟨#[40]⟩ ⟨#[41]⟩ [nm] := by
 unfold full
 rw [List.filter_cons_of_pos (by decide), List.filter_cons_of_pos (by decide), List.filter_cons_of_pos (by rw [decide_eq_true_eq]; exact h), List.filter_cons_of_pos (by decide)]
 rfl
theorem try_yy (v a c e : V) (hl : v.l = [a, c, e]) (hwa : WStmt a) (hcb : c.k = 25) (hwc : WStmt c) (hnm : ¬ v.nm.size = 0) (heb : e.k = 25) (hwe : WStmt e) : Writes0 87 v (⟨#[116, 114, 121]⟩ :: (a.o.st ++ (⟨#[99, 97, 116, 99, 104]⟩ :: (brack ⟨#[40]⟩ ⟨#[41]⟩ [v.nm] ++ c.o.st) ++ ⟨#[102, 105, 110, 97, 108, 108, 121]⟩ :: e.o.st))) := by
 intro x F B T vs n0 w hE hx hW hlim
 have HCt := Lib.hid fun w' (h : Is w' v x) => catches_any v x w' h (by rw [hl]; simp)
 have hct : ctch v = true := by
  unfold ctch
  rw [hl]
  exact decide_eq_true hcb
 rw [hct] at HCt
 have HIx := Lib.hid hx
 obtain ⟨ka, kc, la, lc, rfl, h1, h2, h3, h4⟩ := hx.open
 simp only [X.v] at *
 rw [hl] at h4
 obtain ⟨g, o, ya, yc, ye, rfl, hg, ⟨hya, hia⟩, ⟨hyc, hic⟩, hye, hie⟩ := h4.three
 have hln : v.l.length = 3 := by rw [hl]; rfl
 clear hl
 generalize v.l.length = ln at *
 subst hln
 have HBk := Lib.hid fun w' (h : Is w' e ye) => isBlock_any e ye w' h
 have hbk : isK 25 e = true := decide_eq_true heb
 rw [hbk] at HBk
 obtain ⟨hN, hq⟩ := new1 hE hW #[.int .i64 v.k, .string v.nm, .int .i64 v.n, .string v.s, .slice ka v.ks.length kc, .slice (some ⟨g, o, none⟩) 3 lc] 25
 have HS0 := Lib.hid hN.sit
 have HFIN := Lib.hid hN.fin
 have HQ := Lib.hid (Box.at_ (x := ⟨v.k, v.nm, v.n, v.s, ka, v.ks.length, kc, some ⟨g, o, none⟩, 3, lc⟩) hq)
 have HQG := Lib.hid hq.inF
 have HI0 := Lib.hid (hN.is _ _ HIx.out)
 have HGg := Lib.hid (hN.sit.env.sub g hg)
 have HYa := Lib.hid (hN.at_ _ _ _ hg hya)
 have HIa := Lib.hid (hN.is _ _ hia)
 have HYc := Lib.hid (hN.at_ _ _ _ hg hyc)
 have HIc := Lib.hid (hN.is _ _ hic)
 have HYe := Lib.hid (hN.at_ _ _ _ hg hye)
 have HIe := Lib.hid (hN.is _ _ hie)
 have HWa := Lib.hid hwa
 have HWc := Lib.hid hwc
 have HNM := Lib.hid hnm
 have HWe := Lib.hid hwe
 obtain ⟨a_k, a_nm, a_n, a_s, a_ka, a_kn, a_kc, a_la, a_ln, a_lc⟩ := ya
 obtain ⟨c_k, c_nm, c_n, c_s, c_ka, c_kn, c_kc, c_la, c_ln, c_lc⟩ := yc
 obtain ⟨e_k, e_nm, e_n, e_s, e_ka, e_kn, e_kc, e_la, e_ln, e_lc⟩ := ye
 simp only [X.v] at HBk
 clear hN hq hE hx hW h1 h2 h3 h4 hya hyc hye hia hic hie hg HIx hct hbk hcb heb hwa hwc hnm hwe
 generalize v.k = k at *
 generalize v.nm = nm at *
 generalize v.n = n at *
 generalize v.s = s at *
 generalize v.ks.length = kn at *
 go_enter Tryz.func87, Tryz.ntmps87
 go_wp2_with fail
 have HZ : Hid ((w.alloc (.cells #[.int .i64 k, .string nm, .int .i64 n, .string s, .slice ka kn kc, .slice (some ⟨g, o, none⟩) 3 lc] 25)).heap.size = w.heap.size + 1) := by
  show _ = _
  simp
 generalize w.alloc (.cells #[.int .i64 k, .string nm, .int .i64 n, .string s, .slice ka kn kc, .slice (some ⟨g, o, none⟩) 3 lc] 25) = w0 at *
 generalize Ex F w.heap.size 1 = G at *
 obtain ⟨HQ_0, HQ_1, HQ_2, HQ_3, HQ_4, HQ_5⟩ := (HQ.out.fr HQG.out HS0.out.fr).six
 refine (add_one G B T false vs ⟨#[116, 114, 121]⟩ _ w0 HS0.out.env.hF HS0.out.wr (by (try simp at hlim); (try simp); omega) (by decide) HZ.out.symm).mono ?_
 rintro e w1 ⟨rfl, ⟨vs1, hw⟩, hf⟩
 have HS1 := Lib.hid (HS0.out.next hw hf)
 clear hw hf HS0 HQ_0 HQ_1 HQ_2 HQ_3 HQ_4 HQ_5
 obtain ⟨HQ_0, HQ_1, HQ_2, HQ_3, HQ_4, HQ_5⟩ := (HQ.out.fr HQG.out HS1.out.fr).six
 obtain ⟨HYa_0, HYa_1, HYa_2, HYa_3, HYa_4, HYa_5⟩ := (HYa.out.fr HGg.out HS1.out.fr).six
 go_wp2_with fail
 refine (HWa.out ⟨a_k, a_nm, a_n, a_s, a_ka, a_kn, a_kc, a_la, a_ln, a_lc⟩ G B (T ++ [⟨#[116, 114, 121]⟩]) vs1 n0 w1 HS1.out.env (HS1.out.is HIa.out) HS1.out.wr (by (try simp at hlim); (try simp); omega)).mono ?_
 rintro e w2 ⟨rfl, ⟨vs2, hw⟩, hf⟩
 have HS2 := Lib.hid (HS1.out.next hw hf)
 clear hw hf HS1 HQ_0 HQ_1 HQ_2 HQ_3 HQ_4 HQ_5 HYa_0 HYa_1 HYa_2 HYa_3 HYa_4 HYa_5
 obtain ⟨HQ_0, HQ_1, HQ_2, HQ_3, HQ_4, HQ_5⟩ := (HQ.out.fr HQG.out HS2.out.fr).six
 go_wp2_with fail
 refine (HCt.out _ (HS2.out.isUp HI0.out)).mono ?_
 rintro e w2' ⟨rfl, hb1⟩
 have HT2 := Lib.hid (HS2.out.below hb1)
 clear hb1 HS2 HQ_0 HQ_1 HQ_2 HQ_3 HQ_4 HQ_5
 have HS2 := HT2
 clear HT2
 obtain ⟨HQ_0, HQ_1, HQ_2, HQ_3, HQ_4, HQ_5⟩ := (HQ.out.fr HQG.out HS2.out.fr).six
 go_wp2_with fail
 refine (add_new G B ((T ++ [⟨#[116, 114, 121]⟩]) ++ a.o.st) false vs2 [⟨#[99, 97, 116, 99, 104]⟩, ⟨#[40]⟩, nm, ⟨#[41]⟩] _ _ 4 w2' HS2.out.env.hF HS2.out.wr (by (try simp at hlim); (try simp); omega) rfl rfl rfl (((T ++ [⟨#[116, 114, 121]⟩]) ++ a.o.st) ++ ⟨#[99, 97, 116, 99, 104]⟩ :: brack ⟨#[40]⟩ ⟨#[41]⟩ [nm]) (by rw [full4 HNM.out])).mono ?_
 rintro e w3 ⟨rfl, ⟨vs3, hw⟩, hf⟩
 have HS3 := Lib.hid (HS2.out.next hw hf)
 clear hw hf HS2 HQ_0 HQ_1 HQ_2 HQ_3 HQ_4 HQ_5
 obtain ⟨HQ_0, HQ_1, HQ_2, HQ_3, HQ_4, HQ_5⟩ := (HQ.out.fr HQG.out HS3.out.fr).six
 obtain ⟨HYc_0, HYc_1, HYc_2, HYc_3, HYc_4, HYc_5⟩ := (HYc.out.fr HGg.out HS3.out.fr).six
 go_wp2_with fail
 refine (HWc.out ⟨c_k, c_nm, c_n, c_s, c_ka, c_kn, c_kc, c_la, c_ln, c_lc⟩ G B (((T ++ [⟨#[116, 114, 121]⟩]) ++ a.o.st) ++ ⟨#[99, 97, 116, 99, 104]⟩ :: brack ⟨#[40]⟩ ⟨#[41]⟩ [nm]) vs3 n0 w3 HS3.out.env (HS3.out.is HIc.out) HS3.out.wr (by (try simp at hlim); (try simp); omega)).mono ?_
 rintro e w4 ⟨rfl, ⟨vs4, hw⟩, hf⟩
 have HS4 := Lib.hid (HS3.out.next hw hf)
 clear hw hf HS3 HQ_0 HQ_1 HQ_2 HQ_3 HQ_4 HQ_5 HYc_0 HYc_1 HYc_2 HYc_3 HYc_4 HYc_5
 obtain ⟨HQ_0, HQ_1, HQ_2, HQ_3, HQ_4, HQ_5⟩ := (HQ.out.fr HQG.out HS4.out.fr).six
 obtain ⟨HYe_0, HYe_1, HYe_2, HYe_3, HYe_4, HYe_5⟩ := (HYe.out.fr HGg.out HS4.out.fr).six
 go_wp2_with fail
 refine (HBk.out _ (HS4.out.isUp HIe.out)).mono ?_
 rintro e w4'' ⟨rfl, hb1⟩
 have HT4 := Lib.hid (HS4.out.below hb1)
 clear hb1 HS4 HQ_0 HQ_1 HQ_2 HQ_3 HQ_4 HQ_5 HYe_0 HYe_1 HYe_2 HYe_3 HYe_4 HYe_5
 have HS4 := HT4
 clear HT4
 obtain ⟨HQ_0, HQ_1, HQ_2, HQ_3, HQ_4, HQ_5⟩ := (HQ.out.fr HQG.out HS4.out.fr).six
 go_wp2_with fail
 refine (add_one G B ((((T ++ [⟨#[116, 114, 121]⟩]) ++ a.o.st) ++ ⟨#[99, 97, 116, 99, 104]⟩ :: brack ⟨#[40]⟩ ⟨#[41]⟩ [nm]) ++ c.o.st) false vs4 ⟨#[102, 105, 110, 97, 108, 108, 121]⟩ _ w4'' HS4.out.env.hF HS4.out.wr (by (try simp at hlim); (try simp); omega) (by decide) (by simp)).mono ?_
 rintro e w5 ⟨rfl, ⟨vs5, hw⟩, hf⟩
 have HS5 := Lib.hid (HS4.out.next hw hf)
 clear hw hf HS4 HQ_0 HQ_1 HQ_2 HQ_3 HQ_4 HQ_5
 obtain ⟨HQ_0, HQ_1, HQ_2, HQ_3, HQ_4, HQ_5⟩ := (HQ.out.fr HQG.out HS5.out.fr).six
 obtain ⟨HYe_0, HYe_1, HYe_2, HYe_3, HYe_4, HYe_5⟩ := (HYe.out.fr HGg.out HS5.out.fr).six
 go_wp2_with fail
 refine (HWe.out ⟨e_k, e_nm, e_n, e_s, e_ka, e_kn, e_kc, e_la, e_ln, e_lc⟩ G B (((((T ++ [⟨#[116, 114, 121]⟩]) ++ a.o.st) ++ ⟨#[99, 97, 116, 99, 104]⟩ :: brack ⟨#[40]⟩ ⟨#[41]⟩ [nm]) ++ c.o.st) ++ [⟨#[102, 105, 110, 97, 108, 108, 121]⟩]) vs5 n0 w5 HS5.out.env (HS5.out.is HIe.out) HS5.out.wr (by (try simp at hlim); (try simp); omega)).mono ?_
 rintro e w6 ⟨rfl, ⟨vs6, hw⟩, hf⟩
 have HS6 := Lib.hid (HS5.out.next hw hf)
 clear hw hf HS5 HQ_0 HQ_1 HQ_2 HQ_3 HQ_4 HQ_5 HYe_0 HYe_1 HYe_2 HYe_3 HYe_4 HYe_5
 have HT : Hid (((((((T ++ [⟨#[116, 114, 121]⟩]) ++ a.o.st) ++ ⟨#[99, 97, 116, 99, 104]⟩ :: brack ⟨#[40]⟩ ⟨#[41]⟩ [nm]) ++ c.o.st) ++ [⟨#[102, 105, 110, 97, 108, 108, 121]⟩]) ++ e.o.st) = T ++ (⟨#[116, 114, 121]⟩ :: (a.o.st ++ (⟨#[99, 97, 116, 99, 104]⟩ :: (brack ⟨#[40]⟩ ⟨#[41]⟩ [nm] ++ c.o.st) ++ ⟨#[102, 105, 110, 97, 108, 108, 121]⟩ :: e.o.st)))) := by
  show _ = _
  simp
 go_wp2_with fail
 go_end0
 have hfin := HS6.out.adds
 rw [HT.out] at hfin
 exact HFIN.out _ _ _ _ hfin
theorem try_yn (v a c e : V) (hl : v.l = [a, c, e]) (hwa : WStmt a) (hcb : c.k = 25) (hwc : WStmt c) (hnm : ¬ v.nm.size = 0) (heb : ¬ e.k = 25) : Writes0 87 v (⟨#[116, 114, 121]⟩ :: (a.o.st ++ (⟨#[99, 97, 116, 99, 104]⟩ :: (brack ⟨#[40]⟩ ⟨#[41]⟩ [v.nm] ++ c.o.st) ++ []))) := by
 intro x F B T vs n0 w hE hx hW hlim
 have HCt := Lib.hid fun w' (h : Is w' v x) => catches_any v x w' h (by rw [hl]; simp)
 have hct : ctch v = true := by
  unfold ctch
  rw [hl]
  exact decide_eq_true hcb
 rw [hct] at HCt
 have HIx := Lib.hid hx
 obtain ⟨ka, kc, la, lc, rfl, h1, h2, h3, h4⟩ := hx.open
 simp only [X.v] at *
 rw [hl] at h4
 obtain ⟨g, o, ya, yc, ye, rfl, hg, ⟨hya, hia⟩, ⟨hyc, hic⟩, hye, hie⟩ := h4.three
 have hln : v.l.length = 3 := by rw [hl]; rfl
 clear hl
 generalize v.l.length = ln at *
 subst hln
 have HBk := Lib.hid fun w' (h : Is w' e ye) => isBlock_any e ye w' h
 have hbk : isK 25 e = false := decide_eq_false heb
 rw [hbk] at HBk
 obtain ⟨hN, hq⟩ := new1 hE hW #[.int .i64 v.k, .string v.nm, .int .i64 v.n, .string v.s, .slice ka v.ks.length kc, .slice (some ⟨g, o, none⟩) 3 lc] 25
 have HS0 := Lib.hid hN.sit
 have HFIN := Lib.hid hN.fin
 have HQ := Lib.hid (Box.at_ (x := ⟨v.k, v.nm, v.n, v.s, ka, v.ks.length, kc, some ⟨g, o, none⟩, 3, lc⟩) hq)
 have HQG := Lib.hid hq.inF
 have HI0 := Lib.hid (hN.is _ _ HIx.out)
 have HGg := Lib.hid (hN.sit.env.sub g hg)
 have HYa := Lib.hid (hN.at_ _ _ _ hg hya)
 have HIa := Lib.hid (hN.is _ _ hia)
 have HYc := Lib.hid (hN.at_ _ _ _ hg hyc)
 have HIc := Lib.hid (hN.is _ _ hic)
 have HYe := Lib.hid (hN.at_ _ _ _ hg hye)
 have HIe := Lib.hid (hN.is _ _ hie)
 have HWa := Lib.hid hwa
 have HWc := Lib.hid hwc
 have HNM := Lib.hid hnm
 obtain ⟨a_k, a_nm, a_n, a_s, a_ka, a_kn, a_kc, a_la, a_ln, a_lc⟩ := ya
 obtain ⟨c_k, c_nm, c_n, c_s, c_ka, c_kn, c_kc, c_la, c_ln, c_lc⟩ := yc
 obtain ⟨e_k, e_nm, e_n, e_s, e_ka, e_kn, e_kc, e_la, e_ln, e_lc⟩ := ye
 simp only [X.v] at HBk
 clear hN hq hE hx hW h1 h2 h3 h4 hya hyc hye hia hic hie hg HIx hct hbk hcb heb hwa hwc hnm
 generalize v.k = k at *
 generalize v.nm = nm at *
 generalize v.n = n at *
 generalize v.s = s at *
 generalize v.ks.length = kn at *
 go_enter Tryz.func87, Tryz.ntmps87
 go_wp2_with fail
 have HZ : Hid ((w.alloc (.cells #[.int .i64 k, .string nm, .int .i64 n, .string s, .slice ka kn kc, .slice (some ⟨g, o, none⟩) 3 lc] 25)).heap.size = w.heap.size + 1) := by
  show _ = _
  simp
 generalize w.alloc (.cells #[.int .i64 k, .string nm, .int .i64 n, .string s, .slice ka kn kc, .slice (some ⟨g, o, none⟩) 3 lc] 25) = w0 at *
 generalize Ex F w.heap.size 1 = G at *
 obtain ⟨HQ_0, HQ_1, HQ_2, HQ_3, HQ_4, HQ_5⟩ := (HQ.out.fr HQG.out HS0.out.fr).six
 refine (add_one G B T false vs ⟨#[116, 114, 121]⟩ _ w0 HS0.out.env.hF HS0.out.wr (by (try simp at hlim); (try simp); omega) (by decide) HZ.out.symm).mono ?_
 rintro e w1 ⟨rfl, ⟨vs1, hw⟩, hf⟩
 have HS1 := Lib.hid (HS0.out.next hw hf)
 clear hw hf HS0 HQ_0 HQ_1 HQ_2 HQ_3 HQ_4 HQ_5
 obtain ⟨HQ_0, HQ_1, HQ_2, HQ_3, HQ_4, HQ_5⟩ := (HQ.out.fr HQG.out HS1.out.fr).six
 obtain ⟨HYa_0, HYa_1, HYa_2, HYa_3, HYa_4, HYa_5⟩ := (HYa.out.fr HGg.out HS1.out.fr).six
 go_wp2_with fail
 refine (HWa.out ⟨a_k, a_nm, a_n, a_s, a_ka, a_kn, a_kc, a_la, a_ln, a_lc⟩ G B (T ++ [⟨#[116, 114, 121]⟩]) vs1 n0 w1 HS1.out.env (HS1.out.is HIa.out) HS1.out.wr (by (try simp at hlim); (try simp); omega)).mono ?_
 rintro e w2 ⟨rfl, ⟨vs2, hw⟩, hf⟩
 have HS2 := Lib.hid (HS1.out.next hw hf)
 clear hw hf HS1 HQ_0 HQ_1 HQ_2 HQ_3 HQ_4 HQ_5 HYa_0 HYa_1 HYa_2 HYa_3 HYa_4 HYa_5
 obtain ⟨HQ_0, HQ_1, HQ_2, HQ_3, HQ_4, HQ_5⟩ := (HQ.out.fr HQG.out HS2.out.fr).six
 go_wp2_with fail
 refine (HCt.out _ (HS2.out.isUp HI0.out)).mono ?_
 rintro e w2' ⟨rfl, hb1⟩
 have HT2 := Lib.hid (HS2.out.below hb1)
 clear hb1 HS2 HQ_0 HQ_1 HQ_2 HQ_3 HQ_4 HQ_5
 have HS2 := HT2
 clear HT2
 obtain ⟨HQ_0, HQ_1, HQ_2, HQ_3, HQ_4, HQ_5⟩ := (HQ.out.fr HQG.out HS2.out.fr).six
 go_wp2_with fail
 refine (add_new G B ((T ++ [⟨#[116, 114, 121]⟩]) ++ a.o.st) false vs2 [⟨#[99, 97, 116, 99, 104]⟩, ⟨#[40]⟩, nm, ⟨#[41]⟩] _ _ 4 w2' HS2.out.env.hF HS2.out.wr (by (try simp at hlim); (try simp); omega) rfl rfl rfl (((T ++ [⟨#[116, 114, 121]⟩]) ++ a.o.st) ++ ⟨#[99, 97, 116, 99, 104]⟩ :: brack ⟨#[40]⟩ ⟨#[41]⟩ [nm]) (by rw [full4 HNM.out])).mono ?_
 rintro e w3 ⟨rfl, ⟨vs3, hw⟩, hf⟩
 have HS3 := Lib.hid (HS2.out.next hw hf)
 clear hw hf HS2 HQ_0 HQ_1 HQ_2 HQ_3 HQ_4 HQ_5
 obtain ⟨HQ_0, HQ_1, HQ_2, HQ_3, HQ_4, HQ_5⟩ := (HQ.out.fr HQG.out HS3.out.fr).six
 obtain ⟨HYc_0, HYc_1, HYc_2, HYc_3, HYc_4, HYc_5⟩ := (HYc.out.fr HGg.out HS3.out.fr).six
 go_wp2_with fail
 refine (HWc.out ⟨c_k, c_nm, c_n, c_s, c_ka, c_kn, c_kc, c_la, c_ln, c_lc⟩ G B (((T ++ [⟨#[116, 114, 121]⟩]) ++ a.o.st) ++ ⟨#[99, 97, 116, 99, 104]⟩ :: brack ⟨#[40]⟩ ⟨#[41]⟩ [nm]) vs3 n0 w3 HS3.out.env (HS3.out.is HIc.out) HS3.out.wr (by (try simp at hlim); (try simp); omega)).mono ?_
 rintro e w4 ⟨rfl, ⟨vs4, hw⟩, hf⟩
 have HS4 := Lib.hid (HS3.out.next hw hf)
 clear hw hf HS3 HQ_0 HQ_1 HQ_2 HQ_3 HQ_4 HQ_5 HYc_0 HYc_1 HYc_2 HYc_3 HYc_4 HYc_5
 obtain ⟨HQ_0, HQ_1, HQ_2, HQ_3, HQ_4, HQ_5⟩ := (HQ.out.fr HQG.out HS4.out.fr).six
 obtain ⟨HYe_0, HYe_1, HYe_2, HYe_3, HYe_4, HYe_5⟩ := (HYe.out.fr HGg.out HS4.out.fr).six
 go_wp2_with fail
 refine (HBk.out _ (HS4.out.isUp HIe.out)).mono ?_
 rintro e w4'' ⟨rfl, hb1⟩
 have HT4 := Lib.hid (HS4.out.below hb1)
 clear hb1 HS4 HQ_0 HQ_1 HQ_2 HQ_3 HQ_4 HQ_5 HYe_0 HYe_1 HYe_2 HYe_3 HYe_4 HYe_5
 have HS4 := HT4
 clear HT4
 have HT : Hid (((((T ++ [⟨#[116, 114, 121]⟩]) ++ a.o.st) ++ ⟨#[99, 97, 116, 99, 104]⟩ :: brack ⟨#[40]⟩ ⟨#[41]⟩ [nm]) ++ c.o.st) = T ++ (⟨#[116, 114, 121]⟩ :: (a.o.st ++ (⟨#[99, 97, 116, 99, 104]⟩ :: (brack ⟨#[40]⟩ ⟨#[41]⟩ [nm] ++ c.o.st) ++ [])))) := by
  show _ = _
  simp
 go_wp2_with fail
 go_end0
 have hfin := HS4.out.adds
 rw [HT.out] at hfin
 exact HFIN.out _ _ _ _ hfin
theorem try_ny (v a c e : V) (hl : v.l = [a, c, e]) (hwa : WStmt a) (hcb : ¬ c.k = 25) (heb : e.k = 25) (hwe : WStmt e) : Writes0 87 v (⟨#[116, 114, 121]⟩ :: (a.o.st ++ ([] ++ ⟨#[102, 105, 110, 97, 108, 108, 121]⟩ :: e.o.st))) := by
 intro x F B T vs n0 w hE hx hW hlim
 have HCt := Lib.hid fun w' (h : Is w' v x) => catches_any v x w' h (by rw [hl]; simp)
 have hct : ctch v = false := by
  unfold ctch
  rw [hl]
  exact decide_eq_false hcb
 rw [hct] at HCt
 have HIx := Lib.hid hx
 obtain ⟨ka, kc, la, lc, rfl, h1, h2, h3, h4⟩ := hx.open
 simp only [X.v] at *
 rw [hl] at h4
 obtain ⟨g, o, ya, yc, ye, rfl, hg, ⟨hya, hia⟩, ⟨hyc, hic⟩, hye, hie⟩ := h4.three
 have hln : v.l.length = 3 := by rw [hl]; rfl
 clear hl
 generalize v.l.length = ln at *
 subst hln
 have HBk := Lib.hid fun w' (h : Is w' e ye) => isBlock_any e ye w' h
 have hbk : isK 25 e = true := decide_eq_true heb
 rw [hbk] at HBk
 obtain ⟨hN, hq⟩ := new1 hE hW #[.int .i64 v.k, .string v.nm, .int .i64 v.n, .string v.s, .slice ka v.ks.length kc, .slice (some ⟨g, o, none⟩) 3 lc] 25
 have HS0 := Lib.hid hN.sit
 have HFIN := Lib.hid hN.fin
 have HQ := Lib.hid (Box.at_ (x := ⟨v.k, v.nm, v.n, v.s, ka, v.ks.length, kc, some ⟨g, o, none⟩, 3, lc⟩) hq)
 have HQG := Lib.hid hq.inF
 have HI0 := Lib.hid (hN.is _ _ HIx.out)
 have HGg := Lib.hid (hN.sit.env.sub g hg)
 have HYa := Lib.hid (hN.at_ _ _ _ hg hya)
 have HIa := Lib.hid (hN.is _ _ hia)
 have HYc := Lib.hid (hN.at_ _ _ _ hg hyc)
 have HIc := Lib.hid (hN.is _ _ hic)
 have HYe := Lib.hid (hN.at_ _ _ _ hg hye)
 have HIe := Lib.hid (hN.is _ _ hie)
 have HWa := Lib.hid hwa
 have HWe := Lib.hid hwe
 obtain ⟨a_k, a_nm, a_n, a_s, a_ka, a_kn, a_kc, a_la, a_ln, a_lc⟩ := ya
 obtain ⟨c_k, c_nm, c_n, c_s, c_ka, c_kn, c_kc, c_la, c_ln, c_lc⟩ := yc
 obtain ⟨e_k, e_nm, e_n, e_s, e_ka, e_kn, e_kc, e_la, e_ln, e_lc⟩ := ye
 simp only [X.v] at HBk
 clear hN hq hE hx hW h1 h2 h3 h4 hya hyc hye hia hic hie hg HIx hct hbk hcb heb hwa hwe
 generalize v.k = k at *
 generalize v.nm = nm at *
 generalize v.n = n at *
 generalize v.s = s at *
 generalize v.ks.length = kn at *
 go_enter Tryz.func87, Tryz.ntmps87
 go_wp2_with fail
 have HZ : Hid ((w.alloc (.cells #[.int .i64 k, .string nm, .int .i64 n, .string s, .slice ka kn kc, .slice (some ⟨g, o, none⟩) 3 lc] 25)).heap.size = w.heap.size + 1) := by
  show _ = _
  simp
 generalize w.alloc (.cells #[.int .i64 k, .string nm, .int .i64 n, .string s, .slice ka kn kc, .slice (some ⟨g, o, none⟩) 3 lc] 25) = w0 at *
 generalize Ex F w.heap.size 1 = G at *
 obtain ⟨HQ_0, HQ_1, HQ_2, HQ_3, HQ_4, HQ_5⟩ := (HQ.out.fr HQG.out HS0.out.fr).six
 refine (add_one G B T false vs ⟨#[116, 114, 121]⟩ _ w0 HS0.out.env.hF HS0.out.wr (by (try simp at hlim); (try simp); omega) (by decide) HZ.out.symm).mono ?_
 rintro e w1 ⟨rfl, ⟨vs1, hw⟩, hf⟩
 have HS1 := Lib.hid (HS0.out.next hw hf)
 clear hw hf HS0 HQ_0 HQ_1 HQ_2 HQ_3 HQ_4 HQ_5
 obtain ⟨HQ_0, HQ_1, HQ_2, HQ_3, HQ_4, HQ_5⟩ := (HQ.out.fr HQG.out HS1.out.fr).six
 obtain ⟨HYa_0, HYa_1, HYa_2, HYa_3, HYa_4, HYa_5⟩ := (HYa.out.fr HGg.out HS1.out.fr).six
 go_wp2_with fail
 refine (HWa.out ⟨a_k, a_nm, a_n, a_s, a_ka, a_kn, a_kc, a_la, a_ln, a_lc⟩ G B (T ++ [⟨#[116, 114, 121]⟩]) vs1 n0 w1 HS1.out.env (HS1.out.is HIa.out) HS1.out.wr (by (try simp at hlim); (try simp); omega)).mono ?_
 rintro e w2 ⟨rfl, ⟨vs2, hw⟩, hf⟩
 have HS2 := Lib.hid (HS1.out.next hw hf)
 clear hw hf HS1 HQ_0 HQ_1 HQ_2 HQ_3 HQ_4 HQ_5 HYa_0 HYa_1 HYa_2 HYa_3 HYa_4 HYa_5
 obtain ⟨HQ_0, HQ_1, HQ_2, HQ_3, HQ_4, HQ_5⟩ := (HQ.out.fr HQG.out HS2.out.fr).six
 go_wp2_with fail
 refine (HCt.out _ (HS2.out.isUp HI0.out)).mono ?_
 rintro e w2' ⟨rfl, hb1⟩
 have HT2 := Lib.hid (HS2.out.below hb1)
 clear hb1 HS2 HQ_0 HQ_1 HQ_2 HQ_3 HQ_4 HQ_5
 have HS2 := HT2
 clear HT2
 obtain ⟨HQ_0, HQ_1, HQ_2, HQ_3, HQ_4, HQ_5⟩ := (HQ.out.fr HQG.out HS2.out.fr).six
 obtain ⟨HYe_0, HYe_1, HYe_2, HYe_3, HYe_4, HYe_5⟩ := (HYe.out.fr HGg.out HS2.out.fr).six
 go_wp2_with fail
 refine (HBk.out _ (HS2.out.isUp HIe.out)).mono ?_
 rintro e w2'' ⟨rfl, hb1⟩
 have HT2 := Lib.hid (HS2.out.below hb1)
 clear hb1 HS2 HQ_0 HQ_1 HQ_2 HQ_3 HQ_4 HQ_5 HYe_0 HYe_1 HYe_2 HYe_3 HYe_4 HYe_5
 have HS2 := HT2
 clear HT2
 obtain ⟨HQ_0, HQ_1, HQ_2, HQ_3, HQ_4, HQ_5⟩ := (HQ.out.fr HQG.out HS2.out.fr).six
 go_wp2_with fail
 refine (add_one G B ((T ++ [⟨#[116, 114, 121]⟩]) ++ a.o.st) false vs2 ⟨#[102, 105, 110, 97, 108, 108, 121]⟩ _ w2'' HS2.out.env.hF HS2.out.wr (by (try simp at hlim); (try simp); omega) (by decide) (by simp)).mono ?_
 rintro e w3 ⟨rfl, ⟨vs3, hw⟩, hf⟩
 have HS3 := Lib.hid (HS2.out.next hw hf)
 clear hw hf HS2 HQ_0 HQ_1 HQ_2 HQ_3 HQ_4 HQ_5
 obtain ⟨HQ_0, HQ_1, HQ_2, HQ_3, HQ_4, HQ_5⟩ := (HQ.out.fr HQG.out HS3.out.fr).six
 obtain ⟨HYe_0, HYe_1, HYe_2, HYe_3, HYe_4, HYe_5⟩ := (HYe.out.fr HGg.out HS3.out.fr).six
 go_wp2_with fail
 refine (HWe.out ⟨e_k, e_nm, e_n, e_s, e_ka, e_kn, e_kc, e_la, e_ln, e_lc⟩ G B (((T ++ [⟨#[116, 114, 121]⟩]) ++ a.o.st) ++ [⟨#[102, 105, 110, 97, 108, 108, 121]⟩]) vs3 n0 w3 HS3.out.env (HS3.out.is HIe.out) HS3.out.wr (by (try simp at hlim); (try simp); omega)).mono ?_
 rintro e w4 ⟨rfl, ⟨vs4, hw⟩, hf⟩
 have HS4 := Lib.hid (HS3.out.next hw hf)
 clear hw hf HS3 HQ_0 HQ_1 HQ_2 HQ_3 HQ_4 HQ_5 HYe_0 HYe_1 HYe_2 HYe_3 HYe_4 HYe_5
 have HT : Hid (((((T ++ [⟨#[116, 114, 121]⟩]) ++ a.o.st) ++ [⟨#[102, 105, 110, 97, 108, 108, 121]⟩]) ++ e.o.st) = T ++ (⟨#[116, 114, 121]⟩ :: (a.o.st ++ ([] ++ ⟨#[102, 105, 110, 97, 108, 108, 121]⟩ :: e.o.st)))) := by
  show _ = _
  simp
 go_wp2_with fail
 go_end0
 have hfin := HS4.out.adds
 rw [HT.out] at hfin
 exact HFIN.out _ _ _ _ hfin
theorem try_nn (v a c e : V) (hl : v.l = [a, c, e]) (hwa : WStmt a) (hcb : ¬ c.k = 25) (heb : ¬ e.k = 25) : Writes0 87 v (⟨#[116, 114, 121]⟩ :: (a.o.st ++ ([] ++ []))) := by
 intro x F B T vs n0 w hE hx hW hlim
 have HCt := Lib.hid fun w' (h : Is w' v x) => catches_any v x w' h (by rw [hl]; simp)
 have hct : ctch v = false := by
  unfold ctch
  rw [hl]
  exact decide_eq_false hcb
 rw [hct] at HCt
 have HIx := Lib.hid hx
 obtain ⟨ka, kc, la, lc, rfl, h1, h2, h3, h4⟩ := hx.open
 simp only [X.v] at *
 rw [hl] at h4
 obtain ⟨g, o, ya, yc, ye, rfl, hg, ⟨hya, hia⟩, ⟨hyc, hic⟩, hye, hie⟩ := h4.three
 have hln : v.l.length = 3 := by rw [hl]; rfl
 clear hl
 generalize v.l.length = ln at *
 subst hln
 have HBk := Lib.hid fun w' (h : Is w' e ye) => isBlock_any e ye w' h
 have hbk : isK 25 e = false := decide_eq_false heb
 rw [hbk] at HBk
 obtain ⟨hN, hq⟩ := new1 hE hW #[.int .i64 v.k, .string v.nm, .int .i64 v.n, .string v.s, .slice ka v.ks.length kc, .slice (some ⟨g, o, none⟩) 3 lc] 25
 have HS0 := Lib.hid hN.sit
 have HFIN := Lib.hid hN.fin
 have HQ := Lib.hid (Box.at_ (x := ⟨v.k, v.nm, v.n, v.s, ka, v.ks.length, kc, some ⟨g, o, none⟩, 3, lc⟩) hq)
 have HQG := Lib.hid hq.inF
 have HI0 := Lib.hid (hN.is _ _ HIx.out)
 have HGg := Lib.hid (hN.sit.env.sub g hg)
 have HYa := Lib.hid (hN.at_ _ _ _ hg hya)
 have HIa := Lib.hid (hN.is _ _ hia)
 have HYc := Lib.hid (hN.at_ _ _ _ hg hyc)
 have HIc := Lib.hid (hN.is _ _ hic)
 have HYe := Lib.hid (hN.at_ _ _ _ hg hye)
 have HIe := Lib.hid (hN.is _ _ hie)
 have HWa := Lib.hid hwa
 obtain ⟨a_k, a_nm, a_n, a_s, a_ka, a_kn, a_kc, a_la, a_ln, a_lc⟩ := ya
 obtain ⟨c_k, c_nm, c_n, c_s, c_ka, c_kn, c_kc, c_la, c_ln, c_lc⟩ := yc
 obtain ⟨e_k, e_nm, e_n, e_s, e_ka, e_kn, e_kc, e_la, e_ln, e_lc⟩ := ye
 simp only [X.v] at HBk
 clear hN hq hE hx hW h1 h2 h3 h4 hya hyc hye hia hic hie hg HIx hct hbk hcb heb hwa
 generalize v.k = k at *
 generalize v.nm = nm at *
 generalize v.n = n at *
 generalize v.s = s at *
 generalize v.ks.length = kn at *
 go_enter Tryz.func87, Tryz.ntmps87
 go_wp2_with fail
 have HZ : Hid ((w.alloc (.cells #[.int .i64 k, .string nm, .int .i64 n, .string s, .slice ka kn kc, .slice (some ⟨g, o, none⟩) 3 lc] 25)).heap.size = w.heap.size + 1) := by
  show _ = _
  simp
 generalize w.alloc (.cells #[.int .i64 k, .string nm, .int .i64 n, .string s, .slice ka kn kc, .slice (some ⟨g, o, none⟩) 3 lc] 25) = w0 at *
 generalize Ex F w.heap.size 1 = G at *
 obtain ⟨HQ_0, HQ_1, HQ_2, HQ_3, HQ_4, HQ_5⟩ := (HQ.out.fr HQG.out HS0.out.fr).six
 refine (add_one G B T false vs ⟨#[116, 114, 121]⟩ _ w0 HS0.out.env.hF HS0.out.wr (by (try simp at hlim); (try simp); omega) (by decide) HZ.out.symm).mono ?_
 rintro e w1 ⟨rfl, ⟨vs1, hw⟩, hf⟩
 have HS1 := Lib.hid (HS0.out.next hw hf)
 clear hw hf HS0 HQ_0 HQ_1 HQ_2 HQ_3 HQ_4 HQ_5
 obtain ⟨HQ_0, HQ_1, HQ_2, HQ_3, HQ_4, HQ_5⟩ := (HQ.out.fr HQG.out HS1.out.fr).six
 obtain ⟨HYa_0, HYa_1, HYa_2, HYa_3, HYa_4, HYa_5⟩ := (HYa.out.fr HGg.out HS1.out.fr).six
 go_wp2_with fail
 refine (HWa.out ⟨a_k, a_nm, a_n, a_s, a_ka, a_kn, a_kc, a_la, a_ln, a_lc⟩ G B (T ++ [⟨#[116, 114, 121]⟩]) vs1 n0 w1 HS1.out.env (HS1.out.is HIa.out) HS1.out.wr (by (try simp at hlim); (try simp); omega)).mono ?_
 rintro e w2 ⟨rfl, ⟨vs2, hw⟩, hf⟩
 have HS2 := Lib.hid (HS1.out.next hw hf)
 clear hw hf HS1 HQ_0 HQ_1 HQ_2 HQ_3 HQ_4 HQ_5 HYa_0 HYa_1 HYa_2 HYa_3 HYa_4 HYa_5
 obtain ⟨HQ_0, HQ_1, HQ_2, HQ_3, HQ_4, HQ_5⟩ := (HQ.out.fr HQG.out HS2.out.fr).six
 go_wp2_with fail
 refine (HCt.out _ (HS2.out.isUp HI0.out)).mono ?_
 rintro e w2' ⟨rfl, hb1⟩
 have HT2 := Lib.hid (HS2.out.below hb1)
 clear hb1 HS2 HQ_0 HQ_1 HQ_2 HQ_3 HQ_4 HQ_5
 have HS2 := HT2
 clear HT2
 obtain ⟨HQ_0, HQ_1, HQ_2, HQ_3, HQ_4, HQ_5⟩ := (HQ.out.fr HQG.out HS2.out.fr).six
 obtain ⟨HYe_0, HYe_1, HYe_2, HYe_3, HYe_4, HYe_5⟩ := (HYe.out.fr HGg.out HS2.out.fr).six
 go_wp2_with fail
 refine (HBk.out _ (HS2.out.isUp HIe.out)).mono ?_
 rintro e w2'' ⟨rfl, hb1⟩
 have HT2 := Lib.hid (HS2.out.below hb1)
 clear hb1 HS2 HQ_0 HQ_1 HQ_2 HQ_3 HQ_4 HQ_5 HYe_0 HYe_1 HYe_2 HYe_3 HYe_4 HYe_5
 have HS2 := HT2
 clear HT2
 have HT : Hid (((T ++ [⟨#[116, 114, 121]⟩]) ++ a.o.st) = T ++ (⟨#[116, 114, 121]⟩ :: (a.o.st ++ ([] ++ [])))) := by
  show _ = _
  simp
 go_wp2_with fail
 go_end0
 have hfin := HS2.out.adds
 rw [HT.out] at hfin
 exact HFIN.out _ _ _ _ hfin
theorem try_any (v a c e : V) (hl : v.l = [a, c, e]) (hwa : WStmt a) (hc : c.k = 25 → WStmt c ∧ ¬ v.nm.size = 0) (he : e.k = 25 → WStmt e) : Writes0 87 v (⟨#[116, 114, 121]⟩ :: (a.o.st ++ ((if c.k = 25 then ⟨#[99, 97, 116, 99, 104]⟩ :: (brack ⟨#[40]⟩ ⟨#[41]⟩ [v.nm] ++ c.o.st) else []) ++ (if e.k = 25 then ⟨#[102, 105, 110, 97, 108, 108, 121]⟩ :: e.o.st else [])))) := by
 by_cases h1 : c.k = 25
 ·by_cases h2 : e.k = 25
  ·rw [if_pos h1, if_pos h2]; exact try_yy v a c e hl hwa h1 (hc h1).1 (hc h1).2 h2 (he h2)
  ·rw [if_pos h1, if_neg h2]; exact try_yn v a c e hl hwa h1 (hc h1).1 (hc h1).2 h2
 ·by_cases h2 : e.k = 25
  ·rw [if_neg h1, if_pos h2]; exact try_ny v a c e hl hwa h1 h2 (he h2)
  ·rw [if_neg h1, if_neg h2]; exact try_nn v a c e hl hwa h1 h2
theorem c_loop (a c e : V) (hwa : WPart a) (hwc : WPart c) (hwe : WPart e) (F : Nat → Prop) (B : Nat) (T : Ts) (vs : Value) (n0 : Nat) (w : World) (p r gg o lc : Nat) (ya yc ye : X) (hE : Env w F n0) (hW : Wr w F B T false vs) (hp : Box w F p #[.pointer (some ⟨B, 0, none⟩)] 57)
  (hr : Box w F r #[.slice (some ⟨gg, o, none⟩) 4 lc] 23) (hg : gg < n0) (hya : At w gg (o) ya) (hia : IsB w n0 a ya) (hyc : At w gg (o + 6) yc) (hic : IsB w n0 c yc) (hye : At w gg (o + 12) ye) (hie : IsB w n0 e ye) (hlim : T.length + (a.o.part true ++ ⟨#[59]⟩ :: (c.o.part false ++ ⟨#[59]⟩ :: e.o.part false)).length ≤ 8796093020000) :
  Calls Tryz.prog 120 #[.pointer (some ⟨p, 0, none⟩), .pointer (some ⟨r, 0, none⟩)] w (Adds w F B (T ++ (a.o.part true ++ ⟨#[59]⟩ :: (c.o.part false ++ ⟨#[59]⟩ :: e.o.part false))) false) := by
 have HS0 := Lib.hid (⟨hE, hW, Fr.refl _ _⟩ : Sit w F n0 B T false vs w)
 have HP := Lib.hid hp
 have HR := Lib.hid hr
 have HGg := Lib.hid (hE.sub gg hg)
 have HYa := Lib.hid hya
 have HIa := Lib.hid hia
 have HWa := Lib.hid hwa
 obtain ⟨a_k, a_nm, a_n, a_s, a_ka, a_kn, a_kc, a_la, a_ln, a_lc⟩ := ya
 have HYc := Lib.hid hyc
 have HIc := Lib.hid hic
 have HWc := Lib.hid hwc
 obtain ⟨c_k, c_nm, c_n, c_s, c_ka, c_kn, c_kc, c_la, c_ln, c_lc⟩ := yc
 have HYe := Lib.hid hye
 have HIe := Lib.hid hie
 have HWe := Lib.hid hwe
 obtain ⟨e_k, e_nm, e_n, e_s, e_ka, e_kn, e_kc, e_la, e_ln, e_lc⟩ := ye
 clear hp hr hE hW hg hya hia hwa hyc hic hwc hye hie hwe
 generalize F = G at *
 generalize w = w0 at *
 have cHP := (HP.out.to HS0.out.fr).cell
 have hb1 := HS0.out.wr.c1
 have hz1 := HS0.out.wr.f1
 go_enter Tryz.func120, Tryz.ntmps120
 go_wp2_with fail
 clear cHP hb1 hz1
 have HS1 := Lib.hid (HS0.out.flag true)
 generalize w0.setCell ⟨B, 1, none⟩ (.bool true) = w1 at *
 clear HS0
 have HPx := HP
 clear HPx
 have cHP := (HP.out.to HS1.out.fr).cell
 have cHR := (HR.out.to HS1.out.fr).cell
 obtain ⟨HYa_0, HYa_1, HYa_2, HYa_3, HYa_4, HYa_5⟩ := (HYa.out.fr HGg.out HS1.out.fr).six
 go_wp2_with fail
 go_still_tail 4, (by kernel_rfl)
 have HD1 := Lib.hid HS1.out.drew
 change wpList _ _ _ _ _ w1.drew
 generalize w1.drew = wd1 at *
 clear HS1
 go_wp2_with fail
 refine ((part_any a HWa.out) ⟨a_k, a_nm, a_n, a_s, a_ka, a_kn, a_kc, a_la, a_ln, a_lc⟩ G B T true vs n0 wd1 HD1.out.env (HD1.out.is HIa.out) HD1.out.wr (by (try simp at hlim); (try simp); omega)).mono ?_
 rintro e w2 ⟨rfl, ⟨vs2, hw⟩, hf⟩
 have HS2 := Lib.hid (HD1.out.next hw hf)
 clear hw hf HD1 cHP cHR HYa_0 HYa_1 HYa_2 HYa_3 HYa_4 HYa_5
 have cHP := (HP.out.to HS2.out.fr).cell
 have hb1 := HS2.out.wr.c1
 have hz1 := HS2.out.wr.f1
 go_wp2_with fail
 have HS3 := Lib.hid (HS2.out.flag false)
 clear hb1 hz1 cHP
 have HZ : Hid ((w2.setCell ⟨B, 1, none⟩ (.bool false)).heap.size = w2.heap.size) := by
  show _ = _
  simp [World.setCell]
 generalize w2.setCell ⟨B, 1, none⟩ (.bool false) = w3 at *
 clear HS2
 have cHP := (HP.out.to HS3.out.fr).cell
 go_wp2_with fail
 refine (add_one G B (T ++ a.o.part true) false vs2 ⟨#[59]⟩ _ w3 HS3.out.env.hF HS3.out.wr (by (try simp at hlim); (try simp); omega) (by decide) HZ.out.symm).mono ?_
 rintro e w4 ⟨rfl, ⟨vs4, hw⟩, hf⟩
 have HS4 := Lib.hid (HS3.out.next hw hf)
 clear hw hf HS3 cHP
 have cHP := (HP.out.to HS4.out.fr).cell
 have cHR := (HR.out.to HS4.out.fr).cell
 obtain ⟨HYc_0, HYc_1, HYc_2, HYc_3, HYc_4, HYc_5⟩ := (HYc.out.fr HGg.out HS4.out.fr).six
 go_wp2_with fail
 go_still_tail 4, (by kernel_rfl)
 have HD4 := Lib.hid HS4.out.drew
 change wpList _ _ _ _ _ w4.drew
 generalize w4.drew = wd4 at *
 clear HS4
 go_wp2_with fail
 refine ((part_any c HWc.out) ⟨c_k, c_nm, c_n, c_s, c_ka, c_kn, c_kc, c_la, c_ln, c_lc⟩ G B ((T ++ a.o.part true) ++ [⟨#[59]⟩]) false vs4 n0 wd4 HD4.out.env (HD4.out.is HIc.out) HD4.out.wr (by (try simp at hlim); (try simp); omega)).mono ?_
 rintro e w5 ⟨rfl, ⟨vs5, hw⟩, hf⟩
 have HS5 := Lib.hid (HD4.out.next hw hf)
 clear hw hf HD4 cHP cHR HYc_0 HYc_1 HYc_2 HYc_3 HYc_4 HYc_5
 have cHP := (HP.out.to HS5.out.fr).cell
 go_wp2_with fail
 refine (add_one G B (((T ++ a.o.part true) ++ [⟨#[59]⟩]) ++ c.o.part false) false vs5 ⟨#[59]⟩ _ w5 HS5.out.env.hF HS5.out.wr (by (try simp at hlim); (try simp); omega) (by decide) (by simp)).mono ?_
 rintro e w6 ⟨rfl, ⟨vs6, hw⟩, hf⟩
 have HS6 := Lib.hid (HS5.out.next hw hf)
 clear hw hf HS5 cHP
 have cHP := (HP.out.to HS6.out.fr).cell
 have cHR := (HR.out.to HS6.out.fr).cell
 obtain ⟨HYe_0, HYe_1, HYe_2, HYe_3, HYe_4, HYe_5⟩ := (HYe.out.fr HGg.out HS6.out.fr).six
 go_wp2_with fail
 go_still_tail 4, (by kernel_rfl)
 have HD6 := Lib.hid HS6.out.drew
 change wpList _ _ _ _ _ w6.drew
 generalize w6.drew = wd6 at *
 clear HS6
 go_wp2_with fail
 refine ((part_any e HWe.out) ⟨e_k, e_nm, e_n, e_s, e_ka, e_kn, e_kc, e_la, e_ln, e_lc⟩ G B ((((T ++ a.o.part true) ++ [⟨#[59]⟩]) ++ c.o.part false) ++ [⟨#[59]⟩]) false vs6 n0 wd6 HD6.out.env (HD6.out.is HIe.out) HD6.out.wr (by (try simp at hlim); (try simp); omega)).mono ?_
 rintro e w7 ⟨rfl, ⟨vs7, hw⟩, hf⟩
 have HS7 := Lib.hid (HD6.out.next hw hf)
 clear hw hf HD6 cHP cHR HYe_0 HYe_1 HYe_2 HYe_3 HYe_4 HYe_5
 have HT : Hid ((((((T ++ a.o.part true) ++ [⟨#[59]⟩]) ++ c.o.part false) ++ [⟨#[59]⟩]) ++ e.o.part false) = T ++ (a.o.part true ++ ⟨#[59]⟩ :: (c.o.part false ++ ⟨#[59]⟩ :: e.o.part false))) := by
  show _ = _
  simp
 go_wp2_with fail
 go_end0
 have hfin := HS7.out.adds
 rw [HT.out] at hfin
 exact hfin
theorem c_loopIn (a c : V) (hwa : WPart a) (hwc : WExpr c) (F : Nat → Prop) (B : Nat) (T : Ts) (vs : Value) (n0 : Nat) (w : World) (p r gg o lc : Nat) (ya yc : X) (hE : Env w F n0) (hW : Wr w F B T false vs) (hp : Box w F p #[.pointer (some ⟨B, 0, none⟩)] 57)
  (hr : Box w F r #[.slice (some ⟨gg, o, none⟩) 3 lc] 23) (hg : gg < n0) (hya : At w gg (o) ya) (hia : IsB w n0 a ya) (hyc : At w gg (o + 6) yc) (hic : IsB w n0 c yc) (hlim : T.length + (a.o.part false ++ ⟨#[105, 110]⟩ :: c.o.at 0 false).length ≤ 8796093020000) :
  Calls Tryz.prog 122 #[.pointer (some ⟨p, 0, none⟩), .pointer (some ⟨r, 0, none⟩)] w (Adds w F B (T ++ (a.o.part false ++ ⟨#[105, 110]⟩ :: c.o.at 0 false)) false) := by
 have HS0 := Lib.hid (⟨hE, hW, Fr.refl _ _⟩ : Sit w F n0 B T false vs w)
 have HP := Lib.hid hp
 have HR := Lib.hid hr
 have HGg := Lib.hid (hE.sub gg hg)
 have HYa := Lib.hid hya
 have HIa := Lib.hid hia
 have HWa := Lib.hid hwa
 obtain ⟨a_k, a_nm, a_n, a_s, a_ka, a_kn, a_kc, a_la, a_ln, a_lc⟩ := ya
 have HYc := Lib.hid hyc
 have HIc := Lib.hid hic
 have HWc := Lib.hid hwc
 obtain ⟨c_k, c_nm, c_n, c_s, c_ka, c_kn, c_kc, c_la, c_ln, c_lc⟩ := yc
 clear hp hr hE hW hg hya hia hwa hyc hic hwc
 generalize F = G at *
 generalize w = w0 at *
 have cHP := (HP.out.to HS0.out.fr).cell
 have cHR := (HR.out.to HS0.out.fr).cell
 obtain ⟨HYa_0, HYa_1, HYa_2, HYa_3, HYa_4, HYa_5⟩ := (HYa.out.fr HGg.out HS0.out.fr).six
 go_enter Tryz.func122, Tryz.ntmps122
 go_wp2_with fail
 go_still_tail 4, (by kernel_rfl)
 have HD0 := Lib.hid HS0.out.drew
 change wpList _ _ _ _ _ w0.drew
 generalize w0.drew = wd0 at *
 clear HS0
 go_wp2_with fail
 refine ((part_any a HWa.out) ⟨a_k, a_nm, a_n, a_s, a_ka, a_kn, a_kc, a_la, a_ln, a_lc⟩ G B T false vs n0 wd0 HD0.out.env (HD0.out.is HIa.out) HD0.out.wr (by (try simp at hlim); (try simp); omega)).mono ?_
 rintro e w1 ⟨rfl, ⟨vs1, hw⟩, hf⟩
 have HS1 := Lib.hid (HD0.out.next hw hf)
 clear hw hf HD0 cHP cHR HYa_0 HYa_1 HYa_2 HYa_3 HYa_4 HYa_5
 have cHP := (HP.out.to HS1.out.fr).cell
 go_wp2_with fail
 refine (add_one G B (T ++ a.o.part false) false vs1 ⟨#[105, 110]⟩ _ w1 HS1.out.env.hF HS1.out.wr (by (try simp at hlim); (try simp); omega) (by decide) (by simp)).mono ?_
 rintro e w2 ⟨rfl, ⟨vs2, hw⟩, hf⟩
 have HS2 := Lib.hid (HS1.out.next hw hf)
 clear hw hf HS1 cHP
 have cHP := (HP.out.to HS2.out.fr).cell
 have cHR := (HR.out.to HS2.out.fr).cell
 obtain ⟨HYc_0, HYc_1, HYc_2, HYc_3, HYc_4, HYc_5⟩ := (HYc.out.fr HGg.out HS2.out.fr).six
 go_wp2_with fail
 go_still_tail 4, (by kernel_rfl)
 have HD2 := Lib.hid HS2.out.drew
 change wpList _ _ _ _ _ w2.drew
 generalize w2.drew = wd2 at *
 clear HS2
 go_wp2_with fail
 refine (HWc.out 0 ⟨c_k, c_nm, c_n, c_s, c_ka, c_kn, c_kc, c_la, c_ln, c_lc⟩ G B ((T ++ a.o.part false) ++ [⟨#[105, 110]⟩]) false vs2 n0 wd2 HD2.out.env (HD2.out.is HIc.out) HD2.out.wr (by (try simp at hlim); (try simp); omega)).mono ?_
 rintro e w3 ⟨rfl, ⟨vs3, hw⟩, hf⟩
 have HS3 := Lib.hid (HD2.out.next hw hf)
 clear hw hf HD2 cHP cHR HYc_0 HYc_1 HYc_2 HYc_3 HYc_4 HYc_5
 have HT : Hid ((((T ++ a.o.part false) ++ [⟨#[105, 110]⟩]) ++ c.o.at 0 false) = T ++ (a.o.part false ++ ⟨#[105, 110]⟩ :: c.o.at 0 false)) := by
  show _ = _
  simp
 go_wp2_with fail
 go_end0
 have hfin := HS3.out.adds
 rw [HT.out] at hfin
 exact hfin
end Go.Proofs.YtllpgoaanbiodaaGreatDoor.R
