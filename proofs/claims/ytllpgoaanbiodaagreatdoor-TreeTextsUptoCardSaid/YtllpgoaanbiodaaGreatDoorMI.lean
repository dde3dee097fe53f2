/-

-/
import Derived.Test.YtllpgoaanbiodaaGreatDoorMG
import Derived.Test.YtllpgoaanbiodaaGreatDoorMQ0
set_option maxHeartbeats 1000000
set_option maxRecDepth 8000
namespace Go.Proofs.YtllpgoaanbiodaaGreatDoor.R
open Go.RowKit Go.Proofs.YtllpgoaanbiodaaGreatDoor Go.Proofs.YtllpgoaanbiodaaGreatDoor.T
theorem bare_13 (v a : V) (r : List V) (hv : v.k = 13) (hl : v.l = a :: r) (hwa : WExpr a) (hwr : ∀ u ∈ r, WExpr u) (hrl : r.length ≤ 4194303) : Writes 133 v fun b => v.o.raw b := by
 intro x F B T b vs n0 w hE hx hW hlim
 have hraw : v.o.raw b = a.o.at 11 b ++ brack ⟨#[40]⟩ ⟨#[41]⟩ (commas (r.map fun u : V => u.o.at 1 false)) := by
  rw [o_raw, hv, hl]
  show _ = _
  simp [rawN, Function.comp_def]
 have hlen1 := congrArg List.length hraw
 dsimp only at hlim
 rw [hlen1] at hlim
 obtain ⟨ka, kc, la, lc, rfl, h1, h2, h3, h4⟩ := hx.open
 simp only [X.v] at *
 rw [hl] at h4
 obtain ⟨g, o, ya, rfl, hg, hya, hia, hrr⟩ := h4.cons
 rw [hv] at *
 have hln : v.l.length = r.length + 1 := by rw [hl]; rfl
 have hlc : r.length + 1 ≤ lc := by rw [← hln]; exact h2
 rw [hln] at *
 have HRAW := Lib.hid hraw
 have HWR := Lib.hid hwr
 clear hraw hlen1 hv hl hln hwr
 generalize v.nm = nm at *
 generalize v.n = n at *
 generalize v.s = s at *
 generalize v.ks.length = kn at *
 obtain ⟨hN, hp, hq, hr⟩ := new3 hE hW #[.pointer (some ⟨B, 0, none⟩)] #[.int .i64 13, .string nm, .int .i64 n, .string s, .slice ka kn kc, .slice (some ⟨g, o, none⟩) (r.length + 1) lc] #[.slice (some ⟨g, o, none⟩) (r.length + 1) lc] 57 25 23
 have HS0 := Lib.hid hN.sit
 have HFIN := Lib.hid hN.fin
 have HP := Lib.hid hp
 have HR := Lib.hid hr
 have HQ := Lib.hid (Box.at_ (x := ⟨13, nm, n, s, ka, kn, kc, (some ⟨g, o, none⟩), (r.length + 1), lc⟩) hq)
 have HQG := Lib.hid hq.inF
 have HQB := Lib.hid hq
 have HGg := Lib.hid (hN.sit.env.sub g hg)
 have hgn := hg
 have HYa := Lib.hid (hN.at_ _ _ _ hg hya)
 have HIa := Lib.hid (hN.is _ _ hia)
 have HWa := Lib.hid hwa
 obtain ⟨a_k, a_nm, a_n, a_s, a_ka, a_kn, a_kc, a_la, a_ln, a_lc⟩ := ya
 have HRR := Lib.hid (hN.row _ _ hrr)
 clear hrr
 clear hN hp hq hr hE hW hx h1 h2 h3 h4 hya hia hwa hg
 go_enter Tryz.func133, Tryz.ntmps133
 go_wp2_with fail
 have HZ : Hid ((((w.alloc (.cells #[.pointer (some ⟨B, 0, none⟩)] 57)).alloc (.cells #[.int .i64 13, .string nm, .int .i64 n, .string s, .slice ka kn kc, .slice (some ⟨g, o, none⟩) (r.length + 1) lc] 25)).alloc (.cells #[.slice (some ⟨g, o, none⟩) (r.length + 1) lc] 23)).heap.size = w.heap.size + 1 + 1 + 1) := by
  show _ = _
  simp
 generalize ((w.alloc (.cells #[.pointer (some ⟨B, 0, none⟩)] 57)).alloc (.cells #[.int .i64 13, .string nm, .int .i64 n, .string s, .slice ka kn kc, .slice (some ⟨g, o, none⟩) (r.length + 1) lc] 25)).alloc (.cells #[.slice (some ⟨g, o, none⟩) (r.length + 1) lc] 23) = w0 at *
 generalize Ex F w.heap.size 3 = G at *
 have cHP := (HP.out.to HS0.out.fr).cell
 have cHR := (HR.out.to HS0.out.fr).cell
 obtain ⟨HYa_0, HYa_1, HYa_2, HYa_3, HYa_4, HYa_5⟩ := (HYa.out.fr HGg.out HS0.out.fr).six
 go_still_tail 4, (by kernel_rfl)
 have HD0 := Lib.hid HS0.out.drew
 change wpList _ _ _ _ _ w0.drew
 generalize w0.drew = wd0 at *
 clear HS0
 go_wp2_with fail
 refine (HWa.out 11 ⟨a_k, a_nm, a_n, a_s, a_ka, a_kn, a_kc, a_la, a_ln, a_lc⟩ G B T b vs n0 wd0 HD0.out.env (HD0.out.is HIa.out) HD0.out.wr (by (try simp at hlim); (try simp); omega)).mono ?_
 rintro e w1 ⟨rfl, ⟨vs1, hw⟩, hf⟩
 have HS1 := Lib.hid (HD0.out.next hw hf)
 clear hw hf HD0 cHP cHR HYa_0 HYa_1 HYa_2 HYa_3 HYa_4 HYa_5
 have cHP := (HP.out.to HS1.out.fr).cell
 have cHR := (HR.out.to HS1.out.fr).cell
 go_wp2_with fail
 by_cases hc1 : lc = 1
 ·subst hc1
  have hr0 : r = [] := List.eq_nil_of_length_eq_zero (by omega)
  subst hr0
  simp only [List.length_nil, Nat.zero_add] at *
  go_still_tail 3, (by kernel_rfl)
  have HD1 := Lib.hid HS1.out.drew
  change wpList _ _ _ _ _ w1.drew
  generalize w1.drew = wd1 at *
  clear HS1
  go_wp2_with fail
  refine (elements_any [] (by intro u hu; exact HWR.out u hu) ⟨#[40]⟩ ⟨#[41]⟩ (by decide) (by decide) G B (T ++ a.o.at 11 b) b vs1 n0 wd1 (some ⟨g, o, none⟩) _ (by simp) HD1.out.env HD1.out.wr (.inl rfl) (by (try simp at hlim); (try simp); omega)).mono ?_
  rintro e w2 ⟨rfl, ⟨vs2, hw⟩, hf⟩
  have HS2 := Lib.hid (HD1.out.next hw hf)
  clear hw hf HD1 cHP cHR
  have HT : Hid (((T ++ a.o.at 11 b) ++ brack ⟨#[40]⟩ ⟨#[41]⟩ (commas ([].map fun u : V => u.o.at 1 false))) = T ++ v.o.raw b) := by
   show _ = _
   rw [HRAW.out]
   simp
  go_wp2_with fail
  go_end0
  have hfin := HS2.out.adds
  rw [HT.out] at hfin
  exact HFIN.out _ _ _ _ hfin
 ·have hc2 : ¬ 1 = lc := fun e => hc1 e.symm
  have hc3 : (1 : Int) ≤ (r.length : Int) + 1 := by omega
  go_still_tail 3, (by kernel_rfl)
  have HD1 := Lib.hid HS1.out.drew
  change wpList _ _ _ _ _ w1.drew
  generalize w1.drew = wd1 at *
  clear HS1
  go_wp2_with fail
  refine (elements_any r (by intro u hu; exact HWR.out u hu) ⟨#[40]⟩ ⟨#[41]⟩ (by decide) (by decide) G B (T ++ a.o.at 11 b) b vs1 n0 wd1 (some ⟨g, o + 6, none⟩) _ (by omega) HD1.out.env HD1.out.wr (HD1.out.row HRR.out) (by (try simp at hlim); (try simp); omega)).mono ?_
  rintro e w2 ⟨rfl, ⟨vs2, hw⟩, hf⟩
  have HS2 := Lib.hid (HD1.out.next hw hf)
  clear hw hf HD1 cHP cHR
  have HT : Hid (((T ++ a.o.at 11 b) ++ brack ⟨#[40]⟩ ⟨#[41]⟩ (commas (r.map fun u : V => u.o.at 1 false))) = T ++ v.o.raw b) := by
   show _ = _
   rw [HRAW.out]
   simp
  go_wp2_with fail
  go_end0
  have hfin := HS2.out.adds
  rw [HT.out] at hfin
  exact HFIN.out _ _ _ _ hfin
theorem bare_14 (v a : V) (r : List V) (hv : v.k = 14) (hl : v.l = a :: r) (hwa : WExpr a) (hwr : ∀ u ∈ r, WExpr u) (hrl : r.length ≤ 4194303) : Writes 133 v fun b => v.o.raw b := by
 intro x F B T b vs n0 w hE hx hW hlim
 have hraw : v.o.raw b = ⟨#[110, 101, 119]⟩ :: (a.o.at 12 b ++ brack ⟨#[40]⟩ ⟨#[41]⟩ (commas (r.map fun u : V => u.o.at 1 false))) := by
  rw [o_raw, hv, hl]
  show _ = _
  simp [rawN, Function.comp_def]
 have hlen1 := congrArg List.length hraw
 dsimp only at hlim
 rw [hlen1] at hlim
 obtain ⟨ka, kc, la, lc, rfl, h1, h2, h3, h4⟩ := hx.open
 simp only [X.v] at *
 rw [hl] at h4
 obtain ⟨g, o, ya, rfl, hg, hya, hia, hrr⟩ := h4.cons
 rw [hv] at *
 have hln : v.l.length = r.length + 1 := by rw [hl]; rfl
 have hlc : r.length + 1 ≤ lc := by rw [← hln]; exact h2
 rw [hln] at *
 have HRAW := Lib.hid hraw
 have HWR := Lib.hid hwr
 clear hraw hlen1 hv hl hln hwr
 generalize v.nm = nm at *
 generalize v.n = n at *
 generalize v.s = s at *
 generalize v.ks.length = kn at *
 obtain ⟨hN, hp, hq, hr⟩ := new3 hE hW #[.pointer (some ⟨B, 0, none⟩)] #[.int .i64 14, .string nm, .int .i64 n, .string s, .slice ka kn kc, .slice (some ⟨g, o, none⟩) (r.length + 1) lc] #[.slice (some ⟨g, o, none⟩) (r.length + 1) lc] 57 25 23
 have HS0 := Lib.hid hN.sit
 have HFIN := Lib.hid hN.fin
 have HP := Lib.hid hp
 have HR := Lib.hid hr
 have HQ := Lib.hid (Box.at_ (x := ⟨14, nm, n, s, ka, kn, kc, (some ⟨g, o, none⟩), (r.length + 1), lc⟩) hq)
 have HQG := Lib.hid hq.inF
 have HQB := Lib.hid hq
 have HGg := Lib.hid (hN.sit.env.sub g hg)
 have hgn := hg
 have HYa := Lib.hid (hN.at_ _ _ _ hg hya)
 have HIa := Lib.hid (hN.is _ _ hia)
 have HWa := Lib.hid hwa
 obtain ⟨a_k, a_nm, a_n, a_s, a_ka, a_kn, a_kc, a_la, a_ln, a_lc⟩ := ya
 have HRR := Lib.hid (hN.row _ _ hrr)
 clear hrr
 clear hN hp hq hr hE hW hx h1 h2 h3 h4 hya hia hwa hg
 go_enter Tryz.func133, Tryz.ntmps133
 go_wp2_with fail
 have HZ : Hid ((((w.alloc (.cells #[.pointer (some ⟨B, 0, none⟩)] 57)).alloc (.cells #[.int .i64 14, .string nm, .int .i64 n, .string s, .slice ka kn kc, .slice (some ⟨g, o, none⟩) (r.length + 1) lc] 25)).alloc (.cells #[.slice (some ⟨g, o, none⟩) (r.length + 1) lc] 23)).heap.size = w.heap.size + 1 + 1 + 1) := by
  show _ = _
  simp
 generalize ((w.alloc (.cells #[.pointer (some ⟨B, 0, none⟩)] 57)).alloc (.cells #[.int .i64 14, .string nm, .int .i64 n, .string s, .slice ka kn kc, .slice (some ⟨g, o, none⟩) (r.length + 1) lc] 25)).alloc (.cells #[.slice (some ⟨g, o, none⟩) (r.length + 1) lc] 23) = w0 at *
 generalize Ex F w.heap.size 3 = G at *
 have cHP := (HP.out.to HS0.out.fr).cell
 refine (add_one G B T b vs ⟨#[110, 101, 119]⟩ _ w0 HS0.out.env.hF HS0.out.wr (by (try simp at hlim); (try simp); omega) (by decide) HZ.out.symm).mono ?_
 rintro e w1 ⟨rfl, ⟨vs1, hw⟩, hf⟩
 have HS1 := Lib.hid (HS0.out.next hw hf)
 clear hw hf HS0 cHP
 have cHP := (HP.out.to HS1.out.fr).cell
 have cHR := (HR.out.to HS1.out.fr).cell
 obtain ⟨HYa_0, HYa_1, HYa_2, HYa_3, HYa_4, HYa_5⟩ := (HYa.out.fr HGg.out HS1.out.fr).six
 go_wp2_with fail
 go_still_tail 4, (by kernel_rfl)
 have HD1 := Lib.hid HS1.out.drew
 change wpList _ _ _ _ _ w1.drew
 generalize w1.drew = wd1 at *
 clear HS1
 go_wp2_with fail
 refine (HWa.out 12 ⟨a_k, a_nm, a_n, a_s, a_ka, a_kn, a_kc, a_la, a_ln, a_lc⟩ G B (T ++ [⟨#[110, 101, 119]⟩]) b vs1 n0 wd1 HD1.out.env (HD1.out.is HIa.out) HD1.out.wr (by (try simp at hlim); (try simp); omega)).mono ?_
 rintro e w2 ⟨rfl, ⟨vs2, hw⟩, hf⟩
 have HS2 := Lib.hid (HD1.out.next hw hf)
 clear hw hf HD1 cHP cHR HYa_0 HYa_1 HYa_2 HYa_3 HYa_4 HYa_5
 have cHP := (HP.out.to HS2.out.fr).cell
 have cHR := (HR.out.to HS2.out.fr).cell
 go_wp2_with fail
 by_cases hc1 : lc = 1
 ·subst hc1
  have hr0 : r = [] := List.eq_nil_of_length_eq_zero (by omega)
  subst hr0
  simp only [List.length_nil, Nat.zero_add] at *
  go_still_tail 3, (by kernel_rfl)
  have HD2 := Lib.hid HS2.out.drew
  change wpList _ _ _ _ _ w2.drew
  generalize w2.drew = wd2 at *
  clear HS2
  go_wp2_with fail
  refine (elements_any [] (by intro u hu; exact HWR.out u hu) ⟨#[40]⟩ ⟨#[41]⟩ (by decide) (by decide) G B ((T ++ [⟨#[110, 101, 119]⟩]) ++ a.o.at 12 b) b vs2 n0 wd2 (some ⟨g, o, none⟩) _ (by simp) HD2.out.env HD2.out.wr (.inl rfl) (by (try simp at hlim); (try simp); omega)).mono ?_
  rintro e w3 ⟨rfl, ⟨vs3, hw⟩, hf⟩
  have HS3 := Lib.hid (HD2.out.next hw hf)
  clear hw hf HD2 cHP cHR
  have HT : Hid ((((T ++ [⟨#[110, 101, 119]⟩]) ++ a.o.at 12 b) ++ brack ⟨#[40]⟩ ⟨#[41]⟩ (commas ([].map fun u : V => u.o.at 1 false))) = T ++ v.o.raw b) := by
   show _ = _
   rw [HRAW.out]
   simp
  go_wp2_with fail
  go_end0
  have hfin := HS3.out.adds
  rw [HT.out] at hfin
  exact HFIN.out _ _ _ _ hfin
 ·have hc2 : ¬ 1 = lc := fun e => hc1 e.symm
  have hc3 : (1 : Int) ≤ (r.length : Int) + 1 := by omega
  go_still_tail 3, (by kernel_rfl)
  have HD2 := Lib.hid HS2.out.drew
  change wpList _ _ _ _ _ w2.drew
  generalize w2.drew = wd2 at *
  clear HS2
  go_wp2_with fail
  refine (elements_any r (by intro u hu; exact HWR.out u hu) ⟨#[40]⟩ ⟨#[41]⟩ (by decide) (by decide) G B ((T ++ [⟨#[110, 101, 119]⟩]) ++ a.o.at 12 b) b vs2 n0 wd2 (some ⟨g, o + 6, none⟩) _ (by omega) HD2.out.env HD2.out.wr (HD2.out.row HRR.out) (by (try simp at hlim); (try simp); omega)).mono ?_
  rintro e w3 ⟨rfl, ⟨vs3, hw⟩, hf⟩
  have HS3 := Lib.hid (HD2.out.next hw hf)
  clear hw hf HD2 cHP cHR
  have HT : Hid ((((T ++ [⟨#[110, 101, 119]⟩]) ++ a.o.at 12 b) ++ brack ⟨#[40]⟩ ⟨#[41]⟩ (commas (r.map fun u : V => u.o.at 1 false))) = T ++ v.o.raw b) := by
   show _ = _
   rw [HRAW.out]
   simp
  go_wp2_with fail
  go_end0
  have hfin := HS3.out.adds
  rw [HT.out] at hfin
  exact HFIN.out _ _ _ _ hfin
end Go.Proofs.YtllpgoaanbiodaaGreatDoor.R
