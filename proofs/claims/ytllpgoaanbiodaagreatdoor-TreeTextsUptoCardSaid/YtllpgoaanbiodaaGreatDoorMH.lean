/-

-/
import Derived.Test.YtllpgoaanbiodaaGreatDoorMG
import Derived.Deep.RegionHeld3
set_option maxHeartbeats 1000000
set_option maxRecDepth 8000
namespace Go.Proofs.YtllpgoaanbiodaaGreatDoor.R
open Go.RowKit Go.Proofs.YtllpgoaanbiodaaGreatDoor Go.Proofs.YtllpgoaanbiodaaGreatDoor.T
theorem bare_11 (v a : V) (hv : v.k = 11) (hl : v.l = [a]) (hwa : WExpr a) (hnm : ¬ v.nm.size = 0) : Writes 133 v fun b => v.o.raw b := by
 intro x F B T b vs n0 w hE hx hW hlim
 have hraw : v.o.raw b = a.o.at 11 b ++ [⟨#[46]⟩, v.nm] := by
  rw [o_raw, hv, hl]
  rfl
 have hlen1 := congrArg List.length hraw
 dsimp only at hlim
 rw [hlen1] at hlim
 obtain ⟨ka, kc, la, lc, rfl, h1, h2, h3, h4⟩ := hx.open
 simp only [X.v] at *
 rw [hl] at h4
 obtain ⟨g, o, ya, rfl, hg, hya, hia⟩ := h4.one
 rw [hv] at *
 have HNM := Lib.hid hnm
 have hln : v.l.length = 1 := by rw [hl]; rfl
 have hlc : 1 ≤ lc := by rw [← hln]; exact h2
 rw [hln] at *
 have HRAW := Lib.hid hraw
 clear hraw hlen1 hv hl hln hnm
 generalize v.nm = nm at *
 generalize v.n = n at *
 generalize v.s = s at *
 generalize v.ks.length = kn at *
 obtain ⟨hN, hp, hq, hr⟩ := new3 hE hW #[.pointer (some ⟨B, 0, none⟩)] #[.int .i64 11, .string nm, .int .i64 n, .string s, .slice ka kn kc, .slice (some ⟨g, o, none⟩) 1 lc] #[.slice (some ⟨g, o, none⟩) 1 lc] 57 25 23
 have HS0 := Lib.hid hN.sit
 have HFIN := Lib.hid hN.fin
 have HP := Lib.hid hp
 have HR := Lib.hid hr
 have HQ := Lib.hid (Box.at_ (x := ⟨11, nm, n, s, ka, kn, kc, (some ⟨g, o, none⟩), 1, lc⟩) hq)
 have HQG := Lib.hid hq.inF
 have HQB := Lib.hid hq
 have HGg := Lib.hid (hN.sit.env.sub g hg)
 have hgn := hg
 have HYa := Lib.hid (hN.at_ _ _ _ hg hya)
 have HIa := Lib.hid (hN.is _ _ hia)
 have HWa := Lib.hid hwa
 obtain ⟨a_k, a_nm, a_n, a_s, a_ka, a_kn, a_kc, a_la, a_ln, a_lc⟩ := ya
 clear hN hp hq hr hE hW hx h1 h2 h3 h4 hya hia hwa hg
 go_enter Tryz.func133, Tryz.ntmps133
 go_wp2_with fail
 have HZ : Hid ((((w.alloc (.cells #[.pointer (some ⟨B, 0, none⟩)] 57)).alloc (.cells #[.int .i64 11, .string nm, .int .i64 n, .string s, .slice ka kn kc, .slice (some ⟨g, o, none⟩) 1 lc] 25)).alloc (.cells #[.slice (some ⟨g, o, none⟩) 1 lc] 23)).heap.size = w.heap.size + 1 + 1 + 1) := by
  show _ = _
  simp
 generalize ((w.alloc (.cells #[.pointer (some ⟨B, 0, none⟩)] 57)).alloc (.cells #[.int .i64 11, .string nm, .int .i64 n, .string s, .slice ka kn kc, .slice (some ⟨g, o, none⟩) 1 lc] 25)).alloc (.cells #[.slice (some ⟨g, o, none⟩) 1 lc] 23) = w0 at *
 generalize Ex F w.heap.size 3 = G at *
 have cHP := (HP.out.to HS0.out.fr).cell
 have cHR := (HR.out.to HS0.out.fr).cell
 obtain ⟨HYa_0, HYa_1, HYa_2, HYa_3, HYa_4, HYa_5⟩ := (HYa.out.fr HGg.out HS0.out.fr).six
 go_still_tail 4, (by kernel_rfl)
 have HD0 := Lib.hid HS0.out.drew
 change wpList _ _ _ _ _ w0.drew
 generalize w0.drew = wd0 at *
 clear HS0
 go_wp2_with fail
 refine (HWa.out 11 ⟨a_k, a_nm, a_n, a_s, a_ka, a_kn, a_kc, a_la, a_ln, a_lc⟩ G B T b vs n0 wd0 HD0.out.env (HD0.out.is HIa.out) HD0.out.wr (by (try simp at hlim); (try simp); omega)).mono ?_
 rintro e w1 ⟨rfl, ⟨vs1, hw⟩, hf⟩
 have HS1 := Lib.hid (HD0.out.next hw hf)
 clear hw hf HD0 cHP cHR HYa_0 HYa_1 HYa_2 HYa_3 HYa_4 HYa_5
 have cHP := (HP.out.to HS1.out.fr).cell
 obtain ⟨HQ_0, HQ_1, HQ_2, HQ_3, HQ_4, HQ_5⟩ := (HQ.out.fr HQG.out HS1.out.fr).six
 go_wp2_with fail
 refine (add_two G B (T ++ a.o.at 11 b) b vs1 ⟨#[46]⟩ nm _ w1 HS1.out.env.hF HS1.out.wr (by (try simp at hlim); (try simp); omega) (by decide) (by simp)).mono ?_
 rintro e w2 ⟨rfl, ⟨vs2, hw⟩, hf⟩
 have HS2 := Lib.hid (HS1.out.next hw hf)
 clear hw hf HS1 cHP HQ_0 HQ_1 HQ_2 HQ_3 HQ_4 HQ_5
 have HT : Hid (((T ++ a.o.at 11 b) ++ (⟨#[46]⟩ :: some1 nm)) = T ++ v.o.raw b) := by
  show _ = _
  rw [HRAW.out]
  simp [some1_of HNM.out]
 go_wp2_with fail
 go_end0
 have hfin := HS2.out.adds
 rw [HT.out] at hfin
 exact HFIN.out _ _ _ _ hfin
theorem bare_12 (v a c : V) (hv : v.k = 12) (hl : v.l = [a, c]) (hwa : WExpr a) (hwc : WExpr c) : Writes 133 v fun b => v.o.raw b := by
 intro x F B T b vs n0 w hE hx hW hlim
 have hraw : v.o.raw b = a.o.at 11 b ++ brack ⟨#[91]⟩ ⟨#[93]⟩ (c.o.at 0 false) := by
  rw [o_raw, hv, hl]
  rfl
 have hlen1 := congrArg List.length hraw
 dsimp only at hlim
 rw [hlen1] at hlim
 obtain ⟨ka, kc, la, lc, rfl, h1, h2, h3, h4⟩ := hx.open
 simp only [X.v] at *
 rw [hl] at h4
 obtain ⟨g, o, ya, yc, rfl, hg, ⟨hya, hia⟩, hyc, hic⟩ := h4.two
 rw [hv] at *
 have hln : v.l.length = 2 := by rw [hl]; rfl
 have hlc : 2 ≤ lc := by rw [← hln]; exact h2
 rw [hln] at *
 have HRAW := Lib.hid hraw
 clear hraw hlen1 hv hl hln
 generalize v.nm = nm at *
 generalize v.n = n at *
 generalize v.s = s at *
 generalize v.ks.length = kn at *
 obtain ⟨hN, hp, hq, hr⟩ := new3 hE hW #[.pointer (some ⟨B, 0, none⟩)] #[.int .i64 12, .string nm, .int .i64 n, .string s, .slice ka kn kc, .slice (some ⟨g, o, none⟩) 2 lc] #[.slice (some ⟨g, o, none⟩) 2 lc] 57 25 23
 have HS0 := Lib.hid hN.sit
 have HFIN := Lib.hid hN.fin
 have HP := Lib.hid hp
 have HR := Lib.hid hr
 have HQ := Lib.hid (Box.at_ (x := ⟨12, nm, n, s, ka, kn, kc, (some ⟨g, o, none⟩), 2, lc⟩) hq)
 have HQG := Lib.hid hq.inF
 have HQB := Lib.hid hq
 have HGg := Lib.hid (hN.sit.env.sub g hg)
 have hgn := hg
 have HYa := Lib.hid (hN.at_ _ _ _ hg hya)
 have HIa := Lib.hid (hN.is _ _ hia)
 have HWa := Lib.hid hwa
 obtain ⟨a_k, a_nm, a_n, a_s, a_ka, a_kn, a_kc, a_la, a_ln, a_lc⟩ := ya
 have HYc := Lib.hid (hN.at_ _ _ _ hg hyc)
 have HIc := Lib.hid (hN.is _ _ hic)
 have HWc := Lib.hid hwc
 obtain ⟨c_k, c_nm, c_n, c_s, c_ka, c_kn, c_kc, c_la, c_ln, c_lc⟩ := yc
 clear hN hp hq hr hE hW hx h1 h2 h3 h4 hya hia hwa hyc hic hwc hg
 go_enter Tryz.func133, Tryz.ntmps133
 go_wp2_with fail
 have HZ : Hid ((((w.alloc (.cells #[.pointer (some ⟨B, 0, none⟩)] 57)).alloc (.cells #[.int .i64 12, .string nm, .int .i64 n, .string s, .slice ka kn kc, .slice (some ⟨g, o, none⟩) 2 lc] 25)).alloc (.cells #[.slice (some ⟨g, o, none⟩) 2 lc] 23)).heap.size = w.heap.size + 1 + 1 + 1) := by
  show _ = _
  simp
 generalize ((w.alloc (.cells #[.pointer (some ⟨B, 0, none⟩)] 57)).alloc (.cells #[.int .i64 12, .string nm, .int .i64 n, .string s, .slice ka kn kc, .slice (some ⟨g, o, none⟩) 2 lc] 25)).alloc (.cells #[.slice (some ⟨g, o, none⟩) 2 lc] 23) = w0 at *
 generalize Ex F w.heap.size 3 = G at *
 have cHP := (HP.out.to HS0.out.fr).cell
 have cHR := (HR.out.to HS0.out.fr).cell
 obtain ⟨HYa_0, HYa_1, HYa_2, HYa_3, HYa_4, HYa_5⟩ := (HYa.out.fr HGg.out HS0.out.fr).six
 go_still_tail 4, (by kernel_rfl)
 have HD0 := Lib.hid HS0.out.drew
 change wpList _ _ _ _ _ w0.drew
 generalize w0.drew = wd0 at *
 clear HS0
 go_wp2_with fail
 refine (HWa.out 11 ⟨a_k, a_nm, a_n, a_s, a_ka, a_kn, a_kc, a_la, a_ln, a_lc⟩ G B T b vs n0 wd0 HD0.out.env (HD0.out.is HIa.out) HD0.out.wr (by (try simp at hlim); (try simp); omega)).mono ?_
 rintro e w1 ⟨rfl, ⟨vs1, hw⟩, hf⟩
 have HS1 := Lib.hid (HD0.out.next hw hf)
 clear hw hf HD0 cHP cHR HYa_0 HYa_1 HYa_2 HYa_3 HYa_4 HYa_5
 have cHP := (HP.out.to HS1.out.fr).cell
 go_wp2_with fail
 refine (enclose_any G B (T ++ a.o.at 11 b) b vs1 ⟨#[91]⟩ ⟨#[93]⟩ 139 _ (c.o.at 0 false) w1 HS1.out.env.hF HS1.out.wr (by (try simp at hlim); (try simp); omega) (by decide) (by decide) (enters_of Tryz.func139 (by kernel_rfl) rfl) ?cc1).mono ?_
 case cc1 =>
  intro w9 v9 hw9 hf9
  have H9 := Lib.hid (HS1.out.next hw9 hf9)
  exact c_bare1 c HWc.out G B _ false v9 n0 w9 _ _ g o 2 lc ⟨c_k, c_nm, c_n, c_s, c_ka, c_kn, c_kc, c_la, c_ln, c_lc⟩ H9.out.env H9.out.wr (HP.out.to H9.out.fr) (HR.out.to H9.out.fr) (by omega) hlc hgn (HYc.out.fr HGg.out H9.out.fr) (H9.out.is HIc.out) (by (try simp at hlim); (try simp); omega)
 rintro e w2 ⟨rfl, ⟨vs2, hw⟩, hf⟩
 have HS2 := Lib.hid (HS1.out.next hw hf)
 clear hw hf HS1 cHP
 have HT : Hid (((T ++ a.o.at 11 b) ++ brack ⟨#[91]⟩ ⟨#[93]⟩ (c.o.at 0 false)) = T ++ v.o.raw b) := by
  show _ = _
  rw [HRAW.out]
  simp
 go_wp2_with fail
 go_end0
 have hfin := HS2.out.adds
 rw [HT.out] at hfin
 exact HFIN.out _ _ _ _ hfin
theorem bare_15 (v a : V) (hv : v.k = 15) (hl : v.l = [a]) (hwa : WExpr a) (hnm : ¬ v.nm.size = 0) : Writes 133 v fun b => v.o.raw b := by
 intro x F B T b vs n0 w hE hx hW hlim
 have hraw : v.o.raw b = v.nm :: a.o.at 9 b := by
  rw [o_raw, hv, hl]
  rfl
 have hlen1 := congrArg List.length hraw
 dsimp only at hlim
 rw [hlen1] at hlim
 obtain ⟨ka, kc, la, lc, rfl, h1, h2, h3, h4⟩ := hx.open
 simp only [X.v] at *
 rw [hl] at h4
 obtain ⟨g, o, ya, rfl, hg, hya, hia⟩ := h4.one
 rw [hv] at *
 have HNM := Lib.hid hnm
 have hln : v.l.length = 1 := by rw [hl]; rfl
 have hlc : 1 ≤ lc := by rw [← hln]; exact h2
 rw [hln] at *
 have HRAW := Lib.hid hraw
 clear hraw hlen1 hv hl hln hnm
 generalize v.nm = nm at *
 generalize v.n = n at *
 generalize v.s = s at *
 generalize v.ks.length = kn at *
 obtain ⟨hN, hp, hq, hr⟩ := new3 hE hW #[.pointer (some ⟨B, 0, none⟩)] #[.int .i64 15, .string nm, .int .i64 n, .string s, .slice ka kn kc, .slice (some ⟨g, o, none⟩) 1 lc] #[.slice (some ⟨g, o, none⟩) 1 lc] 57 25 23
 have HS0 := Lib.hid hN.sit
 have HFIN := Lib.hid hN.fin
 have HP := Lib.hid hp
 have HR := Lib.hid hr
 have HQ := Lib.hid (Box.at_ (x := ⟨15, nm, n, s, ka, kn, kc, (some ⟨g, o, none⟩), 1, lc⟩) hq)
 have HQG := Lib.hid hq.inF
 have HQB := Lib.hid hq
 have HGg := Lib.hid (hN.sit.env.sub g hg)
 have hgn := hg
 have HYa := Lib.hid (hN.at_ _ _ _ hg hya)
 have HIa := Lib.hid (hN.is _ _ hia)
 have HWa := Lib.hid hwa
 obtain ⟨a_k, a_nm, a_n, a_s, a_ka, a_kn, a_kc, a_la, a_ln, a_lc⟩ := ya
 clear hN hp hq hr hE hW hx h1 h2 h3 h4 hya hia hwa hg
 go_enter Tryz.func133, Tryz.ntmps133
 go_wp2_with fail
 have HZ : Hid ((((w.alloc (.cells #[.pointer (some ⟨B, 0, none⟩)] 57)).alloc (.cells #[.int .i64 15, .string nm, .int .i64 n, .string s, .slice ka kn kc, .slice (some ⟨g, o, none⟩) 1 lc] 25)).alloc (.cells #[.slice (some ⟨g, o, none⟩) 1 lc] 23)).heap.size = w.heap.size + 1 + 1 + 1) := by
  show _ = _
  simp
 generalize ((w.alloc (.cells #[.pointer (some ⟨B, 0, none⟩)] 57)).alloc (.cells #[.int .i64 15, .string nm, .int .i64 n, .string s, .slice ka kn kc, .slice (some ⟨g, o, none⟩) 1 lc] 25)).alloc (.cells #[.slice (some ⟨g, o, none⟩) 1 lc] 23) = w0 at *
 generalize Ex F w.heap.size 3 = G at *
 have cHP := (HP.out.to HS0.out.fr).cell
 obtain ⟨HQ_0, HQ_1, HQ_2, HQ_3, HQ_4, HQ_5⟩ := (HQ.out.fr HQG.out HS0.out.fr).six
 refine (add_one G B T b vs nm _ w0 HS0.out.env.hF HS0.out.wr (by (try simp at hlim); (try simp); omega) HNM.out HZ.out.symm).mono ?_
 rintro e w1 ⟨rfl, ⟨vs1, hw⟩, hf⟩
 have HS1 := Lib.hid (HS0.out.next hw hf)
 clear hw hf HS0 cHP HQ_0 HQ_1 HQ_2 HQ_3 HQ_4 HQ_5
 have cHP := (HP.out.to HS1.out.fr).cell
 have cHR := (HR.out.to HS1.out.fr).cell
 obtain ⟨HYa_0, HYa_1, HYa_2, HYa_3, HYa_4, HYa_5⟩ := (HYa.out.fr HGg.out HS1.out.fr).six
 go_wp2_with fail
 go_still_tail 4, (by kernel_rfl)
 have HD1 := Lib.hid HS1.out.drew
 change wpList _ _ _ _ _ w1.drew
 generalize w1.drew = wd1 at *
 clear HS1
 go_wp2_with fail
 refine (HWa.out 9 ⟨a_k, a_nm, a_n, a_s, a_ka, a_kn, a_kc, a_la, a_ln, a_lc⟩ G B (T ++ [nm]) b vs1 n0 wd1 HD1.out.env (HD1.out.is HIa.out) HD1.out.wr (by (try simp at hlim); (try simp); omega)).mono ?_
 rintro e w2 ⟨rfl, ⟨vs2, hw⟩, hf⟩
 have HS2 := Lib.hid (HD1.out.next hw hf)
 clear hw hf HD1 cHP cHR HYa_0 HYa_1 HYa_2 HYa_3 HYa_4 HYa_5
 have HT : Hid (((T ++ [nm]) ++ a.o.at 9 b) = T ++ v.o.raw b) := by
  show _ = _
  rw [HRAW.out]
  simp
 go_wp2_with fail
 go_end0
 have hfin := HS2.out.adds
 rw [HT.out] at hfin
 exact HFIN.out _ _ _ _ hfin
theorem bare_19 (v a c e : V) (hv : v.k = 19) (hl : v.l = [a, c, e]) (hwa : WExpr a) (hwc : WExpr c) (hwe : WExpr e) : Writes 133 v fun b => v.o.raw b := by
 intro x F B T b vs n0 w hE hx hW hlim
 have hraw : v.o.raw b = a.o.at 3 b ++ (brack ⟨#[63]⟩ ⟨#[58]⟩ (c.o.at 1 false) ++ e.o.at 1 b) := by
  rw [o_raw, hv, hl]
  rfl
 have hlen1 := congrArg List.length hraw
 dsimp only at hlim
 rw [hlen1] at hlim
 obtain ⟨ka, kc, la, lc, rfl, h1, h2, h3, h4⟩ := hx.open
 simp only [X.v] at *
 rw [hl] at h4
 obtain ⟨g, o, ya, yc, ye, rfl, hg, ⟨hya, hia⟩, ⟨hyc, hic⟩, hye, hie⟩ := h4.three
 rw [hv] at *
 have hln : v.l.length = 3 := by rw [hl]; rfl
 have hlc : 3 ≤ lc := by rw [← hln]; exact h2
 rw [hln] at *
 have HRAW := Lib.hid hraw
 clear hraw hlen1 hv hl hln
 generalize v.nm = nm at *
 generalize v.n = n at *
 generalize v.s = s at *
 generalize v.ks.length = kn at *
 obtain ⟨hN, hp, hq, hr⟩ := new3 hE hW #[.pointer (some ⟨B, 0, none⟩)] #[.int .i64 19, .string nm, .int .i64 n, .string s, .slice ka kn kc, .slice (some ⟨g, o, none⟩) 3 lc] #[.slice (some ⟨g, o, none⟩) 3 lc] 57 25 23
 have HS0 := Lib.hid hN.sit
 have HFIN := Lib.hid hN.fin
 have HP := Lib.hid hp
 have HR := Lib.hid hr
 have HQ := Lib.hid (Box.at_ (x := ⟨19, nm, n, s, ka, kn, kc, (some ⟨g, o, none⟩), 3, lc⟩) hq)
 have HQG := Lib.hid hq.inF
 have HQB := Lib.hid hq
 have HGg := Lib.hid (hN.sit.env.sub g hg)
 have hgn := hg
 have HYa := Lib.hid (hN.at_ _ _ _ hg hya)
 have HIa := Lib.hid (hN.is _ _ hia)
 have HWa := Lib.hid hwa
 obtain ⟨a_k, a_nm, a_n, a_s, a_ka, a_kn, a_kc, a_la, a_ln, a_lc⟩ := ya
 have HYc := Lib.hid (hN.at_ _ _ _ hg hyc)
 have HIc := Lib.hid (hN.is _ _ hic)
 have HWc := Lib.hid hwc
 obtain ⟨c_k, c_nm, c_n, c_s, c_ka, c_kn, c_kc, c_la, c_ln, c_lc⟩ := yc
 have HYe := Lib.hid (hN.at_ _ _ _ hg hye)
 have HIe := Lib.hid (hN.is _ _ hie)
 have HWe := Lib.hid hwe
 obtain ⟨e_k, e_nm, e_n, e_s, e_ka, e_kn, e_kc, e_la, e_ln, e_lc⟩ := ye
 clear hN hp hq hr hE hW hx h1 h2 h3 h4 hya hia hwa hyc hic hwc hye hie hwe hg
 go_enter Tryz.func133, Tryz.ntmps133
 go_wp2_with fail
 have HZ : Hid ((((w.alloc (.cells #[.pointer (some ⟨B, 0, none⟩)] 57)).alloc (.cells #[.int .i64 19, .string nm, .int .i64 n, .string s, .slice ka kn kc, .slice (some ⟨g, o, none⟩) 3 lc] 25)).alloc (.cells #[.slice (some ⟨g, o, none⟩) 3 lc] 23)).heap.size = w.heap.size + 1 + 1 + 1) := by
  show _ = _
  simp
 generalize ((w.alloc (.cells #[.pointer (some ⟨B, 0, none⟩)] 57)).alloc (.cells #[.int .i64 19, .string nm, .int .i64 n, .string s, .slice ka kn kc, .slice (some ⟨g, o, none⟩) 3 lc] 25)).alloc (.cells #[.slice (some ⟨g, o, none⟩) 3 lc] 23) = w0 at *
 generalize Ex F w.heap.size 3 = G at *
 have cHP := (HP.out.to HS0.out.fr).cell
 have cHR := (HR.out.to HS0.out.fr).cell
 obtain ⟨HYa_0, HYa_1, HYa_2, HYa_3, HYa_4, HYa_5⟩ := (HYa.out.fr HGg.out HS0.out.fr).six
 go_still_tail 4, (by kernel_rfl)
 have HD0 := Lib.hid HS0.out.drew
 change wpList _ _ _ _ _ w0.drew
 generalize w0.drew = wd0 at *
 clear HS0
 go_wp2_with fail
 refine (HWa.out 3 ⟨a_k, a_nm, a_n, a_s, a_ka, a_kn, a_kc, a_la, a_ln, a_lc⟩ G B T b vs n0 wd0 HD0.out.env (HD0.out.is HIa.out) HD0.out.wr (by (try simp at hlim); (try simp); omega)).mono ?_
 rintro e w1 ⟨rfl, ⟨vs1, hw⟩, hf⟩
 have HS1 := Lib.hid (HD0.out.next hw hf)
 clear hw hf HD0 cHP cHR HYa_0 HYa_1 HYa_2 HYa_3 HYa_4 HYa_5
 have cHP := (HP.out.to HS1.out.fr).cell
 go_wp2_with fail
 refine (enclose_any G B (T ++ a.o.at 3 b) b vs1 ⟨#[63]⟩ ⟨#[58]⟩ 142 _ (c.o.at 1 false) w1 HS1.out.env.hF HS1.out.wr (by (try simp at hlim); (try simp); omega) (by decide) (by decide) (enters_of Tryz.func142 (by kernel_rfl) rfl) ?cc1).mono ?_
 case cc1 =>
  intro w9 v9 hw9 hf9
  have H9 := Lib.hid (HS1.out.next hw9 hf9)
  exact c_bare2 c HWc.out G B _ false v9 n0 w9 _ _ g o 3 lc ⟨c_k, c_nm, c_n, c_s, c_ka, c_kn, c_kc, c_la, c_ln, c_lc⟩ H9.out.env H9.out.wr (HP.out.to H9.out.fr) (HR.out.to H9.out.fr) (by omega) hlc hgn (HYc.out.fr HGg.out H9.out.fr) (H9.out.is HIc.out) (by (try simp at hlim); (try simp); omega)
 rintro e w2 ⟨rfl, ⟨vs2, hw⟩, hf⟩
 have HS2 := Lib.hid (HS1.out.next hw hf)
 clear hw hf HS1 cHP
 have cHP := (HP.out.to HS2.out.fr).cell
 have cHR := (HR.out.to HS2.out.fr).cell
 obtain ⟨HYe_0, HYe_1, HYe_2, HYe_3, HYe_4, HYe_5⟩ := (HYe.out.fr HGg.out HS2.out.fr).six
 go_wp2_with fail
 go_still_tail 4, (by kernel_rfl)
 have HD2 := Lib.hid HS2.out.drew
 change wpList _ _ _ _ _ w2.drew
 generalize w2.drew = wd2 at *
 clear HS2
 go_wp2_with fail
 refine (HWe.out 1 ⟨e_k, e_nm, e_n, e_s, e_ka, e_kn, e_kc, e_la, e_ln, e_lc⟩ G B ((T ++ a.o.at 3 b) ++ brack ⟨#[63]⟩ ⟨#[58]⟩ (c.o.at 1 false)) b vs2 n0 wd2 HD2.out.env (HD2.out.is HIe.out) HD2.out.wr (by (try simp at hlim); (try simp); omega)).mono ?_
 rintro e w3 ⟨rfl, ⟨vs3, hw⟩, hf⟩
 have HS3 := Lib.hid (HD2.out.next hw hf)
 clear hw hf HD2 cHP cHR HYe_0 HYe_1 HYe_2 HYe_3 HYe_4 HYe_5
 have HT : Hid ((((T ++ a.o.at 3 b) ++ brack ⟨#[63]⟩ ⟨#[58]⟩ (c.o.at 1 false)) ++ e.o.at 1 b) = T ++ v.o.raw b) := by
  show _ = _
  rw [HRAW.out]
  simp
 go_wp2_with fail
 go_end0
 have hfin := HS3.out.adds
 rw [HT.out] at hfin
 exact HFIN.out _ _ _ _ hfin
theorem bare_20 (v a c : V) (hv : v.k = 20) (hl : v.l = [a, c]) (hwa : WExpr a) (hwc : WExpr c) (hnm : ¬ v.nm.size = 0) : Writes 133 v fun b => v.o.raw b := by
 intro x F B T b vs n0 w hE hx hW hlim
 have hraw : v.o.raw b = a.o.at 11 b ++ v.nm :: c.o.at 1 b := by
  rw [o_raw, hv, hl]
  rfl
 have hlen1 := congrArg List.length hraw
 dsimp only at hlim
 rw [hlen1] at hlim
 obtain ⟨ka, kc, la, lc, rfl, h1, h2, h3, h4⟩ := hx.open
 simp only [X.v] at *
 rw [hl] at h4
 obtain ⟨g, o, ya, yc, rfl, hg, ⟨hya, hia⟩, hyc, hic⟩ := h4.two
 rw [hv] at *
 have HNM := Lib.hid hnm
 have hln : v.l.length = 2 := by rw [hl]; rfl
 have hlc : 2 ≤ lc := by rw [← hln]; exact h2
 rw [hln] at *
 have HRAW := Lib.hid hraw
 clear hraw hlen1 hv hl hln hnm
 generalize v.nm = nm at *
 generalize v.n = n at *
 generalize v.s = s at *
 generalize v.ks.length = kn at *
 obtain ⟨hN, hp, hq, hr⟩ := new3 hE hW #[.pointer (some ⟨B, 0, none⟩)] #[.int .i64 20, .string nm, .int .i64 n, .string s, .slice ka kn kc, .slice (some ⟨g, o, none⟩) 2 lc] #[.slice (some ⟨g, o, none⟩) 2 lc] 57 25 23
 have HS0 := Lib.hid hN.sit
 have HFIN := Lib.hid hN.fin
 have HP := Lib.hid hp
 have HR := Lib.hid hr
 have HQ := Lib.hid (Box.at_ (x := ⟨20, nm, n, s, ka, kn, kc, (some ⟨g, o, none⟩), 2, lc⟩) hq)
 have HQG := Lib.hid hq.inF
 have HQB := Lib.hid hq
 have HGg := Lib.hid (hN.sit.env.sub g hg)
 have hgn := hg
 have HYa := Lib.hid (hN.at_ _ _ _ hg hya)
 have HIa := Lib.hid (hN.is _ _ hia)
 have HWa := Lib.hid hwa
 obtain ⟨a_k, a_nm, a_n, a_s, a_ka, a_kn, a_kc, a_la, a_ln, a_lc⟩ := ya
 have HYc := Lib.hid (hN.at_ _ _ _ hg hyc)
 have HIc := Lib.hid (hN.is _ _ hic)
 have HWc := Lib.hid hwc
 obtain ⟨c_k, c_nm, c_n, c_s, c_ka, c_kn, c_kc, c_la, c_ln, c_lc⟩ := yc
 clear hN hp hq hr hE hW hx h1 h2 h3 h4 hya hia hwa hyc hic hwc hg
 go_enter Tryz.func133, Tryz.ntmps133
 go_wp2_with fail
 have HZ : Hid ((((w.alloc (.cells #[.pointer (some ⟨B, 0, none⟩)] 57)).alloc (.cells #[.int .i64 20, .string nm, .int .i64 n, .string s, .slice ka kn kc, .slice (some ⟨g, o, none⟩) 2 lc] 25)).alloc (.cells #[.slice (some ⟨g, o, none⟩) 2 lc] 23)).heap.size = w.heap.size + 1 + 1 + 1) := by
  show _ = _
  simp
 generalize ((w.alloc (.cells #[.pointer (some ⟨B, 0, none⟩)] 57)).alloc (.cells #[.int .i64 20, .string nm, .int .i64 n, .string s, .slice ka kn kc, .slice (some ⟨g, o, none⟩) 2 lc] 25)).alloc (.cells #[.slice (some ⟨g, o, none⟩) 2 lc] 23) = w0 at *
 generalize Ex F w.heap.size 3 = G at *
 have cHP := (HP.out.to HS0.out.fr).cell
 have cHR := (HR.out.to HS0.out.fr).cell
 obtain ⟨HYa_0, HYa_1, HYa_2, HYa_3, HYa_4, HYa_5⟩ := (HYa.out.fr HGg.out HS0.out.fr).six
 go_still_tail 4, (by kernel_rfl)
 have HD0 := Lib.hid HS0.out.drew
 change wpList _ _ _ _ _ w0.drew
 generalize w0.drew = wd0 at *
 clear HS0
 go_wp2_with fail
 refine (HWa.out 11 ⟨a_k, a_nm, a_n, a_s, a_ka, a_kn, a_kc, a_la, a_ln, a_lc⟩ G B T b vs n0 wd0 HD0.out.env (HD0.out.is HIa.out) HD0.out.wr (by (try simp at hlim); (try simp); omega)).mono ?_
 rintro e w1 ⟨rfl, ⟨vs1, hw⟩, hf⟩
 have HS1 := Lib.hid (HD0.out.next hw hf)
 clear hw hf HD0 cHP cHR HYa_0 HYa_1 HYa_2 HYa_3 HYa_4 HYa_5
 have cHP := (HP.out.to HS1.out.fr).cell
 obtain ⟨HQ_0, HQ_1, HQ_2, HQ_3, HQ_4, HQ_5⟩ := (HQ.out.fr HQG.out HS1.out.fr).six
 go_wp2_with fail
 refine (add_one G B (T ++ a.o.at 11 b) b vs1 nm _ w1 HS1.out.env.hF HS1.out.wr (by (try simp at hlim); (try simp); omega) HNM.out (by simp)).mono ?_
 rintro e w2 ⟨rfl, ⟨vs2, hw⟩, hf⟩
 have HS2 := Lib.hid (HS1.out.next hw hf)
 clear hw hf HS1 cHP HQ_0 HQ_1 HQ_2 HQ_3 HQ_4 HQ_5
 have cHP := (HP.out.to HS2.out.fr).cell
 have cHR := (HR.out.to HS2.out.fr).cell
 obtain ⟨HYc_0, HYc_1, HYc_2, HYc_3, HYc_4, HYc_5⟩ := (HYc.out.fr HGg.out HS2.out.fr).six
 go_wp2_with fail
 go_still_tail 4, (by kernel_rfl)
 have HD2 := Lib.hid HS2.out.drew
 change wpList _ _ _ _ _ w2.drew
 generalize w2.drew = wd2 at *
 clear HS2
 go_wp2_with fail
 refine (HWc.out 1 ⟨c_k, c_nm, c_n, c_s, c_ka, c_kn, c_kc, c_la, c_ln, c_lc⟩ G B ((T ++ a.o.at 11 b) ++ [nm]) b vs2 n0 wd2 HD2.out.env (HD2.out.is HIc.out) HD2.out.wr (by (try simp at hlim); (try simp); omega)).mono ?_
 rintro e w3 ⟨rfl, ⟨vs3, hw⟩, hf⟩
 have HS3 := Lib.hid (HD2.out.next hw hf)
 clear hw hf HD2 cHP cHR HYc_0 HYc_1 HYc_2 HYc_3 HYc_4 HYc_5
 have HT : Hid ((((T ++ a.o.at 11 b) ++ [nm]) ++ c.o.at 1 b) = T ++ v.o.raw b) := by
  show _ = _
  rw [HRAW.out]
  simp
 go_wp2_with fail
 go_end0
 have hfin := HS3.out.adds
 rw [HT.out] at hfin
 exact HFIN.out _ _ _ _ hfin
theorem bare_21 (v a c : V) (hv : v.k = 21) (hl : v.l = [a, c]) (hwa : WExpr a) (hwc : WExpr c) : Writes 133 v fun b => v.o.raw b := by
 intro x F B T b vs n0 w hE hx hW hlim
 have hraw : v.o.raw b = a.o.at 0 b ++ ⟨#[44]⟩ :: c.o.at 1 b := by
  rw [o_raw, hv, hl]
  rfl
 have hlen1 := congrArg List.length hraw
 dsimp only at hlim
 rw [hlen1] at hlim
 obtain ⟨ka, kc, la, lc, rfl, h1, h2, h3, h4⟩ := hx.open
 simp only [X.v] at *
 rw [hl] at h4
 obtain ⟨g, o, ya, yc, rfl, hg, ⟨hya, hia⟩, hyc, hic⟩ := h4.two
 rw [hv] at *
 have hln : v.l.length = 2 := by rw [hl]; rfl
 have hlc : 2 ≤ lc := by rw [← hln]; exact h2
 rw [hln] at *
 have HRAW := Lib.hid hraw
 clear hraw hlen1 hv hl hln
 generalize v.nm = nm at *
 generalize v.n = n at *
 generalize v.s = s at *
 generalize v.ks.length = kn at *
 obtain ⟨hN, hp, hq, hr⟩ := new3 hE hW #[.pointer (some ⟨B, 0, none⟩)] #[.int .i64 21, .string nm, .int .i64 n, .string s, .slice ka kn kc, .slice (some ⟨g, o, none⟩) 2 lc] #[.slice (some ⟨g, o, none⟩) 2 lc] 57 25 23
 have HS0 := Lib.hid hN.sit
 have HFIN := Lib.hid hN.fin
 have HP := Lib.hid hp
 have HR := Lib.hid hr
 have HQ := Lib.hid (Box.at_ (x := ⟨21, nm, n, s, ka, kn, kc, (some ⟨g, o, none⟩), 2, lc⟩) hq)
 have HQG := Lib.hid hq.inF
 have HQB := Lib.hid hq
 have HGg := Lib.hid (hN.sit.env.sub g hg)
 have hgn := hg
 have HYa := Lib.hid (hN.at_ _ _ _ hg hya)
 have HIa := Lib.hid (hN.is _ _ hia)
 have HWa := Lib.hid hwa
 obtain ⟨a_k, a_nm, a_n, a_s, a_ka, a_kn, a_kc, a_la, a_ln, a_lc⟩ := ya
 have HYc := Lib.hid (hN.at_ _ _ _ hg hyc)
 have HIc := Lib.hid (hN.is _ _ hic)
 have HWc := Lib.hid hwc
 obtain ⟨c_k, c_nm, c_n, c_s, c_ka, c_kn, c_kc, c_la, c_ln, c_lc⟩ := yc
 clear hN hp hq hr hE hW hx h1 h2 h3 h4 hya hia hwa hyc hic hwc hg
 go_enter Tryz.func133, Tryz.ntmps133
 go_wp2_with fail
 have HZ : Hid ((((w.alloc (.cells #[.pointer (some ⟨B, 0, none⟩)] 57)).alloc (.cells #[.int .i64 21, .string nm, .int .i64 n, .string s, .slice ka kn kc, .slice (some ⟨g, o, none⟩) 2 lc] 25)).alloc (.cells #[.slice (some ⟨g, o, none⟩) 2 lc] 23)).heap.size = w.heap.size + 1 + 1 + 1) := by
  show _ = _
  simp
 generalize ((w.alloc (.cells #[.pointer (some ⟨B, 0, none⟩)] 57)).alloc (.cells #[.int .i64 21, .string nm, .int .i64 n, .string s, .slice ka kn kc, .slice (some ⟨g, o, none⟩) 2 lc] 25)).alloc (.cells #[.slice (some ⟨g, o, none⟩) 2 lc] 23) = w0 at *
 generalize Ex F w.heap.size 3 = G at *
 have cHP := (HP.out.to HS0.out.fr).cell
 have cHR := (HR.out.to HS0.out.fr).cell
 obtain ⟨HYa_0, HYa_1, HYa_2, HYa_3, HYa_4, HYa_5⟩ := (HYa.out.fr HGg.out HS0.out.fr).six
 go_still_tail 4, (by kernel_rfl)
 have HD0 := Lib.hid HS0.out.drew
 change wpList _ _ _ _ _ w0.drew
 generalize w0.drew = wd0 at *
 clear HS0
 go_wp2_with fail
 refine (HWa.out 0 ⟨a_k, a_nm, a_n, a_s, a_ka, a_kn, a_kc, a_la, a_ln, a_lc⟩ G B T b vs n0 wd0 HD0.out.env (HD0.out.is HIa.out) HD0.out.wr (by (try simp at hlim); (try simp); omega)).mono ?_
 rintro e w1 ⟨rfl, ⟨vs1, hw⟩, hf⟩
 have HS1 := Lib.hid (HD0.out.next hw hf)
 clear hw hf HD0 cHP cHR HYa_0 HYa_1 HYa_2 HYa_3 HYa_4 HYa_5
 have cHP := (HP.out.to HS1.out.fr).cell
 go_wp2_with fail
 refine (add_one G B (T ++ a.o.at 0 b) b vs1 ⟨#[44]⟩ _ w1 HS1.out.env.hF HS1.out.wr (by (try simp at hlim); (try simp); omega) (by decide) (by simp)).mono ?_
 rintro e w2 ⟨rfl, ⟨vs2, hw⟩, hf⟩
 have HS2 := Lib.hid (HS1.out.next hw hf)
 clear hw hf HS1 cHP
 have cHP := (HP.out.to HS2.out.fr).cell
 have cHR := (HR.out.to HS2.out.fr).cell
 obtain ⟨HYc_0, HYc_1, HYc_2, HYc_3, HYc_4, HYc_5⟩ := (HYc.out.fr HGg.out HS2.out.fr).six
 go_wp2_with fail
 go_still_tail 4, (by kernel_rfl)
 have HD2 := Lib.hid HS2.out.drew
 change wpList _ _ _ _ _ w2.drew
 generalize w2.drew = wd2 at *
 clear HS2
 go_wp2_with fail
 refine (HWc.out 1 ⟨c_k, c_nm, c_n, c_s, c_ka, c_kn, c_kc, c_la, c_ln, c_lc⟩ G B ((T ++ a.o.at 0 b) ++ [⟨#[44]⟩]) b vs2 n0 wd2 HD2.out.env (HD2.out.is HIc.out) HD2.out.wr (by (try simp at hlim); (try simp); omega)).mono ?_
 rintro e w3 ⟨rfl, ⟨vs3, hw⟩, hf⟩
 have HS3 := Lib.hid (HD2.out.next hw hf)
 clear hw hf HD2 cHP cHR HYc_0 HYc_1 HYc_2 HYc_3 HYc_4 HYc_5
 have HT : Hid ((((T ++ a.o.at 0 b) ++ [⟨#[44]⟩]) ++ c.o.at 1 b) = T ++ v.o.raw b) := by
  show _ = _
  rw [HRAW.out]
  simp
 go_wp2_with fail
 go_end0
 have hfin := HS3.out.adds
 rw [HT.out] at hfin
 exact HFIN.out _ _ _ _ hfin
end Go.Proofs.YtllpgoaanbiodaaGreatDoor.R
