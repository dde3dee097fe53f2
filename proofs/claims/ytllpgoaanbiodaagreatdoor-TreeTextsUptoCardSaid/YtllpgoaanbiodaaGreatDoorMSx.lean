/-

-/
import Derived.Test.YtllpgoaanbiodaaGreatDoorMSv
import Derived.Test.YtllpgoaanbiodaaGreatDoorMSt
import Derived.Test.YtllpgoaanbiodaaGreatDoorMK
set_option maxHeartbeats 1000000
set_option maxRecDepth 8000
namespace Go.Proofs.YtllpgoaanbiodaaGreatDoor.R
open Go.RowKit Go.Proofs.YtllpgoaanbiodaaGreatDoor Go.Proofs.YtllpgoaanbiodaaGreatDoor.T
theorem loop_any (a c e d : V) (hwa : WPart a) (hwc : WPart c) (hwe : WPart e) (hwd : WStmt d) (F : Nat → Prop) (B : Nat) (T : Ts) (vs : Value) (n0 : Nat) (w : World) (A : Option Addr) (lc : Nat) (hlc : 4 ≤ lc) (hE : Env w F n0) (hW : Wr w F B T false vs)
  (hR : RowB w n0 A [a, c, e, d]) (hlim : T.length + (⟨#[102, 111, 114]⟩ :: (brack ⟨#[40]⟩ ⟨#[41]⟩ (a.o.part true ++ ⟨#[59]⟩ :: (c.o.part false ++ ⟨#[59]⟩ :: e.o.part false)) ++ d.o.st)).length ≤ 8796093020000) :
  Calls Tryz.prog 85 #[.pointer (some ⟨B, 0, none⟩), .slice A 4 lc] w (Adds w F B (T ++ (⟨#[102, 111, 114]⟩ :: (brack ⟨#[40]⟩ ⟨#[41]⟩ (a.o.part true ++ ⟨#[59]⟩ :: (c.o.part false ++ ⟨#[59]⟩ :: e.o.part false)) ++ d.o.st))) false) := by
 obtain ⟨g, o, ya, yc, ye, yd, rfl, hg, ⟨hya, hia⟩, ⟨hyc, hic⟩, ⟨hye, hie⟩, hyd, hid⟩ := hR.four
 obtain ⟨hN, hp, hr⟩ := new2 hE hW #[.pointer (some ⟨B, 0, none⟩)] #[.slice (some ⟨g, o, none⟩) 4 lc] 57 23
 have HS0 := Lib.hid hN.sit
 have HFIN := Lib.hid hN.fin
 have HP := Lib.hid hp
 have HR := Lib.hid hr
 have HGg := Lib.hid (hN.sit.env.sub g hg)
 have HYa := Lib.hid (hN.at_ _ _ _ hg hya)
 have HIa := Lib.hid (hN.is _ _ hia)
 have HYc := Lib.hid (hN.at_ _ _ _ hg hyc)
 have HIc := Lib.hid (hN.is _ _ hic)
 have HYe := Lib.hid (hN.at_ _ _ _ hg hye)
 have HIe := Lib.hid (hN.is _ _ hie)
 have HYd := Lib.hid (hN.at_ _ _ _ hg hyd)
 have HId := Lib.hid (hN.is _ _ hid)
 have HWd := Lib.hid hwd
 obtain ⟨d_k, d_nm, d_n, d_s, d_ka, d_kn, d_kc, d_la, d_ln, d_lc⟩ := yd
 have hlc' : 4 ≤ lc := hlc
 clear hN hp hr hE hW hR hwd hya hia hyc hic hye hie hyd hid
 go_enter Tryz.func85, Tryz.ntmps85
 go_wp2_with fail
 have HZ : Hid (((w.alloc (.cells #[.pointer (some ⟨B, 0, none⟩)] 57)).alloc (.cells #[.slice (some ⟨g, o, none⟩) 4 lc] 23)).heap.size = w.heap.size + 1 + 1) := by
  show _ = _
  simp
 generalize (w.alloc (.cells #[.pointer (some ⟨B, 0, none⟩)] 57)).alloc (.cells #[.slice (some ⟨g, o, none⟩) 4 lc] 23) = w0 at *
 generalize Ex F w.heap.size 2 = G at *
 have cHP := (HP.out.to HS0.out.fr).cell
 refine (add_one G B T false vs ⟨#[102, 111, 114]⟩ _ w0 HS0.out.env.hF HS0.out.wr (by (try simp at hlim); (try simp); omega) (by decide) HZ.out.symm).mono ?_
 rintro e w1 ⟨rfl, ⟨vs1, hw⟩, hf⟩
 have HS1 := Lib.hid (HS0.out.next hw hf)
 clear hw hf HS0 cHP
 have cHP := (HP.out.to HS1.out.fr).cell
 go_wp2_with fail
 refine (enclose_any G B (T ++ [⟨#[102, 111, 114]⟩]) false vs1 ⟨#[40]⟩ ⟨#[41]⟩ 120 _ (a.o.part true ++ ⟨#[59]⟩ :: (c.o.part false ++ ⟨#[59]⟩ :: e.o.part false)) w1 HS1.out.env.hF HS1.out.wr (by (try simp at hlim); (try simp); omega) (by decide) (by decide) (enters_of Tryz.func120 (by kernel_rfl) rfl) ?cc1).mono ?_
 case cc1 =>
  intro w9 v9 hw9 hf9
  have H9 := Lib.hid (HS1.out.next hw9 hf9)
  exact (c_loop a c e hwa hwc hwe G B _ v9 n0 w9 _ _ g o lc ya yc ye H9.out.env H9.out.wr (HP.out.to H9.out.fr) (HR.out.to H9.out.fr) hg (HYa.out.fr HGg.out H9.out.fr) (H9.out.is HIa.out) (HYc.out.fr HGg.out H9.out.fr) (H9.out.is HIc.out) (HYe.out.fr HGg.out H9.out.fr) (H9.out.is HIe.out) (by (try simp at hlim); (try simp); omega)).mono fun e w' h => h.free
 rintro e w2 ⟨rfl, ⟨vs2, hw⟩, hf⟩
 have HS2 := Lib.hid (HS1.out.next hw hf)
 clear hw hf HS1 cHP
 have cHP := (HP.out.to HS2.out.fr).cell
 have cHR := (HR.out.to HS2.out.fr).cell
 obtain ⟨HYd_0, HYd_1, HYd_2, HYd_3, HYd_4, HYd_5⟩ := (HYd.out.fr HGg.out HS2.out.fr).six
 go_wp2_with fail
 go_still_tail 4, (by kernel_rfl)
 have HD2 := Lib.hid HS2.out.drew
 change wpList _ _ _ _ _ w2.drew
 generalize w2.drew = wd2 at *
 clear HS2
 go_wp2_with fail
 refine (HWd.out ⟨d_k, d_nm, d_n, d_s, d_ka, d_kn, d_kc, d_la, d_ln, d_lc⟩ G B ((T ++ [⟨#[102, 111, 114]⟩]) ++ brack ⟨#[40]⟩ ⟨#[41]⟩ (a.o.part true ++ ⟨#[59]⟩ :: (c.o.part false ++ ⟨#[59]⟩ :: e.o.part false))) vs2 n0 wd2 HD2.out.env (HD2.out.is HId.out) HD2.out.wr (by (try simp at hlim); (try simp); omega)).mono ?_
 rintro e w3 ⟨rfl, ⟨vs3, hw⟩, hf⟩
 have HS3 := Lib.hid (HD2.out.next hw hf)
 clear hw hf HD2 cHP cHR HYd_0 HYd_1 HYd_2 HYd_3 HYd_4 HYd_5
 have HT : Hid ((((T ++ [⟨#[102, 111, 114]⟩]) ++ brack ⟨#[40]⟩ ⟨#[41]⟩ (a.o.part true ++ ⟨#[59]⟩ :: (c.o.part false ++ ⟨#[59]⟩ :: e.o.part false))) ++ d.o.st) = T ++ (⟨#[102, 111, 114]⟩ :: (brack ⟨#[40]⟩ ⟨#[41]⟩ (a.o.part true ++ ⟨#[59]⟩ :: (c.o.part false ++ ⟨#[59]⟩ :: e.o.part false)) ++ d.o.st))) := by
  show _ = _
  simp
 go_wp2_with fail
 go_end0
 have hfin := HS3.out.adds
 rw [HT.out] at hfin
 exact HFIN.out _ _ _ _ hfin
theorem loopIn_any (a c d : V) (hwa : WPart a) (hwc : WExpr c) (hwd : WStmt d) (F : Nat → Prop) (B : Nat) (T : Ts) (vs : Value) (n0 : Nat) (w : World) (A : Option Addr) (lc : Nat) (hlc : 3 ≤ lc) (hE : Env w F n0) (hW : Wr w F B T false vs)
  (hR : RowB w n0 A [a, c, d]) (hlim : T.length + (⟨#[102, 111, 114]⟩ :: (brack ⟨#[40]⟩ ⟨#[41]⟩ (a.o.part false ++ ⟨#[105, 110]⟩ :: c.o.at 0 false) ++ d.o.st)).length ≤ 8796093020000) :
  Calls Tryz.prog 86 #[.pointer (some ⟨B, 0, none⟩), .slice A 3 lc] w (Adds w F B (T ++ (⟨#[102, 111, 114]⟩ :: (brack ⟨#[40]⟩ ⟨#[41]⟩ (a.o.part false ++ ⟨#[105, 110]⟩ :: c.o.at 0 false) ++ d.o.st))) false) := by
 obtain ⟨g, o, ya, yc, yd, rfl, hg, ⟨hya, hia⟩, ⟨hyc, hic⟩, hyd, hid⟩ := hR.three
 obtain ⟨hN, hp, hr⟩ := new2 hE hW #[.pointer (some ⟨B, 0, none⟩)] #[.slice (some ⟨g, o, none⟩) 3 lc] 57 23
 have HS0 := Lib.hid hN.sit
 have HFIN := Lib.hid hN.fin
 have HP := Lib.hid hp
 have HR := Lib.hid hr
 have HGg := Lib.hid (hN.sit.env.sub g hg)
 have HYa := Lib.hid (hN.at_ _ _ _ hg hya)
 have HIa := Lib.hid (hN.is _ _ hia)
 have HYc := Lib.hid (hN.at_ _ _ _ hg hyc)
 have HIc := Lib.hid (hN.is _ _ hic)
 have HYd := Lib.hid (hN.at_ _ _ _ hg hyd)
 have HId := Lib.hid (hN.is _ _ hid)
 have HWd := Lib.hid hwd
 obtain ⟨d_k, d_nm, d_n, d_s, d_ka, d_kn, d_kc, d_la, d_ln, d_lc⟩ := yd
 have hlc' : 3 ≤ lc := hlc
 clear hN hp hr hE hW hR hwd hya hia hyc hic hyd hid
 go_enter Tryz.func86, Tryz.ntmps86
 go_wp2_with fail
 have HZ : Hid (((w.alloc (.cells #[.pointer (some ⟨B, 0, none⟩)] 57)).alloc (.cells #[.slice (some ⟨g, o, none⟩) 3 lc] 23)).heap.size = w.heap.size + 1 + 1) := by
  show _ = _
  simp
 generalize (w.alloc (.cells #[.pointer (some ⟨B, 0, none⟩)] 57)).alloc (.cells #[.slice (some ⟨g, o, none⟩) 3 lc] 23) = w0 at *
 generalize Ex F w.heap.size 2 = G at *
 have cHP := (HP.out.to HS0.out.fr).cell
 refine (add_one G B T false vs ⟨#[102, 111, 114]⟩ _ w0 HS0.out.env.hF HS0.out.wr (by (try simp at hlim); (try simp); omega) (by decide) HZ.out.symm).mono ?_
 rintro e w1 ⟨rfl, ⟨vs1, hw⟩, hf⟩
 have HS1 := Lib.hid (HS0.out.next hw hf)
 clear hw hf HS0 cHP
 have cHP := (HP.out.to HS1.out.fr).cell
 go_wp2_with fail
 refine (enclose_any G B (T ++ [⟨#[102, 111, 114]⟩]) false vs1 ⟨#[40]⟩ ⟨#[41]⟩ 122 _ (a.o.part false ++ ⟨#[105, 110]⟩ :: c.o.at 0 false) w1 HS1.out.env.hF HS1.out.wr (by (try simp at hlim); (try simp); omega) (by decide) (by decide) (enters_of Tryz.func122 (by kernel_rfl) rfl) ?cc1).mono ?_
 case cc1 =>
  intro w9 v9 hw9 hf9
  have H9 := Lib.hid (HS1.out.next hw9 hf9)
  exact (c_loopIn a c hwa hwc G B _ v9 n0 w9 _ _ g o lc ya yc H9.out.env H9.out.wr (HP.out.to H9.out.fr) (HR.out.to H9.out.fr) hg (HYa.out.fr HGg.out H9.out.fr) (H9.out.is HIa.out) (HYc.out.fr HGg.out H9.out.fr) (H9.out.is HIc.out) (by (try simp at hlim); (try simp); omega)).mono fun e w' h => h.free
 rintro e w2 ⟨rfl, ⟨vs2, hw⟩, hf⟩
 have HS2 := Lib.hid (HS1.out.next hw hf)
 clear hw hf HS1 cHP
 have cHP := (HP.out.to HS2.out.fr).cell
 have cHR := (HR.out.to HS2.out.fr).cell
 obtain ⟨HYd_0, HYd_1, HYd_2, HYd_3, HYd_4, HYd_5⟩ := (HYd.out.fr HGg.out HS2.out.fr).six
 go_wp2_with fail
 go_still_tail 4, (by kernel_rfl)
 have HD2 := Lib.hid HS2.out.drew
 change wpList _ _ _ _ _ w2.drew
 generalize w2.drew = wd2 at *
 clear HS2
 go_wp2_with fail
 refine (HWd.out ⟨d_k, d_nm, d_n, d_s, d_ka, d_kn, d_kc, d_la, d_ln, d_lc⟩ G B ((T ++ [⟨#[102, 111, 114]⟩]) ++ brack ⟨#[40]⟩ ⟨#[41]⟩ (a.o.part false ++ ⟨#[105, 110]⟩ :: c.o.at 0 false)) vs2 n0 wd2 HD2.out.env (HD2.out.is HId.out) HD2.out.wr (by (try simp at hlim); (try simp); omega)).mono ?_
 rintro e w3 ⟨rfl, ⟨vs3, hw⟩, hf⟩
 have HS3 := Lib.hid (HD2.out.next hw hf)
 clear hw hf HD2 cHP cHR HYd_0 HYd_1 HYd_2 HYd_3 HYd_4 HYd_5
 have HT : Hid ((((T ++ [⟨#[102, 111, 114]⟩]) ++ brack ⟨#[40]⟩ ⟨#[41]⟩ (a.o.part false ++ ⟨#[105, 110]⟩ :: c.o.at 0 false)) ++ d.o.st) = T ++ (⟨#[102, 111, 114]⟩ :: (brack ⟨#[40]⟩ ⟨#[41]⟩ (a.o.part false ++ ⟨#[105, 110]⟩ :: c.o.at 0 false) ++ d.o.st))) := by
  show _ = _
  simp
 go_wp2_with fail
 go_end0
 have hfin := HS3.out.adds
 rw [HT.out] at hfin
 exact HFIN.out _ _ _ _ hfin
theorem stmt_22 (v : V) (hv : v.k = 22) (hd : ∀ d ∈ v.l, WDecl d) (hll : v.l.length ≤ 4194304) : WStmt v := by
 intro x F B T vs n0 w hE hx hW hlim
 have hraw : v.o.st = (⟨#[118, 97, 114]⟩ :: commas (v.l.map fun u : V => u.o.raw false)) ++ [⟨#[59]⟩] := by
  rw [o_st, hv]
  show _ = _
  simp [stN, rawN, Function.comp_def]
 have hlen1 := congrArg List.length hraw
 rw [hlen1] at hlim
 have HRAW := Lib.hid hraw
 have HIx := Lib.hid hx
 obtain ⟨ka, kc, la, lc, rfl, h1, h2, h3, h4⟩ := hx.open
 simp only [X.v] at *
 rw [hv] at HIx ⊢
 clear hraw hlen1
 obtain ⟨hN, hq⟩ := new1 hE hW #[.int .i64 22, .string v.nm, .int .i64 v.n, .string v.s, .slice ka v.ks.length kc, .slice la v.l.length lc] 25
 have HS0 := Lib.hid hN.sit
 have HFIN := Lib.hid hN.fin
 have HQ := Lib.hid (Box.at_ (x := ⟨22, v.nm, v.n, v.s, ka, v.ks.length, kc, la, v.l.length, lc⟩) hq)
 have HQG := Lib.hid hq.inF
 have HI0 := Lib.hid (hN.is _ _ HIx.out)
 have HRow := Lib.hid (hN.row _ _ h4)
 have HHD := Lib.hid hd
 clear hN hq hE hx hW h1 h2 h3 h4 hv HIx hd
 generalize v.nm = nm at *
 generalize v.n = n at *
 generalize v.s = s at *
 generalize v.ks.length = kn at *
 go_enter Tryz.func44, Tryz.ntmps44
 go_wp2_with fail
 have HZ : Hid ((w.alloc (.cells #[.int .i64 22, .string nm, .int .i64 n, .string s, .slice ka kn kc, .slice la v.l.length lc] 25)).heap.size = w.heap.size + 1) := by
  show _ = _
  simp
 generalize w.alloc (.cells #[.int .i64 22, .string nm, .int .i64 n, .string s, .slice ka kn kc, .slice la v.l.length lc] 25) = w0 at *
 generalize Ex F w.heap.size 1 = G at *
 refine (vars_any v.l HHD.out G B T false vs n0 w0 la lc hll HS0.out.env HS0.out.wr HRow.out (by (try simp at hlim); (try simp); omega)).mono ?_
 rintro e w1 ⟨rfl, ⟨vs1, hw⟩, hf⟩
 have HS1 := Lib.hid (HS0.out.next hw hf)
 clear hw hf HS0
 go_wp2_with fail
 refine (add_one G B (T ++ ⟨#[118, 97, 114]⟩ :: commas (v.l.map fun u : V => u.o.raw false)) false vs1 ⟨#[59]⟩ _ w1 HS1.out.env.hF HS1.out.wr (by (try simp at hlim); (try simp); omega) (by decide) (by simp)).mono ?_
 rintro e w2 ⟨rfl, ⟨vs2, hw⟩, hf⟩
 have HS2 := Lib.hid (HS1.out.next hw hf)
 clear hw hf HS1
 have HT : Hid (((T ++ ⟨#[118, 97, 114]⟩ :: commas (v.l.map fun u : V => u.o.raw false)) ++ [⟨#[59]⟩]) = T ++ v.o.st) := by
  show _ = _
  rw [HRAW.out]
  try simp
 go_wp2_with fail
 go_end0
 have hfin := HS2.out.adds
 rw [HT.out] at hfin
 exact HFIN.out _ _ _ _ hfin
theorem stmt_24 (v a : V) (hv : v.k = 24) (hl : v.l = [a]) (hwa : WExpr a) (hea : isE a = true) : WStmt v := by
 intro x F B T vs n0 w hE hx hW hlim
 have hraw : v.o.st = bareT (a.o.at 0 false) ++ [⟨#[59]⟩] := by
  rw [o_st, hv, hl]
  rfl
 have hlen1 := congrArg List.length hraw
 rw [hlen1] at hlim
 have HRAW := Lib.hid hraw
 have HIx := Lib.hid hx
 obtain ⟨ka, kc, la, lc, rfl, h1, h2, h3, h4⟩ := hx.open
 simp only [X.v] at *
 rw [hv] at HIx ⊢
 rw [hl] at h4
 obtain ⟨g, o, ya, rfl, hg, hya, hia⟩ := h4.one
 have hln : v.l.length = 1 := by rw [hl]; rfl
 have hlc : 1 ≤ lc := by rw [← hln]; exact h2
 clear hl hraw hlen1
 generalize v.l.length = ln at *
 subst hln
 obtain ⟨hN, hq⟩ := new1 hE hW #[.int .i64 24, .string v.nm, .int .i64 v.n, .string v.s, .slice ka v.ks.length kc, .slice (some ⟨g, o, none⟩) 1 lc] 25
 have HS0 := Lib.hid hN.sit
 have HFIN := Lib.hid hN.fin
 have HQ := Lib.hid (Box.at_ (x := ⟨24, v.nm, v.n, v.s, ka, v.ks.length, kc, some ⟨g, o, none⟩, 1, lc⟩) hq)
 have HQG := Lib.hid hq.inF
 have HI0 := Lib.hid (hN.is _ _ HIx.out)
 have HGg := Lib.hid (hN.sit.env.sub g hg)
 have HYa := Lib.hid (hN.at_ _ _ _ hg hya)
 have HIa := Lib.hid (hN.is _ _ hia)
 have HHWA := Lib.hid hwa
 obtain ⟨i0, i1, i2, i3, i4, i5⟩ := hN.at_ _ _ _ hg hya
 obtain ⟨a_k, a_nm, a_n, a_s, a_ka, a_kn, a_kc, a_la, a_ln, a_lc⟩ := ya
 dsimp only at i0 i1 i2 i3 i4 i5
 clear hN hq hE hx hW h1 h2 h3 h4 hv HIx hya hia hg hwa
 generalize v.nm = nm at *
 generalize v.n = n at *
 generalize v.s = s at *
 generalize v.ks.length = kn at *
 go_enter Tryz.func44, Tryz.ntmps44
 go_wp2_with fail
 have HZ : Hid ((w.alloc (.cells #[.int .i64 24, .string nm, .int .i64 n, .string s, .slice ka kn kc, .slice (some ⟨g, o, none⟩) 1 lc] 25)).heap.size = w.heap.size + 1) := by
  show _ = _
  simp
 generalize w.alloc (.cells #[.int .i64 24, .string nm, .int .i64 n, .string s, .slice ka kn kc, .slice (some ⟨g, o, none⟩) 1 lc] 25) = w0 at *
 generalize Ex F w.heap.size 1 = G at *
 refine (exprSt_any a HHWA.out hea ⟨a_k, a_nm, a_n, a_s, a_ka, a_kn, a_kc, a_la, a_ln, a_lc⟩ G B T vs n0 w0 HS0.out.env (HS0.out.is HIa.out) HS0.out.wr hlim).mono ?_
 rintro e w1 ⟨rfl, ⟨vs1, hw⟩, hf⟩
 have HS1 := Lib.hid (HS0.out.next hw hf)
 clear hw hf HS0 i0 i1 i2 i3 i4 i5
 have HT : Hid ((T ++ (bareT (a.o.at 0 false) ++ [⟨#[59]⟩])) = T ++ v.o.st) := by
  show _ = _
  rw [HRAW.out]
  try simp
 go_wp2_with fail
 go_end0
 have hfin := HS1.out.adds
 rw [HT.out] at hfin
 exact HFIN.out _ _ _ _ hfin
theorem stmt_25 (v : V) (hv : v.k = 25) (hd : ∀ d ∈ v.l, WStmt d) (hll : v.l.length ≤ 4194304) : WStmt v := by
 intro x F B T vs n0 w hE hx hW hlim
 have hraw : v.o.st = block (v.l.map V.o) := by
  rw [o_st, hv]
  rfl
 have hlen1 := congrArg List.length hraw
 rw [hlen1] at hlim
 have HRAW := Lib.hid hraw
 have HIx := Lib.hid hx
 obtain ⟨ka, kc, la, lc, rfl, h1, h2, h3, h4⟩ := hx.open
 simp only [X.v] at *
 rw [hv] at HIx ⊢
 clear hraw hlen1
 obtain ⟨hN, hq⟩ := new1 hE hW #[.int .i64 25, .string v.nm, .int .i64 v.n, .string v.s, .slice ka v.ks.length kc, .slice la v.l.length lc] 25
 have HS0 := Lib.hid hN.sit
 have HFIN := Lib.hid hN.fin
 have HQ := Lib.hid (Box.at_ (x := ⟨25, v.nm, v.n, v.s, ka, v.ks.length, kc, la, v.l.length, lc⟩) hq)
 have HQG := Lib.hid hq.inF
 have HI0 := Lib.hid (hN.is _ _ HIx.out)
 have HRow := Lib.hid (hN.row _ _ h4)
 have HHD := Lib.hid hd
 clear hN hq hE hx hW h1 h2 h3 h4 hv HIx hd
 generalize v.nm = nm at *
 generalize v.n = n at *
 generalize v.s = s at *
 generalize v.ks.length = kn at *
 go_enter Tryz.func44, Tryz.ntmps44
 go_wp2_with fail
 have HZ : Hid ((w.alloc (.cells #[.int .i64 25, .string nm, .int .i64 n, .string s, .slice ka kn kc, .slice la v.l.length lc] 25)).heap.size = w.heap.size + 1) := by
  show _ = _
  simp
 generalize w.alloc (.cells #[.int .i64 25, .string nm, .int .i64 n, .string s, .slice ka kn kc, .slice la v.l.length lc] 25) = w0 at *
 generalize Ex F w.heap.size 1 = G at *
 refine (block_any v.l HHD.out G B T false vs n0 w0 la lc hll HS0.out.env HS0.out.wr HRow.out (by (try simp at hlim); (try simp); omega)).mono ?_
 rintro e w1 ⟨rfl, ⟨vs1, hw⟩, hf⟩
 have HS1 := Lib.hid (HS0.out.next hw hf)
 clear hw hf HS0
 have HT : Hid ((T ++ block (v.l.map V.o)) = T ++ v.o.st) := by
  show _ = _
  rw [HRAW.out]
  try simp
 go_wp2_with fail
 go_end0
 have hfin := HS1.out.adds
 rw [HT.out] at hfin
 exact HFIN.out _ _ _ _ hfin
theorem stmt_26a (v a c : V) (hv : v.k = 26) (hl : v.l = [a, c]) (hwa : WExpr a) (hwc : WStmt c) : WStmt v := by
 intro x F B T vs n0 w hE hx hW hlim
 have hraw : v.o.st = headT ⟨#[105, 102]⟩ a.o ++ (c.o.st ++ []) := by
  rw [o_st, hv, hl]
  rfl
 have hlen1 := congrArg List.length hraw
 rw [hlen1] at hlim
 have HRAW := Lib.hid hraw
 have HIx := Lib.hid hx
 obtain ⟨ka, kc, la, lc, rfl, h1, h2, h3, h4⟩ := hx.open
 simp only [X.v] at *
 rw [hv] at HIx ⊢
 rw [hl] at h4
 obtain ⟨g, o, ya, yc, rfl, hg, ⟨hya, hia⟩, hyc, hic⟩ := h4.two
 have hln : v.l.length = 2 := by rw [hl]; rfl
 have hlc : 2 ≤ lc := by rw [← hln]; exact h2
 clear hl hraw hlen1
 generalize v.l.length = ln at *
 subst hln
 obtain ⟨hN, hq⟩ := new1 hE hW #[.int .i64 26, .string v.nm, .int .i64 v.n, .string v.s, .slice ka v.ks.length kc, .slice (some ⟨g, o, none⟩) 2 lc] 25
 have HS0 := Lib.hid hN.sit
 have HFIN := Lib.hid hN.fin
 have HQ := Lib.hid (Box.at_ (x := ⟨26, v.nm, v.n, v.s, ka, v.ks.length, kc, some ⟨g, o, none⟩, 2, lc⟩) hq)
 have HQG := Lib.hid hq.inF
 have HI0 := Lib.hid (hN.is _ _ HIx.out)
 have HGg := Lib.hid (hN.sit.env.sub g hg)
 have HYa := Lib.hid (hN.at_ _ _ _ hg hya)
 have HIa := Lib.hid (hN.is _ _ hia)
 have HYc := Lib.hid (hN.at_ _ _ _ hg hyc)
 have HIc := Lib.hid (hN.is _ _ hic)
 have HHWA := Lib.hid hwa
 have HHWC := Lib.hid hwc
 obtain ⟨i0, i1, i2, i3, i4, i5⟩ := hN.at_ _ _ _ hg hya
 obtain ⟨a_k, a_nm, a_n, a_s, a_ka, a_kn, a_kc, a_la, a_ln, a_lc⟩ := ya
 obtain ⟨c_k, c_nm, c_n, c_s, c_ka, c_kn, c_kc, c_la, c_ln, c_lc⟩ := yc
 dsimp only at i0 i1 i2 i3 i4 i5
 clear hN hq hE hx hW h1 h2 h3 h4 hv HIx hya hia hyc hic hg hwa hwc
 generalize v.nm = nm at *
 generalize v.n = n at *
 generalize v.s = s at *
 generalize v.ks.length = kn at *
 go_enter Tryz.func44, Tryz.ntmps44
 go_wp2_with fail
 have HZ : Hid ((w.alloc (.cells #[.int .i64 26, .string nm, .int .i64 n, .string s, .slice ka kn kc, .slice (some ⟨g, o, none⟩) 2 lc] 25)).heap.size = w.heap.size + 1) := by
  show _ = _
  simp
 generalize w.alloc (.cells #[.int .i64 26, .string nm, .int .i64 n, .string s, .slice ka kn kc, .slice (some ⟨g, o, none⟩) 2 lc] 25) = w0 at *
 generalize Ex F w.heap.size 1 = G at *
 refine (head_any a HHWA.out ⟨#[105, 102]⟩ (by decide) ⟨a_k, a_nm, a_n, a_s, a_ka, a_kn, a_kc, a_la, a_ln, a_lc⟩ G B T false vs n0 w0 HS0.out.env (HS0.out.is HIa.out) HS0.out.wr (by unfold headT; (try unfold headT at hlim); (try simp at hlim); (try simp); omega)).mono ?_
 rintro e w1 ⟨rfl, ⟨vs1, hw⟩, hf⟩
 have HS1 := Lib.hid (HS0.out.next hw hf)
 clear hw hf HS0 i0 i1 i2 i3 i4 i5
 obtain ⟨HYc_0, HYc_1, HYc_2, HYc_3, HYc_4, HYc_5⟩ := (HYc.out.fr HGg.out HS1.out.fr).six
 go_wp2_with fail
 refine (HHWC.out ⟨c_k, c_nm, c_n, c_s, c_ka, c_kn, c_kc, c_la, c_ln, c_lc⟩ G B (T ++ headT ⟨#[105, 102]⟩ a.o) vs1 n0 w1 HS1.out.env (HS1.out.is HIc.out) HS1.out.wr (by (try simp at hlim); (try simp); omega)).mono ?_
 rintro e w2 ⟨rfl, ⟨vs2, hw⟩, hf⟩
 have HS2 := Lib.hid (HS1.out.next hw hf)
 clear hw hf HS1 HYc_0 HYc_1 HYc_2 HYc_3 HYc_4 HYc_5
 have HT : Hid (((T ++ headT ⟨#[105, 102]⟩ a.o) ++ c.o.st) = T ++ v.o.st) := by
  show _ = _
  rw [HRAW.out]
  try simp
 go_wp2_with fail
 go_end0
 have hfin := HS2.out.adds
 rw [HT.out] at hfin
 exact HFIN.out _ _ _ _ hfin
theorem stmt_26b (v a c e : V) (hv : v.k = 26) (hl : v.l = [a, c, e]) (hwa : WExpr a) (hwc : WStmt c) (hwe : WStmt e) : WStmt v := by
 intro x F B T vs n0 w hE hx hW hlim
 have hraw : v.o.st = headT ⟨#[105, 102]⟩ a.o ++ (c.o.st ++ ⟨#[101, 108, 115, 101]⟩ :: e.o.st) := by
  rw [o_st, hv, hl]
  rfl
 have hlen1 := congrArg List.length hraw
 rw [hlen1] at hlim
 have HRAW := Lib.hid hraw
 have HIx := Lib.hid hx
 obtain ⟨ka, kc, la, lc, rfl, h1, h2, h3, h4⟩ := hx.open
 simp only [X.v] at *
 rw [hv] at HIx ⊢
 rw [hl] at h4
 obtain ⟨g, o, ya, yc, ye, rfl, hg, ⟨hya, hia⟩, ⟨hyc, hic⟩, hye, hie⟩ := h4.three
 have hln : v.l.length = 3 := by rw [hl]; rfl
 have hlc : 3 ≤ lc := by rw [← hln]; exact h2
 clear hl hraw hlen1
 generalize v.l.length = ln at *
 subst hln
 obtain ⟨hN, hq⟩ := new1 hE hW #[.int .i64 26, .string v.nm, .int .i64 v.n, .string v.s, .slice ka v.ks.length kc, .slice (some ⟨g, o, none⟩) 3 lc] 25
 have HS0 := Lib.hid hN.sit
 have HFIN := Lib.hid hN.fin
 have HQ := Lib.hid (Box.at_ (x := ⟨26, v.nm, v.n, v.s, ka, v.ks.length, kc, some ⟨g, o, none⟩, 3, lc⟩) hq)
 have HQG := Lib.hid hq.inF
 have HI0 := Lib.hid (hN.is _ _ HIx.out)
 have HGg := Lib.hid (hN.sit.env.sub g hg)
 have HYa := Lib.hid (hN.at_ _ _ _ hg hya)
 have HIa := Lib.hid (hN.is _ _ hia)
 have HYc := Lib.hid (hN.at_ _ _ _ hg hyc)
 have HIc := Lib.hid (hN.is _ _ hic)
 have HYe := Lib.hid (hN.at_ _ _ _ hg hye)
 have HIe := Lib.hid (hN.is _ _ hie)
 have HHWA := Lib.hid hwa
 have HHWC := Lib.hid hwc
 have HHWE := Lib.hid hwe
 obtain ⟨i0, i1, i2, i3, i4, i5⟩ := hN.at_ _ _ _ hg hya
 obtain ⟨a_k, a_nm, a_n, a_s, a_ka, a_kn, a_kc, a_la, a_ln, a_lc⟩ := ya
 obtain ⟨c_k, c_nm, c_n, c_s, c_ka, c_kn, c_kc, c_la, c_ln, c_lc⟩ := yc
 obtain ⟨e_k, e_nm, e_n, e_s, e_ka, e_kn, e_kc, e_la, e_ln, e_lc⟩ := ye
 dsimp only at i0 i1 i2 i3 i4 i5
 clear hN hq hE hx hW h1 h2 h3 h4 hv HIx hya hia hyc hic hye hie hg hwa hwc hwe
 generalize v.nm = nm at *
 generalize v.n = n at *
 generalize v.s = s at *
 generalize v.ks.length = kn at *
 go_enter Tryz.func44, Tryz.ntmps44
 go_wp2_with fail
 have HZ : Hid ((w.alloc (.cells #[.int .i64 26, .string nm, .int .i64 n, .string s, .slice ka kn kc, .slice (some ⟨g, o, none⟩) 3 lc] 25)).heap.size = w.heap.size + 1) := by
  show _ = _
  simp
 generalize w.alloc (.cells #[.int .i64 26, .string nm, .int .i64 n, .string s, .slice ka kn kc, .slice (some ⟨g, o, none⟩) 3 lc] 25) = w0 at *
 generalize Ex F w.heap.size 1 = G at *
 refine (head_any a HHWA.out ⟨#[105, 102]⟩ (by decide) ⟨a_k, a_nm, a_n, a_s, a_ka, a_kn, a_kc, a_la, a_ln, a_lc⟩ G B T false vs n0 w0 HS0.out.env (HS0.out.is HIa.out) HS0.out.wr (by unfold headT; (try unfold headT at hlim); (try simp at hlim); (try simp); omega)).mono ?_
 rintro e w1 ⟨rfl, ⟨vs1, hw⟩, hf⟩
 have HS1 := Lib.hid (HS0.out.next hw hf)
 clear hw hf HS0 i0 i1 i2 i3 i4 i5
 obtain ⟨HYc_0, HYc_1, HYc_2, HYc_3, HYc_4, HYc_5⟩ := (HYc.out.fr HGg.out HS1.out.fr).six
 go_wp2_with fail
 refine (HHWC.out ⟨c_k, c_nm, c_n, c_s, c_ka, c_kn, c_kc, c_la, c_ln, c_lc⟩ G B (T ++ headT ⟨#[105, 102]⟩ a.o) vs1 n0 w1 HS1.out.env (HS1.out.is HIc.out) HS1.out.wr (by (try simp at hlim); (try simp); omega)).mono ?_
 rintro e w2 ⟨rfl, ⟨vs2, hw⟩, hf⟩
 have HS2 := Lib.hid (HS1.out.next hw hf)
 clear hw hf HS1 HYc_0 HYc_1 HYc_2 HYc_3 HYc_4 HYc_5
 go_wp2_with fail
 refine (add_one G B ((T ++ headT ⟨#[105, 102]⟩ a.o) ++ c.o.st) false vs2 ⟨#[101, 108, 115, 101]⟩ _ w2 HS2.out.env.hF HS2.out.wr (by (try simp at hlim); (try simp); omega) (by decide) (by simp)).mono ?_
 rintro e w3 ⟨rfl, ⟨vs3, hw⟩, hf⟩
 have HS3 := Lib.hid (HS2.out.next hw hf)
 clear hw hf HS2
 obtain ⟨HYe_0, HYe_1, HYe_2, HYe_3, HYe_4, HYe_5⟩ := (HYe.out.fr HGg.out HS3.out.fr).six
 go_wp2_with fail
 refine (HHWE.out ⟨e_k, e_nm, e_n, e_s, e_ka, e_kn, e_kc, e_la, e_ln, e_lc⟩ G B (((T ++ headT ⟨#[105, 102]⟩ a.o) ++ c.o.st) ++ [⟨#[101, 108, 115, 101]⟩]) vs3 n0 w3 HS3.out.env (HS3.out.is HIe.out) HS3.out.wr (by (try simp at hlim); (try simp); omega)).mono ?_
 rintro e w4 ⟨rfl, ⟨vs4, hw⟩, hf⟩
 have HS4 := Lib.hid (HS3.out.next hw hf)
 clear hw hf HS3 HYe_0 HYe_1 HYe_2 HYe_3 HYe_4 HYe_5
 have HT : Hid (((((T ++ headT ⟨#[105, 102]⟩ a.o) ++ c.o.st) ++ [⟨#[101, 108, 115, 101]⟩]) ++ e.o.st) = T ++ v.o.st) := by
  show _ = _
  rw [HRAW.out]
  try simp
 go_wp2_with fail
 go_end0
 have hfin := HS4.out.adds
 rw [HT.out] at hfin
 exact HFIN.out _ _ _ _ hfin
theorem stmt_27 (v a c : V) (hv : v.k = 27) (hl : v.l = [a, c]) (hwa : WExpr a) (hwc : WStmt c) : WStmt v := by
 intro x F B T vs n0 w hE hx hW hlim
 have hraw : v.o.st = headT ⟨#[119, 104, 105, 108, 101]⟩ a.o ++ c.o.st := by
  rw [o_st, hv, hl]
  rfl
 have hlen1 := congrArg List.length hraw
 rw [hlen1] at hlim
 have HRAW := Lib.hid hraw
 have HIx := Lib.hid hx
 obtain ⟨ka, kc, la, lc, rfl, h1, h2, h3, h4⟩ := hx.open
 simp only [X.v] at *
 rw [hv] at HIx ⊢
 rw [hl] at h4
 obtain ⟨g, o, ya, yc, rfl, hg, ⟨hya, hia⟩, hyc, hic⟩ := h4.two
 have hln : v.l.length = 2 := by rw [hl]; rfl
 have hlc : 2 ≤ lc := by rw [← hln]; exact h2
 clear hl hraw hlen1
 generalize v.l.length = ln at *
 subst hln
 obtain ⟨hN, hq⟩ := new1 hE hW #[.int .i64 27, .string v.nm, .int .i64 v.n, .string v.s, .slice ka v.ks.length kc, .slice (some ⟨g, o, none⟩) 2 lc] 25
 have HS0 := Lib.hid hN.sit
 have HFIN := Lib.hid hN.fin
 have HQ := Lib.hid (Box.at_ (x := ⟨27, v.nm, v.n, v.s, ka, v.ks.length, kc, some ⟨g, o, none⟩, 2, lc⟩) hq)
 have HQG := Lib.hid hq.inF
 have HI0 := Lib.hid (hN.is _ _ HIx.out)
 have HGg := Lib.hid (hN.sit.env.sub g hg)
 have HYa := Lib.hid (hN.at_ _ _ _ hg hya)
 have HIa := Lib.hid (hN.is _ _ hia)
 have HYc := Lib.hid (hN.at_ _ _ _ hg hyc)
 have HIc := Lib.hid (hN.is _ _ hic)
 have HHWA := Lib.hid hwa
 have HHWC := Lib.hid hwc
 obtain ⟨i0, i1, i2, i3, i4, i5⟩ := hN.at_ _ _ _ hg hya
 obtain ⟨a_k, a_nm, a_n, a_s, a_ka, a_kn, a_kc, a_la, a_ln, a_lc⟩ := ya
 obtain ⟨c_k, c_nm, c_n, c_s, c_ka, c_kn, c_kc, c_la, c_ln, c_lc⟩ := yc
 dsimp only at i0 i1 i2 i3 i4 i5
 clear hN hq hE hx hW h1 h2 h3 h4 hv HIx hya hia hyc hic hg hwa hwc
 generalize v.nm = nm at *
 generalize v.n = n at *
 generalize v.s = s at *
 generalize v.ks.length = kn at *
 go_enter Tryz.func44, Tryz.ntmps44
 go_wp2_with fail
 have HZ : Hid ((w.alloc (.cells #[.int .i64 27, .string nm, .int .i64 n, .string s, .slice ka kn kc, .slice (some ⟨g, o, none⟩) 2 lc] 25)).heap.size = w.heap.size + 1) := by
  show _ = _
  simp
 generalize w.alloc (.cells #[.int .i64 27, .string nm, .int .i64 n, .string s, .slice ka kn kc, .slice (some ⟨g, o, none⟩) 2 lc] 25) = w0 at *
 generalize Ex F w.heap.size 1 = G at *
 refine (head_any a HHWA.out ⟨#[119, 104, 105, 108, 101]⟩ (by decide) ⟨a_k, a_nm, a_n, a_s, a_ka, a_kn, a_kc, a_la, a_ln, a_lc⟩ G B T false vs n0 w0 HS0.out.env (HS0.out.is HIa.out) HS0.out.wr (by unfold headT; (try unfold headT at hlim); (try simp at hlim); (try simp); omega)).mono ?_
 rintro e w1 ⟨rfl, ⟨vs1, hw⟩, hf⟩
 have HS1 := Lib.hid (HS0.out.next hw hf)
 clear hw hf HS0 i0 i1 i2 i3 i4 i5
 obtain ⟨HYc_0, HYc_1, HYc_2, HYc_3, HYc_4, HYc_5⟩ := (HYc.out.fr HGg.out HS1.out.fr).six
 go_wp2_with fail
 refine (HHWC.out ⟨c_k, c_nm, c_n, c_s, c_ka, c_kn, c_kc, c_la, c_ln, c_lc⟩ G B (T ++ headT ⟨#[119, 104, 105, 108, 101]⟩ a.o) vs1 n0 w1 HS1.out.env (HS1.out.is HIc.out) HS1.out.wr (by (try simp at hlim); (try simp); omega)).mono ?_
 rintro e w2 ⟨rfl, ⟨vs2, hw⟩, hf⟩
 have HS2 := Lib.hid (HS1.out.next hw hf)
 clear hw hf HS1 HYc_0 HYc_1 HYc_2 HYc_3 HYc_4 HYc_5
 have HT : Hid (((T ++ headT ⟨#[119, 104, 105, 108, 101]⟩ a.o) ++ c.o.st) = T ++ v.o.st) := by
  show _ = _
  rw [HRAW.out]
  try simp
 go_wp2_with fail
 go_end0
 have hfin := HS2.out.adds
 rw [HT.out] at hfin
 exact HFIN.out _ _ _ _ hfin
theorem stmt_28 (v a c : V) (hv : v.k = 28) (hl : v.l = [a, c]) (hwa : WStmt a) (hwc : WExpr c) : WStmt v := by
 intro x F B T vs n0 w hE hx hW hlim
 have hraw : v.o.st = ⟨#[100, 111]⟩ :: (a.o.st ++ (headT ⟨#[119, 104, 105, 108, 101]⟩ c.o ++ [⟨#[59]⟩])) := by
  rw [o_st, hv, hl]
  rfl
 have hlen1 := congrArg List.length hraw
 rw [hlen1] at hlim
 have HRAW := Lib.hid hraw
 have HIx := Lib.hid hx
 obtain ⟨ka, kc, la, lc, rfl, h1, h2, h3, h4⟩ := hx.open
 simp only [X.v] at *
 rw [hv] at HIx ⊢
 rw [hl] at h4
 obtain ⟨g, o, ya, yc, rfl, hg, ⟨hya, hia⟩, hyc, hic⟩ := h4.two
 have hln : v.l.length = 2 := by rw [hl]; rfl
 have hlc : 2 ≤ lc := by rw [← hln]; exact h2
 clear hl hraw hlen1
 generalize v.l.length = ln at *
 subst hln
 obtain ⟨hN, hq⟩ := new1 hE hW #[.int .i64 28, .string v.nm, .int .i64 v.n, .string v.s, .slice ka v.ks.length kc, .slice (some ⟨g, o, none⟩) 2 lc] 25
 have HS0 := Lib.hid hN.sit
 have HFIN := Lib.hid hN.fin
 have HQ := Lib.hid (Box.at_ (x := ⟨28, v.nm, v.n, v.s, ka, v.ks.length, kc, some ⟨g, o, none⟩, 2, lc⟩) hq)
 have HQG := Lib.hid hq.inF
 have HI0 := Lib.hid (hN.is _ _ HIx.out)
 have HGg := Lib.hid (hN.sit.env.sub g hg)
 have HYa := Lib.hid (hN.at_ _ _ _ hg hya)
 have HIa := Lib.hid (hN.is _ _ hia)
 have HYc := Lib.hid (hN.at_ _ _ _ hg hyc)
 have HIc := Lib.hid (hN.is _ _ hic)
 have HHWA := Lib.hid hwa
 have HHWC := Lib.hid hwc
 obtain ⟨i0, i1, i2, i3, i4, i5⟩ := hN.at_ _ _ _ hg hya
 obtain ⟨a_k, a_nm, a_n, a_s, a_ka, a_kn, a_kc, a_la, a_ln, a_lc⟩ := ya
 obtain ⟨c_k, c_nm, c_n, c_s, c_ka, c_kn, c_kc, c_la, c_ln, c_lc⟩ := yc
 dsimp only at i0 i1 i2 i3 i4 i5
 clear hN hq hE hx hW h1 h2 h3 h4 hv HIx hya hia hyc hic hg hwa hwc
 generalize v.nm = nm at *
 generalize v.n = n at *
 generalize v.s = s at *
 generalize v.ks.length = kn at *
 go_enter Tryz.func44, Tryz.ntmps44
 go_wp2_with fail
 have HZ : Hid ((w.alloc (.cells #[.int .i64 28, .string nm, .int .i64 n, .string s, .slice ka kn kc, .slice (some ⟨g, o, none⟩) 2 lc] 25)).heap.size = w.heap.size + 1) := by
  show _ = _
  simp
 generalize w.alloc (.cells #[.int .i64 28, .string nm, .int .i64 n, .string s, .slice ka kn kc, .slice (some ⟨g, o, none⟩) 2 lc] 25) = w0 at *
 generalize Ex F w.heap.size 1 = G at *
 refine (add_one G B T false vs ⟨#[100, 111]⟩ _ w0 HS0.out.env.hF HS0.out.wr (by (try simp at hlim); (try simp); omega) (by decide) HZ.out.symm).mono ?_
 rintro e w1 ⟨rfl, ⟨vs1, hw⟩, hf⟩
 have HS1 := Lib.hid (HS0.out.next hw hf)
 clear hw hf HS0
 clear i0 i1 i2 i3 i4 i5
 obtain ⟨HYa_0, HYa_1, HYa_2, HYa_3, HYa_4, HYa_5⟩ := (HYa.out.fr HGg.out HS1.out.fr).six
 go_wp2_with fail
 refine (HHWA.out ⟨a_k, a_nm, a_n, a_s, a_ka, a_kn, a_kc, a_la, a_ln, a_lc⟩ G B (T ++ [⟨#[100, 111]⟩]) vs1 n0 w1 HS1.out.env (HS1.out.is HIa.out) HS1.out.wr (by (try simp at hlim); (try simp); omega)).mono ?_
 rintro e w2 ⟨rfl, ⟨vs2, hw⟩, hf⟩
 have HS2 := Lib.hid (HS1.out.next hw hf)
 clear hw hf HS1 HYa_0 HYa_1 HYa_2 HYa_3 HYa_4 HYa_5
 obtain ⟨HYc_0, HYc_1, HYc_2, HYc_3, HYc_4, HYc_5⟩ := (HYc.out.fr HGg.out HS2.out.fr).six
 go_wp2_with fail
 refine (head_any c HHWC.out ⟨#[119, 104, 105, 108, 101]⟩ (by decide) ⟨c_k, c_nm, c_n, c_s, c_ka, c_kn, c_kc, c_la, c_ln, c_lc⟩ G B ((T ++ [⟨#[100, 111]⟩]) ++ a.o.st) false vs2 n0 w2 HS2.out.env (HS2.out.is HIc.out) HS2.out.wr (by unfold headT; (try unfold headT at hlim); (try simp at hlim); (try simp); omega)).mono ?_
 rintro e w3 ⟨rfl, ⟨vs3, hw⟩, hf⟩
 have HS3 := Lib.hid (HS2.out.next hw hf)
 clear hw hf HS2 HYc_0 HYc_1 HYc_2 HYc_3 HYc_4 HYc_5
 go_wp2_with fail
 refine (add_one G B (((T ++ [⟨#[100, 111]⟩]) ++ a.o.st) ++ headT ⟨#[119, 104, 105, 108, 101]⟩ c.o) false vs3 ⟨#[59]⟩ _ w3 HS3.out.env.hF HS3.out.wr (by (try simp at hlim); (try simp); omega) (by decide) (by simp)).mono ?_
 rintro e w4 ⟨rfl, ⟨vs4, hw⟩, hf⟩
 have HS4 := Lib.hid (HS3.out.next hw hf)
 clear hw hf HS3
 have HT : Hid (((((T ++ [⟨#[100, 111]⟩]) ++ a.o.st) ++ headT ⟨#[119, 104, 105, 108, 101]⟩ c.o) ++ [⟨#[59]⟩]) = T ++ v.o.st) := by
  show _ = _
  rw [HRAW.out]
  try simp
 go_wp2_with fail
 go_end0
 have hfin := HS4.out.adds
 rw [HT.out] at hfin
 exact HFIN.out _ _ _ _ hfin
theorem stmt_38 (v a : V) (hv : v.k = 38) (hl : v.l = [a]) (hwa : WStmt a) (hnm : ¬ v.nm.size = 0) : WStmt v := by
 intro x F B T vs n0 w hE hx hW hlim
 have hraw : v.o.st = v.nm :: ⟨#[58]⟩ :: a.o.st := by
  rw [o_st, hv, hl]
  rfl
 have hlen1 := congrArg List.length hraw
 rw [hlen1] at hlim
 have HRAW := Lib.hid hraw
 have HIx := Lib.hid hx
 obtain ⟨ka, kc, la, lc, rfl, h1, h2, h3, h4⟩ := hx.open
 simp only [X.v] at *
 rw [hv] at HIx ⊢
 rw [hl] at h4
 obtain ⟨g, o, ya, rfl, hg, hya, hia⟩ := h4.one
 have hln : v.l.length = 1 := by rw [hl]; rfl
 have hlc : 1 ≤ lc := by rw [← hln]; exact h2
 clear hl hraw hlen1
 generalize v.l.length = ln at *
 subst hln
 obtain ⟨hN, hq⟩ := new1 hE hW #[.int .i64 38, .string v.nm, .int .i64 v.n, .string v.s, .slice ka v.ks.length kc, .slice (some ⟨g, o, none⟩) 1 lc] 25
 have HS0 := Lib.hid hN.sit
 have HFIN := Lib.hid hN.fin
 have HQ := Lib.hid (Box.at_ (x := ⟨38, v.nm, v.n, v.s, ka, v.ks.length, kc, some ⟨g, o, none⟩, 1, lc⟩) hq)
 have HQG := Lib.hid hq.inF
 have HI0 := Lib.hid (hN.is _ _ HIx.out)
 have HGg := Lib.hid (hN.sit.env.sub g hg)
 have HYa := Lib.hid (hN.at_ _ _ _ hg hya)
 have HIa := Lib.hid (hN.is _ _ hia)
 have HHWA := Lib.hid hwa
 have HHNM := Lib.hid hnm
 obtain ⟨i0, i1, i2, i3, i4, i5⟩ := hN.at_ _ _ _ hg hya
 obtain ⟨a_k, a_nm, a_n, a_s, a_ka, a_kn, a_kc, a_la, a_ln, a_lc⟩ := ya
 dsimp only at i0 i1 i2 i3 i4 i5
 clear hN hq hE hx hW h1 h2 h3 h4 hv HIx hya hia hg hwa hnm
 generalize v.nm = nm at *
 generalize v.n = n at *
 generalize v.s = s at *
 generalize v.ks.length = kn at *
 go_enter Tryz.func44, Tryz.ntmps44
 go_wp2_with fail
 have HZ : Hid ((w.alloc (.cells #[.int .i64 38, .string nm, .int .i64 n, .string s, .slice ka kn kc, .slice (some ⟨g, o, none⟩) 1 lc] 25)).heap.size = w.heap.size + 1) := by
  show _ = _
  simp
 generalize w.alloc (.cells #[.int .i64 38, .string nm, .int .i64 n, .string s, .slice ka kn kc, .slice (some ⟨g, o, none⟩) 1 lc] 25) = w0 at *
 generalize Ex F w.heap.size 1 = G at *
 refine (add_two G B T false vs nm ⟨#[58]⟩ _ w0 HS0.out.env.hF HS0.out.wr (by (try simp at hlim); (try simp); omega) HHNM.out HZ.out.symm).mono ?_
 rintro e w1 ⟨rfl, ⟨vs1, hw⟩, hf⟩
 have HS1 := Lib.hid (HS0.out.next hw hf)
 clear hw hf HS0
 rw [show some1 ⟨#[58]⟩ = [⟨#[58]⟩] from some1_of (by decide)] at HS1
 clear i0 i1 i2 i3 i4 i5
 obtain ⟨HYa_0, HYa_1, HYa_2, HYa_3, HYa_4, HYa_5⟩ := (HYa.out.fr HGg.out HS1.out.fr).six
 go_wp2_with fail
 refine (HHWA.out ⟨a_k, a_nm, a_n, a_s, a_ka, a_kn, a_kc, a_la, a_ln, a_lc⟩ G B (T ++ [nm, ⟨#[58]⟩]) vs1 n0 w1 HS1.out.env (HS1.out.is HIa.out) HS1.out.wr (by (try simp at hlim); (try simp); omega)).mono ?_
 rintro e w2 ⟨rfl, ⟨vs2, hw⟩, hf⟩
 have HS2 := Lib.hid (HS1.out.next hw hf)
 clear hw hf HS1 HYa_0 HYa_1 HYa_2 HYa_3 HYa_4 HYa_5
 have HT : Hid (((T ++ [nm, ⟨#[58]⟩]) ++ a.o.st) = T ++ v.o.st) := by
  show _ = _
  rw [HRAW.out]
  try simp
 go_wp2_with fail
 go_end0
 have hfin := HS2.out.adds
 rw [HT.out] at hfin
 exact HFIN.out _ _ _ _ hfin
theorem stmt_29 (v a c e d : V) (hv : v.k = 29) (hl : v.l = [a, c, e, d]) (hwa : WPart a) (hwc : WPart c) (hwe : WPart e) (hwd : WStmt d) : WStmt v := by
 intro x F B T vs n0 w hE hx hW hlim
 have hraw : v.o.st = ⟨#[102, 111, 114]⟩ :: (brack ⟨#[40]⟩ ⟨#[41]⟩ (a.o.part true ++ ⟨#[59]⟩ :: (c.o.part false ++ ⟨#[59]⟩ :: e.o.part false)) ++ d.o.st) := by
  rw [o_st, hv, hl]
  rfl
 have hlen1 := congrArg List.length hraw
 rw [hlen1] at hlim
 have HRAW := Lib.hid hraw
 have HIx := Lib.hid hx
 obtain ⟨ka, kc, la, lc, rfl, h1, h2, h3, h4⟩ := hx.open
 simp only [X.v] at *
 rw [hv] at HIx ⊢
 rw [hl] at h4
 have hln : v.l.length = 4 := by rw [hl]; rfl
 have hlc : 4 ≤ lc := by rw [← hln]; exact h2
 clear hl hraw hlen1
 generalize v.l.length = ln at *
 subst hln
 obtain ⟨hN, hq⟩ := new1 hE hW #[.int .i64 29, .string v.nm, .int .i64 v.n, .string v.s, .slice ka v.ks.length kc, .slice la 4 lc] 25
 have HS0 := Lib.hid hN.sit
 have HFIN := Lib.hid hN.fin
 have HQ := Lib.hid (Box.at_ (x := ⟨29, v.nm, v.n, v.s, ka, v.ks.length, kc, la, 4, lc⟩) hq)
 have HQG := Lib.hid hq.inF
 have HI0 := Lib.hid (hN.is _ _ HIx.out)
 have HRow := Lib.hid (hN.row _ _ h4)
 clear hN hq hE hx hW h1 h2 h3 h4 hv HIx
 go_enter Tryz.func44, Tryz.ntmps44
 go_wp2_with fail
 generalize w.alloc (.cells #[.int .i64 29, .string v.nm, .int .i64 v.n, .string v.s, .slice ka v.ks.length kc, .slice la 4 lc] 25) = w0 at *
 generalize Ex F w.heap.size 1 = G at *
 refine (loop_any a c e d hwa hwc hwe hwd G B T vs n0 w0 la lc hlc HS0.out.env HS0.out.wr HRow.out hlim).mono ?_
 rintro e w1 ⟨rfl, ⟨vs1, hw⟩, hf⟩
 have HS1 := Lib.hid (HS0.out.next hw hf)
 clear hw hf HS0
 go_wp2_with fail
 go_end0
 have hfin := HS1.out.adds
 rw [HRAW.out]
 exact HFIN.out _ _ _ _ hfin
theorem stmt_30 (v a c d : V) (hv : v.k = 30) (hl : v.l = [a, c, d]) (hwa : WPart a) (hwc : WExpr c) (hwd : WStmt d) : WStmt v := by
 intro x F B T vs n0 w hE hx hW hlim
 have hraw : v.o.st = ⟨#[102, 111, 114]⟩ :: (brack ⟨#[40]⟩ ⟨#[41]⟩ (a.o.part false ++ ⟨#[105, 110]⟩ :: c.o.at 0 false) ++ d.o.st) := by
  rw [o_st, hv, hl]
  rfl
 have hlen1 := congrArg List.length hraw
 rw [hlen1] at hlim
 have HRAW := Lib.hid hraw
 have HIx := Lib.hid hx
 obtain ⟨ka, kc, la, lc, rfl, h1, h2, h3, h4⟩ := hx.open
 simp only [X.v] at *
 rw [hv] at HIx ⊢
 rw [hl] at h4
 have hln : v.l.length = 3 := by rw [hl]; rfl
 have hlc : 3 ≤ lc := by rw [← hln]; exact h2
 clear hl hraw hlen1
 generalize v.l.length = ln at *
 subst hln
 obtain ⟨hN, hq⟩ := new1 hE hW #[.int .i64 30, .string v.nm, .int .i64 v.n, .string v.s, .slice ka v.ks.length kc, .slice la 3 lc] 25
 have HS0 := Lib.hid hN.sit
 have HFIN := Lib.hid hN.fin
 have HQ := Lib.hid (Box.at_ (x := ⟨30, v.nm, v.n, v.s, ka, v.ks.length, kc, la, 3, lc⟩) hq)
 have HQG := Lib.hid hq.inF
 have HI0 := Lib.hid (hN.is _ _ HIx.out)
 have HRow := Lib.hid (hN.row _ _ h4)
 clear hN hq hE hx hW h1 h2 h3 h4 hv HIx
 go_enter Tryz.func44, Tryz.ntmps44
 go_wp2_with fail
 generalize w.alloc (.cells #[.int .i64 30, .string v.nm, .int .i64 v.n, .string v.s, .slice ka v.ks.length kc, .slice la 3 lc] 25) = w0 at *
 generalize Ex F w.heap.size 1 = G at *
 refine (loopIn_any a c d hwa hwc hwd G B T vs n0 w0 la lc hlc HS0.out.env HS0.out.wr HRow.out hlim).mono ?_
 rintro e w1 ⟨rfl, ⟨vs1, hw⟩, hf⟩
 have HS1 := Lib.hid (HS0.out.next hw hf)
 clear hw hf HS0
 go_wp2_with fail
 go_end0
 have hfin := HS1.out.adds
 rw [HRAW.out]
 exact HFIN.out _ _ _ _ hfin
theorem stmt_35 (v a c e : V) (hv : v.k = 35) (hl : v.l = [a, c, e]) (hwa : WStmt a) (hc : c.k = 25 → WStmt c ∧ ¬ v.nm.size = 0) (he : e.k = 25 → WStmt e) : WStmt v := by
 intro x F B T vs n0 w hE hx hW hlim
 have hraw : v.o.st = ⟨#[116, 114, 121]⟩ :: (a.o.st ++ ((if c.k = 25 then ⟨#[99, 97, 116, 99, 104]⟩ :: (brack ⟨#[40]⟩ ⟨#[41]⟩ [v.nm] ++ c.o.st) else []) ++ (if e.k = 25 then ⟨#[102, 105, 110, 97, 108, 108, 121]⟩ :: e.o.st else []))) := by
  rw [o_st, hv, hl]
  show _ = _
  simp only [List.map_cons, List.map_nil]
  rw [← o_k c, ← o_k e]
  rfl
 have hlen1 := congrArg List.length hraw
 rw [hlen1] at hlim
 have HRAW := Lib.hid hraw
 have HIx := Lib.hid hx
 obtain ⟨ka, kc, la, lc, rfl, h1, h2, h3, h4⟩ := hx.open
 simp only [X.v] at *
 rw [hv] at HIx ⊢
 clear hraw hlen1
 obtain ⟨hN, hq⟩ := new1 hE hW #[.int .i64 35, .string v.nm, .int .i64 v.n, .string v.s, .slice ka v.ks.length kc, .slice la v.l.length lc] 25
 have HS0 := Lib.hid hN.sit
 have HFIN := Lib.hid hN.fin
 have HQ := Lib.hid (Box.at_ (x := ⟨35, v.nm, v.n, v.s, ka, v.ks.length, kc, la, v.l.length, lc⟩) hq)
 have HQG := Lib.hid hq.inF
 have HI0 := Lib.hid (hN.is _ _ HIx.out)
 have HRow := Lib.hid (hN.row _ _ h4)
 have HTm := Lib.hid (try_any v a c e hl hwa hc he)
 clear hN hq hE hx hW h1 h2 h3 h4 hv HIx hl
 go_enter Tryz.func44, Tryz.ntmps44
 go_wp2_with fail
 generalize w.alloc (.cells #[.int .i64 35, .string v.nm, .int .i64 v.n, .string v.s, .slice ka v.ks.length kc, .slice la v.l.length lc] 25) = w0 at *
 generalize Ex F w.heap.size 1 = G at *
 obtain ⟨i0, i1, i2, i3, i4, i5⟩ := (HQ.out.fr HQG.out HS0.out.fr).six
 refine (HTm.out ⟨35, v.nm, v.n, v.s, ka, v.ks.length, kc, la, v.l.length, lc⟩ G B T vs n0 w0 HS0.out.env HI0.out HS0.out.wr hlim).mono ?_
 rintro e w1 ⟨rfl, ⟨vs1, hw⟩, hf⟩
 have HS1 := Lib.hid (HS0.out.next hw hf)
 clear hw hf HS0 i0 i1 i2 i3 i4 i5
 go_wp2_with fail
 go_end0
 have hfin := HS1.out.adds
 rw [HRAW.out]
 exact HFIN.out _ _ _ _ hfin
theorem stmt_39 (v : V) (hv : v.k = 39) (hf : Writes 89 v fun _ => func v.nm v.ks (v.l.map V.o)) : WStmt v := by
 intro x F B T vs n0 w hE hx hW hlim
 have hraw : v.o.st = func v.nm v.ks (v.l.map V.o) := by
  rw [o_st, hv]
  rfl
 have hlen1 := congrArg List.length hraw
 rw [hlen1] at hlim
 have HRAW := Lib.hid hraw
 have HIx := Lib.hid hx
 obtain ⟨ka, kc, la, lc, rfl, h1, h2, h3, h4⟩ := hx.open
 simp only [X.v] at *
 rw [hv] at HIx ⊢
 clear hraw hlen1
 obtain ⟨hN, hq⟩ := new1 hE hW #[.int .i64 39, .string v.nm, .int .i64 v.n, .string v.s, .slice ka v.ks.length kc, .slice la v.l.length lc] 25
 have HS0 := Lib.hid hN.sit
 have HFIN := Lib.hid hN.fin
 have HQ := Lib.hid (Box.at_ (x := ⟨39, v.nm, v.n, v.s, ka, v.ks.length, kc, la, v.l.length, lc⟩) hq)
 have HQG := Lib.hid hq.inF
 have HI0 := Lib.hid (hN.is _ _ HIx.out)
 have HRow := Lib.hid (hN.row _ _ h4)
 have HTm := Lib.hid (hf)
 clear hN hq hE hx hW h1 h2 h3 h4 hv HIx
 go_enter Tryz.func44, Tryz.ntmps44
 go_wp2_with fail
 generalize w.alloc (.cells #[.int .i64 39, .string v.nm, .int .i64 v.n, .string v.s, .slice ka v.ks.length kc, .slice la v.l.length lc] 25) = w0 at *
 generalize Ex F w.heap.size 1 = G at *
 obtain ⟨i0, i1, i2, i3, i4, i5⟩ := (HQ.out.fr HQG.out HS0.out.fr).six
 refine (HTm.out ⟨39, v.nm, v.n, v.s, ka, v.ks.length, kc, la, v.l.length, lc⟩ G B T false vs n0 w0 HS0.out.env HI0.out HS0.out.wr hlim).mono ?_
 rintro e w1 ⟨rfl, ⟨vs1, hw⟩, hf⟩
 have HS1 := Lib.hid (HS0.out.next hw hf)
 clear hw hf HS0 i0 i1 i2 i3 i4 i5
 go_wp2_with fail
 go_end0
 have hfin := HS1.out.adds
 rw [HRAW.out]
 exact HFIN.out _ _ _ _ hfin
theorem valT_vals {l : List V} (h : l.length ≤ 1) : valT (l.map V.o) = vals0 l := by
 rcases l with _ | ⟨c, _ | ⟨d, r⟩⟩
 ·rfl
 ·simp [valT, vals0]
 ·simp at h
theorem stmt_31 (v : V) (hv : v.k = 31) (hl : v.l = []) : WStmt v := by
 intro x F B T vs n0 w hE hx hW hlim
 have hraw : v.o.st = (⟨#[98, 114, 101, 97, 107]⟩ :: some1 v.nm) ++ (vals0 v.l ++ [⟨#[59]⟩]) := by
  rw [o_st, hv, hl]
  show _ = _
  simp [stN, vals0]
 have hlen1 := congrArg List.length hraw
 rw [hlen1] at hlim
 have HRAW := Lib.hid hraw
 have HIx := Lib.hid hx
 obtain ⟨ka, kc, la, lc, rfl, h1, h2, h3, h4⟩ := hx.open
 simp only [X.v] at *
 rw [hv] at HIx ⊢
 clear hraw hlen1
 obtain ⟨hN, hq⟩ := new1 hE hW #[.int .i64 31, .string v.nm, .int .i64 v.n, .string v.s, .slice ka v.ks.length kc, .slice la v.l.length lc] 25
 have HS0 := Lib.hid hN.sit
 have HFIN := Lib.hid hN.fin
 have HQ := Lib.hid (Box.at_ (x := ⟨31, v.nm, v.n, v.s, ka, v.ks.length, kc, la, v.l.length, lc⟩) hq)
 have HQG := Lib.hid hq.inF
 have HI0 := Lib.hid (hN.is _ _ HIx.out)
 have HRow := Lib.hid (hN.row _ _ h4)
 have HTm := Lib.hid (short_31 v hv (by rw [hl]; simp) (by rw [hl]; simp))
 clear hN hq hE hx hW h1 h2 h3 h4 hv HIx hl
 go_enter Tryz.func44, Tryz.ntmps44
 go_wp2_with fail
 generalize w.alloc (.cells #[.int .i64 31, .string v.nm, .int .i64 v.n, .string v.s, .slice ka v.ks.length kc, .slice la v.l.length lc] 25) = w0 at *
 generalize Ex F w.heap.size 1 = G at *
 obtain ⟨i0, i1, i2, i3, i4, i5⟩ := (HQ.out.fr HQG.out HS0.out.fr).six
 refine (HTm.out ⟨31, v.nm, v.n, v.s, ka, v.ks.length, kc, la, v.l.length, lc⟩ G B T vs n0 w0 HS0.out.env HI0.out HS0.out.wr hlim).mono ?_
 rintro e w1 ⟨rfl, ⟨vs1, hw⟩, hf⟩
 have HS1 := Lib.hid (HS0.out.next hw hf)
 clear hw hf HS0 i0 i1 i2 i3 i4 i5
 go_wp2_with fail
 go_end0
 have hfin := HS1.out.adds
 rw [HRAW.out]
 exact HFIN.out _ _ _ _ hfin
theorem stmt_32 (v : V) (hv : v.k = 32) (hl : v.l = []) : WStmt v := by
 intro x F B T vs n0 w hE hx hW hlim
 have hraw : v.o.st = (⟨#[99, 111, 110, 116, 105, 110, 117, 101]⟩ :: some1 v.nm) ++ (vals0 v.l ++ [⟨#[59]⟩]) := by
  rw [o_st, hv, hl]
  show _ = _
  simp [stN, vals0]
 have hlen1 := congrArg List.length hraw
 rw [hlen1] at hlim
 have HRAW := Lib.hid hraw
 have HIx := Lib.hid hx
 obtain ⟨ka, kc, la, lc, rfl, h1, h2, h3, h4⟩ := hx.open
 simp only [X.v] at *
 rw [hv] at HIx ⊢
 clear hraw hlen1
 obtain ⟨hN, hq⟩ := new1 hE hW #[.int .i64 32, .string v.nm, .int .i64 v.n, .string v.s, .slice ka v.ks.length kc, .slice la v.l.length lc] 25
 have HS0 := Lib.hid hN.sit
 have HFIN := Lib.hid hN.fin
 have HQ := Lib.hid (Box.at_ (x := ⟨32, v.nm, v.n, v.s, ka, v.ks.length, kc, la, v.l.length, lc⟩) hq)
 have HQG := Lib.hid hq.inF
 have HI0 := Lib.hid (hN.is _ _ HIx.out)
 have HRow := Lib.hid (hN.row _ _ h4)
 have HTm := Lib.hid (short_32 v hv (by rw [hl]; simp) (by rw [hl]; simp))
 clear hN hq hE hx hW h1 h2 h3 h4 hv HIx hl
 go_enter Tryz.func44, Tryz.ntmps44
 go_wp2_with fail
 generalize w.alloc (.cells #[.int .i64 32, .string v.nm, .int .i64 v.n, .string v.s, .slice ka v.ks.length kc, .slice la v.l.length lc] 25) = w0 at *
 generalize Ex F w.heap.size 1 = G at *
 obtain ⟨i0, i1, i2, i3, i4, i5⟩ := (HQ.out.fr HQG.out HS0.out.fr).six
 refine (HTm.out ⟨32, v.nm, v.n, v.s, ka, v.ks.length, kc, la, v.l.length, lc⟩ G B T vs n0 w0 HS0.out.env HI0.out HS0.out.wr hlim).mono ?_
 rintro e w1 ⟨rfl, ⟨vs1, hw⟩, hf⟩
 have HS1 := Lib.hid (HS0.out.next hw hf)
 clear hw hf HS0 i0 i1 i2 i3 i4 i5
 go_wp2_with fail
 go_end0
 have hfin := HS1.out.adds
 rw [HRAW.out]
 exact HFIN.out _ _ _ _ hfin
theorem stmt_33 (v : V) (hv : v.k = 33) (h1l : v.l.length ≤ 1) (hl : ∀ c ∈ v.l, WExpr c) : WStmt v := by
 intro x F B T vs n0 w hE hx hW hlim
 have hraw : v.o.st = [⟨#[114, 101, 116, 117, 114, 110]⟩] ++ (vals0 v.l ++ [⟨#[59]⟩]) := by
  rw [o_st, hv, ← valT_vals h1l]
  rfl
 have hlen1 := congrArg List.length hraw
 rw [hlen1] at hlim
 have HRAW := Lib.hid hraw
 have HIx := Lib.hid hx
 obtain ⟨ka, kc, la, lc, rfl, h1, h2, h3, h4⟩ := hx.open
 simp only [X.v] at *
 rw [hv] at HIx ⊢
 clear hraw hlen1
 obtain ⟨hN, hq⟩ := new1 hE hW #[.int .i64 33, .string v.nm, .int .i64 v.n, .string v.s, .slice ka v.ks.length kc, .slice la v.l.length lc] 25
 have HS0 := Lib.hid hN.sit
 have HFIN := Lib.hid hN.fin
 have HQ := Lib.hid (Box.at_ (x := ⟨33, v.nm, v.n, v.s, ka, v.ks.length, kc, la, v.l.length, lc⟩) hq)
 have HQG := Lib.hid hq.inF
 have HI0 := Lib.hid (hN.is _ _ HIx.out)
 have HRow := Lib.hid (hN.row _ _ h4)
 have HTm := Lib.hid (short_33 v hv (by omega) hl)
 clear hN hq hE hx hW h1 h2 h3 h4 hv HIx
 go_enter Tryz.func44, Tryz.ntmps44
 go_wp2_with fail
 generalize w.alloc (.cells #[.int .i64 33, .string v.nm, .int .i64 v.n, .string v.s, .slice ka v.ks.length kc, .slice la v.l.length lc] 25) = w0 at *
 generalize Ex F w.heap.size 1 = G at *
 obtain ⟨i0, i1, i2, i3, i4, i5⟩ := (HQ.out.fr HQG.out HS0.out.fr).six
 refine (HTm.out ⟨33, v.nm, v.n, v.s, ka, v.ks.length, kc, la, v.l.length, lc⟩ G B T vs n0 w0 HS0.out.env HI0.out HS0.out.wr hlim).mono ?_
 rintro e w1 ⟨rfl, ⟨vs1, hw⟩, hf⟩
 have HS1 := Lib.hid (HS0.out.next hw hf)
 clear hw hf HS0 i0 i1 i2 i3 i4 i5
 go_wp2_with fail
 go_end0
 have hfin := HS1.out.adds
 rw [HRAW.out]
 exact HFIN.out _ _ _ _ hfin
theorem stmt_34 (v : V) (hv : v.k = 34) (h1l : v.l.length ≤ 1) (hl : ∀ c ∈ v.l, WExpr c) : WStmt v := by
 intro x F B T vs n0 w hE hx hW hlim
 have hraw : v.o.st = [⟨#[116, 104, 114, 111, 119]⟩] ++ (vals0 v.l ++ [⟨#[59]⟩]) := by
  rw [o_st, hv, ← valT_vals h1l]
  rfl
 have hlen1 := congrArg List.length hraw
 rw [hlen1] at hlim
 have HRAW := Lib.hid hraw
 have HIx := Lib.hid hx
 obtain ⟨ka, kc, la, lc, rfl, h1, h2, h3, h4⟩ := hx.open
 simp only [X.v] at *
 rw [hv] at HIx ⊢
 clear hraw hlen1
 obtain ⟨hN, hq⟩ := new1 hE hW #[.int .i64 34, .string v.nm, .int .i64 v.n, .string v.s, .slice ka v.ks.length kc, .slice la v.l.length lc] 25
 have HS0 := Lib.hid hN.sit
 have HFIN := Lib.hid hN.fin
 have HQ := Lib.hid (Box.at_ (x := ⟨34, v.nm, v.n, v.s, ka, v.ks.length, kc, la, v.l.length, lc⟩) hq)
 have HQG := Lib.hid hq.inF
 have HI0 := Lib.hid (hN.is _ _ HIx.out)
 have HRow := Lib.hid (hN.row _ _ h4)
 have HTm := Lib.hid (short_34 v hv (by omega) hl)
 clear hN hq hE hx hW h1 h2 h3 h4 hv HIx
 go_enter Tryz.func44, Tryz.ntmps44
 go_wp2_with fail
 generalize w.alloc (.cells #[.int .i64 34, .string v.nm, .int .i64 v.n, .string v.s, .slice ka v.ks.length kc, .slice la v.l.length lc] 25) = w0 at *
 generalize Ex F w.heap.size 1 = G at *
 obtain ⟨i0, i1, i2, i3, i4, i5⟩ := (HQ.out.fr HQG.out HS0.out.fr).six
 refine (HTm.out ⟨34, v.nm, v.n, v.s, ka, v.ks.length, kc, la, v.l.length, lc⟩ G B T vs n0 w0 HS0.out.env HI0.out HS0.out.wr hlim).mono ?_
 rintro e w1 ⟨rfl, ⟨vs1, hw⟩, hf⟩
 have HS1 := Lib.hid (HS0.out.next hw hf)
 clear hw hf HS0 i0 i1 i2 i3 i4 i5
 go_wp2_with fail
 go_end0
 have hfin := HS1.out.adds
 rw [HRAW.out]
 exact HFIN.out _ _ _ _ hfin
theorem stmt_40 (v : V) (hv : v.k = 40) (hl : v.l = []) : WStmt v := by
 intro x F B T vs n0 w hE hx hW hlim
 have hraw : v.o.st = [] ++ (vals0 v.l ++ [⟨#[59]⟩]) := by
  rw [o_st, hv, hl]
  rfl
 have hlen1 := congrArg List.length hraw
 rw [hlen1] at hlim
 have HRAW := Lib.hid hraw
 have HIx := Lib.hid hx
 obtain ⟨ka, kc, la, lc, rfl, h1, h2, h3, h4⟩ := hx.open
 simp only [X.v] at *
 rw [hv] at HIx ⊢
 clear hraw hlen1
 obtain ⟨hN, hq⟩ := new1 hE hW #[.int .i64 40, .string v.nm, .int .i64 v.n, .string v.s, .slice ka v.ks.length kc, .slice la v.l.length lc] 25
 have HS0 := Lib.hid hN.sit
 have HFIN := Lib.hid hN.fin
 have HQ := Lib.hid (Box.at_ (x := ⟨40, v.nm, v.n, v.s, ka, v.ks.length, kc, la, v.l.length, lc⟩) hq)
 have HQG := Lib.hid hq.inF
 have HI0 := Lib.hid (hN.is _ _ HIx.out)
 have HRow := Lib.hid (hN.row _ _ h4)
 have HTm := Lib.hid (short_40 v hv (by rw [hl]; simp) (by rw [hl]; simp))
 clear hN hq hE hx hW h1 h2 h3 h4 hv HIx hl
 go_enter Tryz.func44, Tryz.ntmps44
 go_wp2_with fail
 generalize w.alloc (.cells #[.int .i64 40, .string v.nm, .int .i64 v.n, .string v.s, .slice ka v.ks.length kc, .slice la v.l.length lc] 25) = w0 at *
 generalize Ex F w.heap.size 1 = G at *
 obtain ⟨i0, i1, i2, i3, i4, i5⟩ := (HQ.out.fr HQG.out HS0.out.fr).six
 refine (HTm.out ⟨40, v.nm, v.n, v.s, ka, v.ks.length, kc, la, v.l.length, lc⟩ G B T vs n0 w0 HS0.out.env HI0.out HS0.out.wr hlim).mono ?_
 rintro e w1 ⟨rfl, ⟨vs1, hw⟩, hf⟩
 have HS1 := Lib.hid (HS0.out.next hw hf)
 clear hw hf HS0 i0 i1 i2 i3 i4 i5
 go_wp2_with fail
 go_end0
 have hfin := HS1.out.adds
 rw [HRAW.out]
 exact HFIN.out _ _ _ _ hfin
theorem stmt_36 (v a : V) (r : List V) (hv : v.k = 36) (hl : v.l = a :: r) (hwa : WExpr a) (hwr : ∀ u ∈ r, WStmt u) (hrl : r.length ≤ 4194303) : WStmt v := by
 intro x F B T vs n0 w hE hx hW hlim
 have hraw : v.o.st = headT ⟨#[115, 119, 105, 116, 99, 104]⟩ a.o ++ block (r.map V.o) := by
  rw [o_st, hv, hl]
  rfl
 have hlen1 := congrArg List.length hraw
 rw [hlen1] at hlim
 have HRAW := Lib.hid hraw
 have HIx := Lib.hid hx
 obtain ⟨ka, kc, la, lc, rfl, h1, h2, h3, h4⟩ := hx.open
 simp only [X.v] at *
 rw [hv] at HIx ⊢
 rw [hl] at h4
 have h4' := h4
 obtain ⟨g, o, ya, rfl, hg, hya, hia, hrr⟩ := h4'.cons
 have hln : v.l.length = r.length + 1 := by rw [hl]; rfl
 have hlc : r.length + 1 ≤ lc := by rw [← hln]; exact h2
 clear hl hraw hlen1
 generalize v.l.length = ln at *
 subst hln
 obtain ⟨hN, hq⟩ := new1 hE hW #[.int .i64 36, .string v.nm, .int .i64 v.n, .string v.s, .slice ka v.ks.length kc, .slice (some ⟨g, o, none⟩) (r.length + 1) lc] 25
 have HS0 := Lib.hid hN.sit
 have HFIN := Lib.hid hN.fin
 have HQ := Lib.hid (Box.at_ (x := ⟨36, v.nm, v.n, v.s, ka, v.ks.length, kc, some ⟨g, o, none⟩, (r.length + 1), lc⟩) hq)
 have HQG := Lib.hid hq.inF
 have HI0 := Lib.hid (hN.is _ _ HIx.out)
 have HRow := Lib.hid (hN.row _ _ h4)
 have HRR := Lib.hid (hN.row _ _ hrr)
 have HGg := Lib.hid (hN.sit.env.sub g hg)
 have HYa := Lib.hid (hN.at_ _ _ _ hg hya)
 have HIa := Lib.hid (hN.is _ _ hia)
 have HWA := Lib.hid hwa
 have HWR := Lib.hid hwr
 obtain ⟨i0, i1, i2, i3, i4, i5⟩ := hN.at_ _ _ _ hg hya
 obtain ⟨a_k, a_nm, a_n, a_s, a_ka, a_kn, a_kc, a_la, a_ln, a_lc⟩ := ya
 dsimp only at i0 i1 i2 i3 i4 i5
 have hl0 : (0 : Int) < (r.length : Int) + 1 := by omega
 have hl1 : (1 : Int) ≤ (r.length : Int) + 1 := by omega
 have hl2 : (r.length : Int) + 1 ≤ 4194304 := by omega
 clear hN hq hE hx hW h1 h2 h3 h4 h4' hv HIx hg hya hia hrr hwa hwr HRow
 go_enter Tryz.func44, Tryz.ntmps44
 go_wp2_with fail
 generalize w.alloc (.cells #[.int .i64 36, .string v.nm, .int .i64 v.n, .string v.s, .slice ka v.ks.length kc, .slice (some ⟨g, o, none⟩) (r.length + 1) lc] 25) = w0 at *
 generalize Ex F w.heap.size 1 = G at *
 refine (head_any a HWA.out ⟨#[115, 119, 105, 116, 99, 104]⟩ (by decide) ⟨a_k, a_nm, a_n, a_s, a_ka, a_kn, a_kc, a_la, a_ln, a_lc⟩ G B T false vs n0 w0 HS0.out.env HIa.out HS0.out.wr (by unfold headT; (try unfold headT at hlim); (try simp at hlim); (try simp); omega)).mono ?_
 rintro e w1 ⟨rfl, ⟨vs1, hw⟩, hf⟩
 have HS1 := Lib.hid (HS0.out.next hw hf)
 clear hw hf HS0 i0 i1 i2 i3 i4 i5
 by_cases hc1 : lc = 1
 ·subst hc1
  have hr0 : r = [] := List.eq_nil_of_length_eq_zero (by omega)
  subst hr0
  simp only [List.length_nil, Nat.zero_add] at *
  go_wp2_with fail
  refine (block_any [] (by intro u hu; exact HWR.out u hu) G B (T ++ headT ⟨#[115, 119, 105, 116, 99, 104]⟩ a.o) false vs1 n0 w1 (some ⟨g, o, none⟩) _ (by simp) HS1.out.env HS1.out.wr (.inl rfl) (by rw [List.length_append] at hlim ⊢; omega)).mono ?_
  rintro e w2 ⟨rfl, ⟨vs2, hw⟩, hf⟩
  have HS2 := Lib.hid (HS1.out.next hw hf)
  clear hw hf HS1
  go_wp2_with fail
  go_end0
  have hfin := HS2.out.adds
  rw [List.append_assoc] at hfin
  rw [HRAW.out]
  exact HFIN.out _ _ _ _ hfin
 ·have hc2 : ¬ 1 = lc := fun e => hc1 e.symm
  go_wp2_with fail
  refine (block_any r (by intro u hu; exact HWR.out u hu) G B (T ++ headT ⟨#[115, 119, 105, 116, 99, 104]⟩ a.o) false vs1 n0 w1 (some ⟨g, o + 6, none⟩) _ (by omega) HS1.out.env HS1.out.wr (HS1.out.row HRR.out) (by rw [List.length_append] at hlim ⊢; omega)).mono ?_
  rintro e w2 ⟨rfl, ⟨vs2, hw⟩, hf⟩
  have HS2 := Lib.hid (HS1.out.next hw hf)
  clear hw hf HS1
  go_wp2_with fail
  go_end0
  have hfin := HS2.out.adds
  rw [List.append_assoc] at hfin
  rw [HRAW.out]
  exact HFIN.out _ _ _ _ hfin
theorem stmt_37 (v a : V) (r : List V) (hv : v.k = 37) (hl : v.l = a :: r) (hwa : a.k = 42 ∨ WExpr a) (hwr : ∀ u ∈ r, WStmt u) (hrl : r.length ≤ 4194303) : WStmt v := by
 intro x F B T vs n0 w hE hx hW hlim
 have hraw : v.o.st = caseT a ++ stmts (r.map V.o) := by
  rw [o_st, hv, hl]
  show _ = _
  unfold caseT
  rw [← o_k a]
  rfl
 have hlen1 := congrArg List.length hraw
 rw [hlen1] at hlim
 have HRAW := Lib.hid hraw
 have HIx := Lib.hid hx
 obtain ⟨ka, kc, la, lc, rfl, h1, h2, h3, h4⟩ := hx.open
 simp only [X.v] at *
 rw [hv] at HIx ⊢
 rw [hl] at h4
 have h4' := h4
 obtain ⟨g, o, ya, rfl, hg, hya, hia, hrr⟩ := h4'.cons
 have hln : v.l.length = r.length + 1 := by rw [hl]; rfl
 have hlc : r.length + 1 ≤ lc := by rw [← hln]; exact h2
 clear hl hraw hlen1
 generalize v.l.length = ln at *
 subst hln
 obtain ⟨hN, hq⟩ := new1 hE hW #[.int .i64 37, .string v.nm, .int .i64 v.n, .string v.s, .slice ka v.ks.length kc, .slice (some ⟨g, o, none⟩) (r.length + 1) lc] 25
 have HS0 := Lib.hid hN.sit
 have HFIN := Lib.hid hN.fin
 have HQ := Lib.hid (Box.at_ (x := ⟨37, v.nm, v.n, v.s, ka, v.ks.length, kc, some ⟨g, o, none⟩, (r.length + 1), lc⟩) hq)
 have HQG := Lib.hid hq.inF
 have HI0 := Lib.hid (hN.is _ _ HIx.out)
 have HRow := Lib.hid (hN.row _ _ h4)
 have HRR := Lib.hid (hN.row _ _ hrr)
 have HGg := Lib.hid (hN.sit.env.sub g hg)
 have HYa := Lib.hid (hN.at_ _ _ _ hg hya)
 have HIa := Lib.hid (hN.is _ _ hia)
 have HWA := Lib.hid hwa
 have HWR := Lib.hid hwr
 obtain ⟨i0, i1, i2, i3, i4, i5⟩ := hN.at_ _ _ _ hg hya
 obtain ⟨a_k, a_nm, a_n, a_s, a_ka, a_kn, a_kc, a_la, a_ln, a_lc⟩ := ya
 dsimp only at i0 i1 i2 i3 i4 i5
 have hl0 : (0 : Int) < (r.length : Int) + 1 := by omega
 have hl1 : (1 : Int) ≤ (r.length : Int) + 1 := by omega
 have hl2 : (r.length : Int) + 1 ≤ 4194304 := by omega
 clear hN hq hE hx hW h1 h2 h3 h4 h4' hv HIx hg hya hia hrr hwa hwr HRow
 go_enter Tryz.func44, Tryz.ntmps44
 go_wp2_with fail
 generalize w.alloc (.cells #[.int .i64 37, .string v.nm, .int .i64 v.n, .string v.s, .slice ka v.ks.length kc, .slice (some ⟨g, o, none⟩) (r.length + 1) lc] 25) = w0 at *
 generalize Ex F w.heap.size 1 = G at *
 refine (caseHead_any a HWA.out ⟨a_k, a_nm, a_n, a_s, a_ka, a_kn, a_kc, a_la, a_ln, a_lc⟩ G B T vs n0 w0 HS0.out.env HIa.out HS0.out.wr (by (try simp at hlim); omega)).mono ?_
 rintro e w1 ⟨rfl, ⟨vs1, hw⟩, hf⟩
 have HS1 := Lib.hid (HS0.out.next hw hf)
 clear hw hf HS0 i0 i1 i2 i3 i4 i5
 by_cases hc1 : lc = 1
 ·subst hc1
  have hr0 : r = [] := List.eq_nil_of_length_eq_zero (by omega)
  subst hr0
  simp only [List.length_nil, Nat.zero_add] at *
  go_wp2_with fail
  refine (statements_any [] (by intro u hu; exact HWR.out u hu) G B (T ++ caseT a) vs1 n0 w1 (some ⟨g, o, none⟩) _ (by simp) HS1.out.env HS1.out.wr (.inl rfl) (by rw [List.length_append] at hlim ⊢; omega)).mono ?_
  rintro e w2 ⟨rfl, ⟨vs2, hw⟩, hf⟩
  have HS2 := Lib.hid (HS1.out.next hw hf)
  clear hw hf HS1
  go_wp2_with fail
  go_end0
  have hfin := HS2.out.adds
  rw [List.append_assoc] at hfin
  rw [HRAW.out]
  exact HFIN.out _ _ _ _ hfin
 ·have hc2 : ¬ 1 = lc := fun e => hc1 e.symm
  go_wp2_with fail
  refine (statements_any r (by intro u hu; exact HWR.out u hu) G B (T ++ caseT a) vs1 n0 w1 (some ⟨g, o + 6, none⟩) _ (by omega) HS1.out.env HS1.out.wr (HS1.out.row HRR.out) (by rw [List.length_append] at hlim ⊢; omega)).mono ?_
  rintro e w2 ⟨rfl, ⟨vs2, hw⟩, hf⟩
  have HS2 := Lib.hid (HS1.out.next hw hf)
  clear hw hf HS1
  go_wp2_with fail
  go_end0
  have hfin := HS2.out.adds
  rw [List.append_assoc] at hfin
  rw [HRAW.out]
  exact HFIN.out _ _ _ _ hfin
end Go.Proofs.YtllpgoaanbiodaaGreatDoor.R
