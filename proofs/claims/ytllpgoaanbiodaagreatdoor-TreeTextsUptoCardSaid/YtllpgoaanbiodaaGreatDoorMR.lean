/-

-/
import Derived.Test.YtllpgoaanbiodaaGreatDoorML
set_option maxHeartbeats 2000000
set_option maxRecDepth 8000
namespace Go.Proofs.YtllpgoaanbiodaaGreatDoor.R
open Go.RowKit Go.Proofs.YtllpgoaanbiodaaGreatDoor Go.Proofs.YtllpgoaanbiodaaGreatDoor.T
theorem basic_10 (v : V) (hv : v.k = 10) (hf : Writes 89 v fun _ => func v.nm v.ks (v.l.map V.o)) : Writes 143 v fun b => v.o.raw b := by
 intro x F B T b vs n0 w hE hx hW hlim
 have hraw : v.o.raw b = func v.nm v.ks (v.l.map V.o) := by
  rw [o_raw, hv]
  rfl
 dsimp only at hlim ⊢
 rw [hraw] at hlim ⊢
 have HIx := Lib.hid hx
 obtain ⟨ka, kc, la, lc, rfl, h1, h2, h3, h4⟩ := hx.open
 simp only [X.v] at *
 rw [hv] at *
 obtain ⟨hN, hq⟩ := new1 hE hW #[.int .i64 10, .string v.nm, .int .i64 v.n, .string v.s, .slice ka v.ks.length kc, .slice la v.l.length lc] 25
 have HS0 := Lib.hid hN.sit
 have HFIN := Lib.hid hN.fin
 have HQ := Lib.hid (Box.at_ (x := ⟨10, v.nm, v.n, v.s, ka, v.ks.length, kc, la, v.l.length, lc⟩) hq)
 have HQG := Lib.hid hq.inF
 have HI0 := Lib.hid (hN.is _ _ HIx.out)
 have HF := Lib.hid hf
 clear hN hq hE hW hx h1 h2 h3 h4 hraw hv hf HIx
 go_enter Tryz.func143, Tryz.ntmps143
 go_wp2_with fail
 generalize w.alloc (.cells #[.int .i64 10, .string v.nm, .int .i64 v.n, .string v.s, .slice ka v.ks.length kc, .slice la v.l.length lc] 25) = w0 at *
 generalize Ex F w.heap.size 1 = G at *
 obtain ⟨HQ_0, HQ_1, HQ_2, HQ_3, HQ_4, HQ_5⟩ := (HQ.out.fr HQG.out HS0.out.fr).six
 refine (HF.out ⟨10, v.nm, v.n, v.s, ka, v.ks.length, kc, la, v.l.length, lc⟩ G B T b vs n0 w0 HS0.out.env HI0.out HS0.out.wr hlim).mono ?_
 rintro e w1 ⟨rfl, ⟨vs1, hw⟩, hf⟩
 have HS1 := Lib.hid (HS0.out.next hw hf)
 clear hw hf HS0 HQ_0 HQ_1 HQ_2 HQ_3 HQ_4 HQ_5
 go_wp2_with fail
 go_end0
 exact HFIN.out _ _ _ _ HS1.out.adds
theorem update_p (v a : V) (hv : v.k = 16) (hn : v.n = 1) (hl : v.l = [a]) (hwa : WExpr a) (hnm : ¬ v.nm.size = 0) : Writes 141 v fun b => v.o.raw b := by
 intro x F B T b vs n0 w hE hx hW hlim
 have hraw : v.o.raw b = v.nm :: a.o.at 11 b := by
  rw [o_raw, hv, hn, hl]
  rfl
 have hlen1 := congrArg List.length hraw
 dsimp only at hlim
 rw [hlen1] at hlim
 obtain ⟨ka, kc, la, lc, rfl, h1, h2, h3, h4⟩ := hx.open
 simp only [X.v] at *
 rw [hl] at h4
 obtain ⟨g, o, ya, rfl, hg, hya, hia⟩ := h4.one
 rw [hv, hn] at *
 have hln : v.l.length = 1 := by rw [hl]; rfl
 have HRAW := Lib.hid hraw
 have HNM := Lib.hid hnm
 clear hraw hlen1 hv hl hn hnm
 generalize v.l.length = ln at *
 subst hln
 obtain ⟨hN, hq⟩ := new1 hE hW #[.int .i64 16, .string v.nm, .int .i64 1, .string v.s, .slice ka v.ks.length kc, .slice (some ⟨g, o, none⟩) 1 lc] 25
 have HS0 := Lib.hid hN.sit
 have HFIN := Lib.hid hN.fin
 have HQ := Lib.hid (Box.at_ (x := ⟨16, v.nm, 1, v.s, ka, v.ks.length, kc, some ⟨g, o, none⟩, 1, lc⟩) hq)
 have HQG := Lib.hid hq.inF
 have HGg := Lib.hid (hN.sit.env.sub g hg)
 have HYa := Lib.hid (hN.at_ _ _ _ hg hya)
 have HIa := Lib.hid (hN.is _ _ hia)
 have HWa := Lib.hid hwa
 obtain ⟨i0, i1, i2, i3, i4, i5⟩ := hN.at_ _ _ _ hg hya
 obtain ⟨a_k, a_nm, a_n, a_s, a_ka, a_kn, a_kc, a_la, a_ln, a_lc⟩ := ya
 dsimp only at i0 i1 i2 i3 i4 i5
 clear hN hq hE hW hx h1 h2 h3 h4 hg hya hia hwa
 generalize v.nm = nm at *
 generalize v.s = s at *
 generalize v.ks.length = kn at *
 go_enter Tryz.func141, Tryz.ntmps141
 go_wp2_with fail
 have HZ : Hid ((w.alloc (.cells #[.int .i64 16, .string nm, .int .i64 1, .string s, .slice ka kn kc, .slice (some ⟨g, o, none⟩) 1 lc] 25)).heap.size = w.heap.size + 1) := by
  show _ = _
  simp
 generalize w.alloc (.cells #[.int .i64 16, .string nm, .int .i64 1, .string s, .slice ka kn kc, .slice (some ⟨g, o, none⟩) 1 lc] 25) = w0 at *
 generalize Ex F w.heap.size 1 = G at *
 obtain ⟨HQ_0, HQ_1, HQ_2, HQ_3, HQ_4, HQ_5⟩ := (HQ.out.fr HQG.out HS0.out.fr).six
 refine (add_one G B T b vs nm _ w0 HS0.out.env.hF HS0.out.wr (by (try simp at hlim); (try simp); omega) HNM.out HZ.out.symm).mono ?_
 rintro e w1 ⟨rfl, ⟨vs1, hw⟩, hf⟩
 have HS1 := Lib.hid (HS0.out.next hw hf)
 clear hw hf HS0 HQ_0 HQ_1 HQ_2 HQ_3 HQ_4 HQ_5
 clear i0 i1 i2 i3 i4 i5
 obtain ⟨HQ_0, HQ_1, HQ_2, HQ_3, HQ_4, HQ_5⟩ := (HQ.out.fr HQG.out HS1.out.fr).six
 obtain ⟨HYa_0, HYa_1, HYa_2, HYa_3, HYa_4, HYa_5⟩ := (HYa.out.fr HGg.out HS1.out.fr).six
 go_wp2_with fail
 refine (HWa.out 11 ⟨a_k, a_nm, a_n, a_s, a_ka, a_kn, a_kc, a_la, a_ln, a_lc⟩ G B (T ++ [nm]) b vs1 n0 w1 HS1.out.env (HS1.out.is HIa.out) HS1.out.wr (by (try simp at hlim); (try simp); omega)).mono ?_
 rintro e w2 ⟨rfl, ⟨vs2, hw⟩, hf⟩
 have HS2 := Lib.hid (HS1.out.next hw hf)
 clear hw hf HS1 HQ_0 HQ_1 HQ_2 HQ_3 HQ_4 HQ_5 HYa_0 HYa_1 HYa_2 HYa_3 HYa_4 HYa_5
 obtain ⟨HQ_0, HQ_1, HQ_2, HQ_3, HQ_4, HQ_5⟩ := (HQ.out.fr HQG.out HS2.out.fr).six
 go_wp2_with fail
 clear HQ_0 HQ_1 HQ_2 HQ_3 HQ_4 HQ_5
 have HT : Hid (((T ++ [nm]) ++ a.o.at 11 b) = T ++ v.o.raw b) := by
  show _ = _
  rw [HRAW.out]
  simp
 go_end0
 have hfin := HS2.out.adds
 rw [HT.out] at hfin
 exact HFIN.out _ _ _ _ hfin
theorem update_n (v a : V) (hv : v.k = 16) (hn : v.n = 0) (hl : v.l = [a]) (hwa : WExpr a) (hnm : ¬ v.nm.size = 0) : Writes 141 v fun b => v.o.raw b := by
 intro x F B T b vs n0 w hE hx hW hlim
 have hraw : v.o.raw b = a.o.at 11 b ++ [v.nm] := by
  rw [o_raw, hv, hn, hl]
  rfl
 have hlen1 := congrArg List.length hraw
 dsimp only at hlim
 rw [hlen1] at hlim
 obtain ⟨ka, kc, la, lc, rfl, h1, h2, h3, h4⟩ := hx.open
 simp only [X.v] at *
 rw [hl] at h4
 obtain ⟨g, o, ya, rfl, hg, hya, hia⟩ := h4.one
 rw [hv, hn] at *
 have hln : v.l.length = 1 := by rw [hl]; rfl
 have HRAW := Lib.hid hraw
 have HNM := Lib.hid hnm
 clear hraw hlen1 hv hl hn hnm
 generalize v.l.length = ln at *
 subst hln
 obtain ⟨hN, hq⟩ := new1 hE hW #[.int .i64 16, .string v.nm, .int .i64 0, .string v.s, .slice ka v.ks.length kc, .slice (some ⟨g, o, none⟩) 1 lc] 25
 have HS0 := Lib.hid hN.sit
 have HFIN := Lib.hid hN.fin
 have HQ := Lib.hid (Box.at_ (x := ⟨16, v.nm, 0, v.s, ka, v.ks.length, kc, some ⟨g, o, none⟩, 1, lc⟩) hq)
 have HQG := Lib.hid hq.inF
 have HGg := Lib.hid (hN.sit.env.sub g hg)
 have HYa := Lib.hid (hN.at_ _ _ _ hg hya)
 have HIa := Lib.hid (hN.is _ _ hia)
 have HWa := Lib.hid hwa
 obtain ⟨i0, i1, i2, i3, i4, i5⟩ := hN.at_ _ _ _ hg hya
 obtain ⟨a_k, a_nm, a_n, a_s, a_ka, a_kn, a_kc, a_la, a_ln, a_lc⟩ := ya
 dsimp only at i0 i1 i2 i3 i4 i5
 clear hN hq hE hW hx h1 h2 h3 h4 hg hya hia hwa
 generalize v.nm = nm at *
 generalize v.s = s at *
 generalize v.ks.length = kn at *
 go_enter Tryz.func141, Tryz.ntmps141
 go_wp2_with fail
 have HZ : Hid ((w.alloc (.cells #[.int .i64 16, .string nm, .int .i64 0, .string s, .slice ka kn kc, .slice (some ⟨g, o, none⟩) 1 lc] 25)).heap.size = w.heap.size + 1) := by
  show _ = _
  simp
 generalize w.alloc (.cells #[.int .i64 16, .string nm, .int .i64 0, .string s, .slice ka kn kc, .slice (some ⟨g, o, none⟩) 1 lc] 25) = w0 at *
 generalize Ex F w.heap.size 1 = G at *
 obtain ⟨HQ_0, HQ_1, HQ_2, HQ_3, HQ_4, HQ_5⟩ := (HQ.out.fr HQG.out HS0.out.fr).six
 refine (HWa.out 11 ⟨a_k, a_nm, a_n, a_s, a_ka, a_kn, a_kc, a_la, a_ln, a_lc⟩ G B T b vs n0 w0 HS0.out.env (HS0.out.is HIa.out) HS0.out.wr (by (try simp at hlim); (try simp); omega)).mono ?_
 rintro e w1 ⟨rfl, ⟨vs1, hw⟩, hf⟩
 have HS1 := Lib.hid (HS0.out.next hw hf)
 clear hw hf HS0 i0 i1 i2 i3 i4 i5 HQ_0 HQ_1 HQ_2 HQ_3 HQ_4 HQ_5
 obtain ⟨HQ_0, HQ_1, HQ_2, HQ_3, HQ_4, HQ_5⟩ := (HQ.out.fr HQG.out HS1.out.fr).six
 go_wp2_with fail
 refine (add_one G B (T ++ a.o.at 11 b) b vs1 nm _ w1 HS1.out.env.hF HS1.out.wr (by (try simp at hlim); (try simp); omega) HNM.out (by simp)).mono ?_
 rintro e w2 ⟨rfl, ⟨vs2, hw⟩, hf⟩
 have HS2 := Lib.hid (HS1.out.next hw hf)
 clear hw hf HS1 HQ_0 HQ_1 HQ_2 HQ_3 HQ_4 HQ_5
 have HT : Hid (((T ++ a.o.at 11 b) ++ [nm]) = T ++ v.o.raw b) := by
  show _ = _
  rw [HRAW.out]
  simp
 go_wp2_with fail
 go_end0
 have hfin := HS2.out.adds
 rw [HT.out] at hfin
 exact HFIN.out _ _ _ _ hfin
theorem bare_16 (v : V) (hv : v.k = 16) (hb : Writes 141 v fun b => v.o.raw b) : Writes 133 v fun b => v.o.raw b := by
 intro x F B T b vs n0 w hE hx hW hlim
 have HB := Lib.hid hb
 have HIx := Lib.hid hx
 obtain ⟨ka, kc, la, lc, rfl, h1, h2, h3, h4⟩ := hx.open
 simp only [X.v] at *
 rw [hv] at *
 obtain ⟨hN, hp, hq, hr⟩ := new3 hE hW #[.pointer (some ⟨B, 0, none⟩)] #[.int .i64 16, .string v.nm, .int .i64 v.n, .string v.s, .slice ka v.ks.length kc, .slice la v.l.length lc] #[.slice la v.l.length lc] 57 25 23
 have HS0 := Lib.hid hN.sit
 have HFIN := Lib.hid hN.fin
 have HP := Lib.hid hp
 have HQ := Lib.hid (Box.at_ (x := ⟨16, v.nm, v.n, v.s, ka, v.ks.length, kc, la, v.l.length, lc⟩) hq)
 have HQG := Lib.hid hq.inF
 have HI0 := Lib.hid (hN.is _ _ HIx.out)
 clear hN hp hq hr hE hW hx h1 h2 h3 h4 hb HIx hv
 go_enter Tryz.func133, Tryz.ntmps133
 go_wp2_with fail
 generalize ((w.alloc (.cells #[.pointer (some ⟨B, 0, none⟩)] 57)).alloc (.cells #[.int .i64 16, .string v.nm, .int .i64 v.n, .string v.s, .slice ka v.ks.length kc, .slice la v.l.length lc] 25)).alloc (.cells #[.slice la v.l.length lc] 23) = w0 at *
 generalize Ex F w.heap.size 3 = G at *
 have cHP := (HP.out.to HS0.out.fr).cell
 obtain ⟨HQ_0, HQ_1, HQ_2, HQ_3, HQ_4, HQ_5⟩ := (HQ.out.fr HQG.out HS0.out.fr).six
 refine (HB.out ⟨16, v.nm, v.n, v.s, ka, v.ks.length, kc, la, v.l.length, lc⟩ G B T b vs n0 w0 HS0.out.env HI0.out HS0.out.wr hlim).mono ?_
 rintro e w1 ⟨rfl, ⟨vs1, hw⟩, hf⟩
 have HS1 := Lib.hid (HS0.out.next hw hf)
 clear hw hf HS0 cHP HQ_0 HQ_1 HQ_2 HQ_3 HQ_4 HQ_5
 go_wp2_with fail
 go_end0
 exact HFIN.out _ _ _ _ HS1.out.adds
theorem bare_basic (v : V) (h0 : ¬ v.k = 12 ∧ ¬ v.k = 11 ∧ ¬ v.k = 13 ∧ ¬ v.k = 14 ∧ ¬ v.k = 15 ∧ ¬ v.k = 16 ∧ ¬ v.k = 17 ∧ ¬ v.k = 18 ∧ ¬ v.k = 19 ∧ ¬ v.k = 20 ∧ ¬ v.k = 21) (hb : Writes 143 v fun b => v.o.raw b) : Writes 133 v fun b => v.o.raw b := by
 intro x F B T b vs n0 w hE hx hW hlim
 have HB := Lib.hid hb
 have HIx := Lib.hid hx
 obtain ⟨ka, kc, la, lc, rfl, h1, h2, h3, h4⟩ := hx.open
 simp only [X.v] at *
 obtain ⟨k, hk⟩ : ∃ k, k = v.k := ⟨_, rfl⟩
 rw [← hk] at h0 HIx hx ⊢
 have hbe : ∀ m : Int, ¬ k = m → (k == m) = false := fun m hm => by rw [beq_eq_false_iff_ne]; exact hm
 have b12 := hbe 12 (by omega)
 have b11 := hbe 11 (by omega)
 have b13 := hbe 13 (by omega)
 have b14 := hbe 14 (by omega)
 have b15 := hbe 15 (by omega)
 have b16 := hbe 16 (by omega)
 have b17 := hbe 17 (by omega)
 have b18 := hbe 18 (by omega)
 have b19 := hbe 19 (by omega)
 have b20 := hbe 20 (by omega)
 have b21 := hbe 21 (by omega)
 clear hbe h0 hk
 obtain ⟨hN, hp, hq, hr⟩ := new3 hE hW #[.pointer (some ⟨B, 0, none⟩)] #[.int .i64 k, .string v.nm, .int .i64 v.n, .string v.s, .slice ka v.ks.length kc, .slice la v.l.length lc] #[.slice la v.l.length lc] 57 25 23
 have HS0 := Lib.hid hN.sit
 have HFIN := Lib.hid hN.fin
 have HP := Lib.hid hp
 have HQ := Lib.hid (Box.at_ (x := ⟨k, v.nm, v.n, v.s, ka, v.ks.length, kc, la, v.l.length, lc⟩) hq)
 have HQG := Lib.hid hq.inF
 have HI0 := Lib.hid (hN.is _ _ HIx.out)
 clear hN hp hq hr hE hW hx h1 h2 h3 h4 hb HIx
 go_enter Tryz.func133, Tryz.ntmps133
 go_wp2_with fail
 generalize ((w.alloc (.cells #[.pointer (some ⟨B, 0, none⟩)] 57)).alloc (.cells #[.int .i64 k, .string v.nm, .int .i64 v.n, .string v.s, .slice ka v.ks.length kc, .slice la v.l.length lc] 25)).alloc (.cells #[.slice la v.l.length lc] 23) = w0 at *
 generalize Ex F w.heap.size 3 = G at *
 have cHP := (HP.out.to HS0.out.fr).cell
 obtain ⟨HQ_0, HQ_1, HQ_2, HQ_3, HQ_4, HQ_5⟩ := (HQ.out.fr HQG.out HS0.out.fr).six
 refine (HB.out ⟨k, v.nm, v.n, v.s, ka, v.ks.length, kc, la, v.l.length, lc⟩ G B T b vs n0 w0 HS0.out.env HI0.out HS0.out.wr hlim).mono ?_
 rintro e w1 ⟨rfl, ⟨vs1, hw⟩, hf⟩
 have HS1 := Lib.hid (HS0.out.next hw hf)
 clear hw hf HS0 cHP HQ_0 HQ_1 HQ_2 HQ_3 HQ_4 HQ_5
 go_wp2_with fail
 go_end0
 exact HFIN.out _ _ _ _ HS1.out.adds
theorem c_head (u : V) (hu : WExpr u) (x : X) (F : Nat → Prop) (B : Nat) (T : Ts) (b : Bool) (vs : Value) (n0 : Nat) (w : World) (p q : Nat) (hE : Env w F n0) (hx : IsB w n0 u x) (hW : Wr w F B T b vs)
  (hp : Box w F p #[.pointer (some ⟨B, 0, none⟩)] 57) (hq : Box w F q x.cells 25) (hlim : T.length + (u.o.at 0 b).length ≤ 8796093020000) :
  Calls Tryz.prog 119 #[.pointer (some ⟨p, 0, none⟩), .pointer (some ⟨q, 0, none⟩)] w (Adds w F B (T ++ u.o.at 0 b) b) := by
 have HB := Lib.hid (hu 0 x F B T b vs n0 w hE hx hW hlim)
 have hp' := hp.cell
 obtain ⟨c0, c1, c2, c3, c4, c5⟩ := hq.at_
 obtain ⟨k, nm, n, s, ka, kn, kc, la, ln, lc⟩ := x
 simp only [X.v] at *
 clear hp hq hE hx hW hu
 go_enter Tryz.func119, Tryz.ntmps119
 go_wp2_with fail
 refine HB.out.mono ?_
 rintro e w1 ⟨rfl, h2, h3⟩
 have H2 := Lib.hid h2
 have H3 := Lib.hid h3
 clear h2 h3
 go_wp2_with fail
 go_end0
 exact ⟨rfl, H2.out, H3.out⟩
theorem head_any (u : V) (hu : WExpr u) (word : ByteArray) (hword : ¬ word.size = 0) (x : X) (F : Nat → Prop) (B : Nat) (T : Ts) (b : Bool) (vs : Value) (n0 : Nat) (w : World) (hE : Env w F n0) (hx : IsB w n0 u x) (hW : Wr w F B T b vs) (hlim : T.length + (headT word u.o).length ≤ 8796093020000) :
  Calls Tryz.prog 84 #[.pointer (some ⟨B, 0, none⟩), .string word, x.v] w (Adds w F B (T ++ headT word u.o) b) := by
 unfold headT at hlim ⊢
 obtain ⟨k, nm, n, s, ka, kn, kc, la, ln, lc⟩ := x
 simp only [X.v] at *
 obtain ⟨hN, hp, hq⟩ := new2 hE hW #[.pointer (some ⟨B, 0, none⟩)] #[.int .i64 k, .string nm, .int .i64 n, .string s, .slice ka kn kc, .slice la ln lc] 57 25
 have HS0 := Lib.hid hN.sit
 have HFIN := Lib.hid hN.fin
 have HP := Lib.hid hp
 have HQB := Lib.hid hq
 have HI := Lib.hid (hN.is _ _ hx)
 have HWD := Lib.hid hword
 clear hN hp hq hE hW hx hword
 go_enter Tryz.func84, Tryz.ntmps84
 go_wp2_with fail
 have HZ : Hid (((w.alloc (.cells #[.pointer (some ⟨B, 0, none⟩)] 57)).alloc (.cells #[.int .i64 k, .string nm, .int .i64 n, .string s, .slice ka kn kc, .slice la ln lc] 25)).heap.size = w.heap.size + 1 + 1) := by
  show _ = _
  simp
 generalize (w.alloc (.cells #[.pointer (some ⟨B, 0, none⟩)] 57)).alloc (.cells #[.int .i64 k, .string nm, .int .i64 n, .string s, .slice ka kn kc, .slice la ln lc] 25) = w0 at *
 generalize Ex F w.heap.size 2 = G at *
 have cHP := (HP.out.to HS0.out.fr).cell
 refine (add_one G B T b vs word _ w0 HS0.out.env.hF HS0.out.wr (by (try simp at hlim); (try simp); omega) HWD.out HZ.out.symm).mono ?_
 rintro e w1 ⟨rfl, ⟨vs1, hw⟩, hf⟩
 have HS1 := Lib.hid (HS0.out.next hw hf)
 clear hw hf HS0 cHP
 have cHP := (HP.out.to HS1.out.fr).cell
 go_wp2_with fail
 refine (enclose_any G B (T ++ [word]) b vs1 ⟨#[40]⟩ ⟨#[41]⟩ 119 _ (u.o.at 0 false) w1 HS1.out.env.hF HS1.out.wr (by (try simp at hlim); (try simp); omega) (by decide) (by decide) (enters_of Tryz.func119 (by kernel_rfl) rfl) ?cc1).mono ?_
 case cc1 =>
  intro w9 v9 hw9 hf9
  have H9 := Lib.hid (HS1.out.next hw9 hf9)
  exact (c_head u hu ⟨k, nm, n, s, ka, kn, kc, la, ln, lc⟩ G B _ false v9 n0 w9 _ _ H9.out.env (H9.out.is HI.out) H9.out.wr (HP.out.to H9.out.fr) (HQB.out.to H9.out.fr) (by (try simp at hlim); (try simp); omega)).mono fun e w' h => h.free
 rintro e w2 ⟨rfl, ⟨vs2, hw⟩, hf⟩
 have HS2 := Lib.hid (HS1.out.next hw hf)
 clear hw hf HS1 cHP
 go_wp2_with fail
 go_end0
 have hfin := HS2.out.adds
 rw [List.append_assoc] at hfin
 exact HFIN.out _ _ _ _ hfin
def vals' (m : List V) (b : Bool) : Ts := m.flatMap fun c => ⟨#[61]⟩ :: c.o.at 1 b
theorem vals_snoc (m : List V) (b : Bool) (j : Nat) (h : j < m.length) : vals' (m.take (j + 1)) b = vals' (m.take j) b ++ (⟨#[61]⟩ :: m[j].o.at 1 b) := by
 unfold vals'
 rw [snoc_get _ _ h, List.flatMap_append]
 simp
theorem vals_take (m : List V) (b : Bool) (j : Nat) : (vals' (m.take j) b).length ≤ (vals' m b).length := by
 conv => rhs; rw [← List.take_append_drop j m]; unfold vals'; rw [List.flatMap_append, List.length_append]
 unfold vals'
 omega
def WDecl (u : V) : Prop := u.k = 23 ∧ ¬ u.nm.size = 0 ∧ u.l.length ≤ 1 ∧ ∀ c ∈ u.l, WExpr c
theorem raw_decl {u : V} (h : WDecl u) (b : Bool) : u.o.raw b = u.nm :: vals' u.l b := by
 rw [o_raw, h.1]
 have h3 := h.2.2.1
 rcases hl : u.l with _ | ⟨c, _ | ⟨d, r⟩⟩
 ·rfl
 ·simp [rawN, vals']
 ·rw [hl] at h3; simp at h3
theorem c_decl (l : List V) (hl : ∀ u ∈ l, WDecl u) (F : Nat → Prop) (B : Nat) (T : Ts) (b : Bool) (vs : Value) (n0 : Nat) (w : World) (p r : Nat) (A : Option Addr) (lc : Nat) (j : Nat) (hj : j < l.length) (hlen : l.length ≤ 4194304) (hE : Env w F n0) (hW : Wr w F B T b vs) (hp : Box w F p #[.pointer (some ⟨B, 0, none⟩)] 57)
  (hr : Box w F r #[.slice A l.length lc] 23) (hR : RowB w n0 A l) (hlim : T.length + (l[j].o.raw b).length ≤ 8796093020000) :
  Calls Tryz.prog 114 #[.int .i64 (j : Nat), .pointer (some ⟨p, 0, none⟩), .pointer (some ⟨r, 0, none⟩)] w (Adds w F B (T ++ l[j].o.raw b) b) := by
 obtain ⟨g, o, rfl, hg, y, hy, hya⟩ := hR.at_ hj
 have hd := hl _ (List.getElem_mem hj)
 have hraw := raw_decl hd b
 rw [hraw] at hlim ⊢
 obtain ⟨ka, kc, la, lc2, rfl, h1, h2, h3, h4⟩ := hya.open
 have HS0 := Lib.hid (⟨hE, hW, Fr.refl _ _⟩ : Sit w F n0 B T b vs w)
 have HP := Lib.hid hp
 have HR := Lib.hid hr
 have HY := Lib.hid hy
 have HGg := Lib.hid (hE.sub g hg)
 have HR2 := Lib.hid h4
 have HNM := Lib.hid hd.2.1
 have HWC := Lib.hid hd.2.2.2
 have hm1 : l[j].l.length ≤ 1 := hd.2.2.1
 have hl' : (j : Int) < (l.length : Int) := by omega
 have hl2 : (l.length : Int) ≤ 4194304 := by omega
 have hsub := Lib.hid fun (w' : World) (h : Env w' F n0) => h.sub
 clear hp hr hy hE hW hl hg hR hraw h1 h2 h3 h4 hya hd
 generalize l[j].l = m at *
 generalize l[j].k = uk at *
 generalize l[j].nm = un at *
 generalize l[j].n = um at *
 generalize l[j].s = us at *
 generalize l[j].ks.length = kn at *
 generalize l.length = ln at *
 generalize F = G at *
 generalize w = w0 at *
 have HSS : Hid (∀ w', Fr G w0 w' → w'.cell? ⟨p, 0, none⟩ = some (.pointer (some ⟨B, 0, none⟩)) ∧ w'.cell? ⟨r, 0, none⟩ = some (.slice (some ⟨g, o, none⟩) ln lc) ∧ w'.cell? ⟨g, o + j * 6 + 1, none⟩ = some (.string un)) := fun w' hf => by
  have hq := HY.out.fr HGg.out hf
  exact ⟨(HP.out.to hf).cell, (HR.out.to hf).cell, hq.c1⟩
 have hS := HSS.out _ HS0.out.drew.fr
 have HD := Lib.hid HS0.out.drew
 go_enter Tryz.func114, Tryz.ntmps114
 go_wp2_with fail
 refine wp_region_held_drew (S := fun w' => w'.cell? ⟨p, 0, none⟩ = some (.pointer (some ⟨B, 0, none⟩)) ∧ w'.cell? ⟨r, 0, none⟩ = some (.slice (some ⟨g, o, none⟩) ln lc) ∧ w'.cell? ⟨g, o + j * 6 + 1, none⟩ = some (.string un)) (by kernel_rfl) (by (try dsimp only); exact hS) (fun hHeld => ?_)
 iterate 6
  (first
   | (refine wpAnyH_take (i := 0) (v := ?_) rfl (by kernel_rfl) (by decide +kernel) (by decide +kernel) (fun _ _ _ h => h) (Or.inl ⟨by rfl, ?_⟩) (by assumption) ?_; rotate_left; (focus (intro w0 hSw; (try dsimp only at hSw); go_simp; (try with_reducible rfl); done)))
   | (refine wpAnyH_take (i := 1) (v := ?_) rfl (by kernel_rfl) (by decide +kernel) (by decide +kernel) (fun _ _ _ h => h) (Or.inl ⟨by rfl, ?_⟩) (by assumption) ?_; rotate_left; (focus (intro w0 hSw; (try dsimp only at hSw); go_simp; (try with_reducible rfl); done)))
   | (refine wpAnyH_take (i := 2) (v := ?_) rfl (by kernel_rfl) (by decide +kernel) (by decide +kernel) (fun _ _ _ h => h) (Or.inl ⟨by rfl, ?_⟩) (by assumption) ?_; rotate_left; (focus (intro w0 hSw; (try dsimp only at hSw); go_simp; (try with_reducible rfl); done)))
   | (refine wpAnyH_take (i := 3) (v := ?_) rfl (by kernel_rfl) (by decide +kernel) (by decide +kernel) (fun _ _ _ h => h) (Or.inl ⟨by rfl, ?_⟩) (by assumption) ?_; rotate_left; (focus (intro w0 hSw; (try dsimp only at hSw); go_simp; (try with_reducible rfl); done)))
   | (refine wpAnyH_take (i := 4) (v := ?_) rfl (by kernel_rfl) (by decide +kernel) (by decide +kernel) (fun _ _ _ h => h) (Or.inl ⟨by rfl, ?_⟩) (by assumption) ?_; rotate_left; (focus (intro w0 hSw; (try dsimp only at hSw); go_simp; (try with_reducible rfl); done)))
   | (refine wpAnyH_take (i := 5) (v := ?_) rfl (by kernel_rfl) (by decide +kernel) (by decide +kernel) (fun _ _ _ h => h) (Or.inl ⟨by rfl, ?_⟩) (by assumption) ?_; rotate_left; (focus (intro w0 hSw; (try dsimp only at hSw); go_simp; (try with_reducible rfl); done)))
   )
  try simp only [List.getElem_toArray, List.getElem_cons_zero, List.getElem_cons_succ, Act.put, List.setIfInBounds_toArray, List.set_cons_zero, List.set_cons_succ]
 refine wpAnyH_ready (rs := [6]) (by decide +kernel) (by simp) (AllReadyH.cons rfl (fun K hK => ?_) AllReadyH.nil)
 go_simp
 have HT2 := Lib.hid (HD.out.below (below_alloc w0.drew (.cells #[.string un] 9)))
 have fS := HSS.out _ HT2.out.fr
 refine hK.out _ _ fS (fun hHeld3 => ?_)
 clear hK K hHeld
 try simp only [Act.put, List.setIfInBounds_toArray]
 refine wpAnyH_ready (rs := [7]) (by decide +kernel) (by simp) (AllReadyH.cons rfl (fun K hK => ?_) AllReadyH.nil)
 go_simp
 go_at_call 81
 rw [show (w0.alloc (.cells #[.string un] 9)).drew = w0.drew.alloc (.cells #[.string un] 9) from rfl]
 refine (add_one G B T b vs un _ w0.drew HD.out.env.hF HD.out.wr (by (try simp at hlim); omega) HNM.out rfl).mono ?_
 rintro e w2 ⟨rfl, ⟨vs2, hw⟩, hf⟩
 have HS2 := Lib.hid (HD.out.next hw hf)
 clear hw hf
 have gS := HSS.out _ HS2.out.fr
 refine hK.out _ _ gS (fun hHeld4 => ?_)
 clear hK K hHeld3
 try simp only [Act.put, List.setIfInBounds_toArray]
 refine wpAnyH_done (by kernel_rfl) ?_ _
 clear hHeld4 gS fS hS HT2 HD HSS
 have c2 := (HR.out.to HS2.out.fr).cell
 obtain ⟨a0, a1, a2, a3, a4, a5⟩ := (HY.out.fr HGg.out HS2.out.fr).six
 have hm1' : (m.length : Int) ≤ 1 := by omega
 go_wp2_with fail
 clear c2 a0 a1 a2 a3 a4 a5
 go_loopw [20] (fun i wr => ∃ (t : Nat) (v' : Value), t ≤ m.length ∧ i = .int .i64 t ∧ Hid (Sit w0 G n0 B (T ++ [un] ++ vals' (m.take t) b) b v' wr))
  (fun i _ => m.length - (intOf i).toNat)
 case atStart => exact ⟨0, vs2, Nat.zero_le _, rfl, by rw [show T ++ [un] ++ vals' (m.take 0) b = T ++ [un] by simp [vals']]; exact HS2⟩
 case round =>
  obtain ⟨t, v', ht, rfl, hw⟩ := hrel
  by_cases hlt : t < m.length
  ·obtain ⟨g2, o2, rfl, hg2, z, hz, hzc⟩ := HR2.out.at_ hlt
   have HSn := Lib.hid (vals_snoc m b t hlt)
   have HWc := Lib.hid (HWC.out _ (List.getElem_mem hlt))
   have hll : (T ++ [un] ++ vals' (m.take t) b).length + 1 + (m[t].o.at 1 b).length ≤ 8796093020000 := by
    have h1 := congrArg List.length HSn.out
    have h2 := vals_take m b (t + 1)
    rw [h1] at h2
    simp only [List.length_append, List.length_cons, List.length_nil] at h2 hlim ⊢
    omega
   have HIc := Lib.hid (hw.out.is hzc)
   have hzw := hz.fr (HS2.out.env.sub g2 hg2) hw.out.fr
   obtain ⟨hN, hq⟩ := new1 hw.out.env hw.out.wr z.cells 25
   have HSr0 := Lib.hid hN.sit
   have HFr := Lib.hid hN.fin
   have HQ := Lib.hid (Box.at_ hq)
   have HQG := Lib.hid hq.inF
   have HIz := Lib.hid (hN.is _ _ HIc.out)
   have HPr := Lib.hid ((HP.out.to hw.out.fr).below hN.bel)
   have HPG : Hid (Ex G wr.heap.size 1 p) := .inl HP.out.inF
   obtain ⟨z_k, z_nm, z_n, z_s, z_ka, z_kn, z_kc, z_la, z_ln, z_lc⟩ := z
   obtain ⟨b0, b1, b2, b3, b4, b5⟩ := hzw
   simp only [X.cells] at *
   have cp := HPr.out.cell
   generalize m[t] = c at *
   generalize hT1 : T ++ [un] ++ vals' (m.take t) b = T1 at *
   have HW0 := Lib.hid hw.out
   have HT1 := Lib.hid hT1
   clear hN hq hz hzc hg2 HIc hT1 hw
   go_wp2_with fail
   have HZ : Hid ((wr.alloc (.cells #[.int .i64 z_k, .string z_nm, .int .i64 z_n, .string z_s, .slice z_ka z_kn z_kc, .slice z_la z_ln z_lc] 25)).heap.size = wr.heap.size + 1) := by
    show _ = _
    simp
   generalize wr.alloc (.cells #[.int .i64 z_k, .string z_nm, .int .i64 z_n, .string z_s, .slice z_ka z_kn z_kc, .slice z_la z_ln z_lc] 25) = wq at *
   generalize hH : Ex G wr.heap.size 1 = H at *
   clear hH
   refine (add_one H B T1 b v' ⟨#[61]⟩ _ wq HSr0.out.env.hF HSr0.out.wr (by omega) (by decide) HZ.out.symm).mono ?_
   rintro e wa ⟨rfl, ⟨va, hw⟩, hf⟩
   have HSa := Lib.hid (HSr0.out.next hw hf)
   clear hw hf b0 b1 b2 b3 b4 b5 cp
   have cp := (HSa.out.fr.cell (p := ⟨p, 0, none⟩) HPG.out).trans HPr.out.cell
   obtain ⟨d0, d1, d2, d3, d4, d5⟩ := (HQ.out.fr HQG.out HSa.out.fr).six
   go_wp2_with fail
   refine (HWc.out 1 ⟨z_k, z_nm, z_n, z_s, z_ka, z_kn, z_kc, z_la, z_ln, z_lc⟩ H B _ b va n0 wa HSa.out.env (HSa.out.is HIz.out) HSa.out.wr (by simp only [List.length_append, List.length_cons, List.length_nil]; omega)).mono ?_
   rintro e we ⟨rfl, ⟨ve, hw⟩, hf⟩
   have HSe := Lib.hid (HSa.out.next hw hf)
   have hfin := HFr.out _ _ _ _ HSe.out.adds
   obtain ⟨_, ⟨vf, hwf⟩, hff⟩ := hfin
   have HSf := Lib.hid (HW0.out.next hwf hff)
   clear hw hf hwf hff cp d0 d1 d2 d3 d4 d5 HSe
   go_wp2_with fail
   go_roundw
   case rel => exact ⟨t + 1, vf, by omega, by go_num, by rw [HSn.out, ← List.append_assoc, HT1.out]; simpa using HSf⟩
   case measure => simp [intOf]; omega
  ·obtain rfl : t = m.length := by omega
   rw [List.take_length] at hw
   go_wp2_with fail
   go_end0
   have hfin := hw.out.adds
   rw [List.append_assoc] at hfin
   exact hfin
theorem vars_any (l : List V) (hl : ∀ u ∈ l, WDecl u) (F : Nat → Prop) (B : Nat) (T : Ts) (b : Bool) (vs : Value) (n0 : Nat) (w : World) (A : Option Addr) (lc : Nat) (hlen : l.length ≤ 4194304) (hE : Env w F n0) (hW : Wr w F B T b vs)
  (hR : RowB w n0 A l) (hlim : T.length + (⟨#[118, 97, 114]⟩ :: commas (l.map fun u : V => u.o.raw b)).length ≤ 8796093020000) :
  Calls Tryz.prog 80 #[.pointer (some ⟨B, 0, none⟩), .slice A l.length lc] w (Adds w F B (T ++ ⟨#[118, 97, 114]⟩ :: commas (l.map fun u : V => u.o.raw b)) b) := by
 obtain ⟨hN, hp, hr⟩ := new2 hE hW #[.pointer (some ⟨B, 0, none⟩)] #[.slice A l.length lc] 57 23
 have HS0 := Lib.hid hN.sit
 have HFIN := Lib.hid hN.fin
 have HP := Lib.hid hp
 have HR := Lib.hid hr
 have HRow := Lib.hid (hN.row _ _ hR)
 have hlc := lens_commas (l.map fun u : V => u.o.raw b)
 clear hN hp hr hE hW hR
 go_enter Tryz.func80, Tryz.ntmps80
 go_wp2_with fail
 have HZ : Hid (((w.alloc (.cells #[.pointer (some ⟨B, 0, none⟩)] 57)).alloc (.cells #[.slice A l.length lc] 23)).heap.size = w.heap.size + 1 + 1) := by
  show _ = _
  simp
 generalize (w.alloc (.cells #[.pointer (some ⟨B, 0, none⟩)] 57)).alloc (.cells #[.slice A l.length lc] 23) = w0 at *
 generalize Ex F w.heap.size 2 = G at *
 refine (add_one G B T b vs ⟨#[118, 97, 114]⟩ _ w0 HS0.out.env.hF HS0.out.wr (by (try simp at hlim); omega) (by decide) HZ.out.symm).mono ?_
 rintro e w1 ⟨rfl, ⟨vs1, hw⟩, hf⟩
 have HS1 := Lib.hid (HS0.out.next hw hf)
 clear hw hf HS0
 have cp := (HP.out.to HS1.out.fr).cell
 have cr := (HR.out.to HS1.out.fr).cell
 have HP1 := Lib.hid (HP.out.to HS1.out.fr)
 have HR1 := Lib.hid (HR.out.to HS1.out.fr)
 have HRow1 := Lib.hid (HS1.out.row HRow.out)
 go_wp2_with fail
 refine (commas_any G B (T ++ [⟨#[118, 97, 114]⟩]) b vs1 (l.map fun u : V => u.o.raw b) l.length 114 [.pointer (some ⟨w.heap.size, 0, none⟩), .pointer (some ⟨w.heap.size + 1, 0, none⟩)] w1 HS1.out.env.hF HS1.out.wr (by (try simp at hlim); (try simp); omega) (by simp) (enters_of Tryz.func114 (by kernel_rfl) rfl) ?cc).mono ?_
 case cc =>
  intro j hj T1 w2 v2 h1 h2 h3
  rw [lens_map] at h1 ⊢
  exact c_decl l hl G B T1 b v2 n0 w2 _ _ A lc j (by simpa using hj) hlen (HS1.out.env.to h3) h2 (HP1.out.to h3) (HR1.out.to h3) (HS1.out.env.row h3 HRow1.out) h1
 rintro e w2 ⟨rfl, ⟨vs2, hw⟩, hf⟩
 have HS2 := Lib.hid (HS1.out.next hw hf)
 clear hw hf HS1 cp cr HP1 HR1 HRow1
 go_wp2_with fail
 go_end0
 have hfin := HS2.out.adds
 rw [List.append_assoc] at hfin
 exact HFIN.out _ _ _ _ hfin
def WPart (u : V) : Prop := u.k = 42 ∨ (u.k = 22 ∧ u.l.length ≤ 4194304 ∧ ∀ d ∈ u.l, WDecl d) ∨ (¬ u.k = 42 ∧ ¬ u.k = 22 ∧ WExpr u)
theorem part_42 {u : V} (h : u.k = 42) (b : Bool) : u.o.part b = [] := by unfold O.part; rw [o_k, if_pos h]
theorem part_22 {u : V} (h : u.k = 22) (b : Bool) : u.o.part b = ⟨#[118, 97, 114]⟩ :: commas (u.l.map fun d : V => d.o.raw b) := by
 unfold O.part
 rw [o_k, if_neg (by omega), if_pos h, o_raw, h]
 show _ = _
 simp [rawN, Function.comp_def]
theorem part_e {u : V} (h : ¬ u.k = 42) (h2 : ¬ u.k = 22) (b : Bool) : u.o.part b = u.o.at 0 b := by unfold O.part; rw [o_k, if_neg h, if_neg h2]
theorem part_42_any (v : V) (hv : v.k = 42) : Writes 121 v fun b => v.o.part b := by
 intro x F B T b vs n0 w hE hx hW hlim
 dsimp only at hlim ⊢
 rw [part_42 hv] at hlim ⊢
 obtain ⟨ka, kc, la, lc, rfl, h1, h2, h3, h4⟩ := hx.open
 have HIx := Lib.hid hx
 simp only [X.v] at *
 rw [hv] at *
 obtain ⟨hN, hq⟩ := new1 hE hW #[.int .i64 42, .string v.nm, .int .i64 v.n, .string v.s, .slice ka v.ks.length kc, .slice la v.l.length lc] 25
 have HS0 := Lib.hid hN.sit
 have HFIN := Lib.hid hN.fin
 have HQ := Lib.hid (Box.at_ (x := ⟨42, v.nm, v.n, v.s, ka, v.ks.length, kc, la, v.l.length, lc⟩) hq)
 have HQG := Lib.hid hq.inF
 have HI0 := Lib.hid (hN.is _ _ HIx.out)
 have HRow := Lib.hid (hN.row _ _ h4)
 clear hN hq hE hW hx h1 h2 h3 h4 HIx hv
 go_enter Tryz.func121, Tryz.ntmps121
 go_wp2_with fail
 go_end0
 rw [List.append_nil]
 exact HFIN.out _ _ _ _ HS0.out.adds
theorem part_22_any (v : V) (hv : v.k = 22) (hll : v.l.length ≤ 4194304) (hl : ∀ d ∈ v.l, WDecl d) : Writes 121 v fun b => v.o.part b := by
 intro x F B T b vs n0 w hE hx hW hlim
 dsimp only at hlim ⊢
 rw [part_22 hv] at hlim ⊢
 obtain ⟨ka, kc, la, lc, rfl, h1, h2, h3, h4⟩ := hx.open
 have HIx := Lib.hid hx
 simp only [X.v] at *
 rw [hv] at *
 obtain ⟨hN, hq⟩ := new1 hE hW #[.int .i64 22, .string v.nm, .int .i64 v.n, .string v.s, .slice ka v.ks.length kc, .slice la v.l.length lc] 25
 have HS0 := Lib.hid hN.sit
 have HFIN := Lib.hid hN.fin
 have HQ := Lib.hid (Box.at_ (x := ⟨22, v.nm, v.n, v.s, ka, v.ks.length, kc, la, v.l.length, lc⟩) hq)
 have HQG := Lib.hid hq.inF
 have HI0 := Lib.hid (hN.is _ _ HIx.out)
 have HRow := Lib.hid (hN.row _ _ h4)
 clear hN hq hE hW hx h1 h2 h3 h4 HIx hv
 go_enter Tryz.func121, Tryz.ntmps121
 go_wp2_with fail
 generalize w.alloc (.cells #[.int .i64 22, .string v.nm, .int .i64 v.n, .string v.s, .slice ka v.ks.length kc, .slice la v.l.length lc] 25) = w0 at *
 generalize Ex F w.heap.size 1 = G at *
 refine (vars_any v.l hl G B T b vs n0 w0 la lc hll HS0.out.env HS0.out.wr HRow.out hlim).mono ?_
 rintro e w1 ⟨rfl, ⟨vs1, hw⟩, hf⟩
 have HS1 := Lib.hid (HS0.out.next hw hf)
 clear hw hf HS0
 go_wp2_with fail
 go_end0
 exact HFIN.out _ _ _ _ HS1.out.adds
theorem part_e_any (v : V) (hv : ¬ v.k = 42) (hv2 : ¬ v.k = 22) (hw : WExpr v) : Writes 121 v fun b => v.o.part b := by
 intro x F B T b vs n0 w hE hx hW hlim
 dsimp only at hlim ⊢
 rw [part_e hv hv2] at hlim ⊢
 have HWv := Lib.hid hw
 clear hw
 obtain ⟨ka, kc, la, lc, rfl, h1, h2, h3, h4⟩ := hx.open
 have HIx := Lib.hid hx
 simp only [X.v] at *
 obtain ⟨k, hk⟩ : ∃ k, k = v.k := ⟨_, rfl⟩
 rw [← hk] at hv hv2 HIx ⊢
 have b42 : (k == 42) = false := by rw [beq_eq_false_iff_ne]; exact hv
 have b22 : (k == 22) = false := by rw [beq_eq_false_iff_ne]; exact hv2
 obtain ⟨hN, hq⟩ := new1 hE hW #[.int .i64 k, .string v.nm, .int .i64 v.n, .string v.s, .slice ka v.ks.length kc, .slice la v.l.length lc] 25
 have HS0 := Lib.hid hN.sit
 have HFIN := Lib.hid hN.fin
 have HQ := Lib.hid (Box.at_ (x := ⟨k, v.nm, v.n, v.s, ka, v.ks.length, kc, la, v.l.length, lc⟩) hq)
 have HQG := Lib.hid hq.inF
 have HI0 := Lib.hid (hN.is _ _ HIx.out)
 have HRow := Lib.hid (hN.row _ _ h4)
 clear hN hq hE hW hx h1 h2 h3 h4 HIx hv hv2 hk
 go_enter Tryz.func121, Tryz.ntmps121
 go_wp2_with fail
 generalize w.alloc (.cells #[.int .i64 k, .string v.nm, .int .i64 v.n, .string v.s, .slice ka v.ks.length kc, .slice la v.l.length lc] 25) = w0 at *
 generalize Ex F w.heap.size 1 = G at *
 refine (HWv.out 0 ⟨k, v.nm, v.n, v.s, ka, v.ks.length, kc, la, v.l.length, lc⟩ G B T b vs n0 w0 HS0.out.env HI0.out HS0.out.wr hlim).mono ?_
 rintro e w1 ⟨rfl, ⟨vs1, hw⟩, hf⟩
 have HS1 := Lib.hid (HS0.out.next hw hf)
 clear hw hf HS0
 go_wp2_with fail
 go_end0
 exact HFIN.out _ _ _ _ HS1.out.adds
theorem part_any (v : V) (h : WPart v) : Writes 121 v fun b => v.o.part b := by
 rcases h with h | ⟨h, h2, h3⟩ | ⟨h, h2, h3⟩
 ·exact part_42_any v h
 ·exact part_22_any v h h2 h3
 ·exact part_e_any v h h2 h3
end Go.Proofs.YtllpgoaanbiodaaGreatDoor.R
