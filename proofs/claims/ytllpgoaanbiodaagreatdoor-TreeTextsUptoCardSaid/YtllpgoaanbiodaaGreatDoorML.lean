/-

-/
import Derived.Test.YtllpgoaanbiodaaGreatDoorMK
import Derived.Sort.Grow
import Derived.Deep.RegionHeld3
set_option maxHeartbeats 1000000
set_option maxRecDepth 8000
namespace Go.Proofs.YtllpgoaanbiodaaGreatDoor.R
open Go.RowKit Go.Proofs.YtllpgoaanbiodaaGreatDoor Go.Proofs.YtllpgoaanbiodaaGreatDoor.T
theorem quoted_any (s : ByteArray) (w : World) (hs : s.size ≤ 4194304) (he : s.size % 2 = 0) :
  Calls Tryz.prog 150 #[.string s] w fun e w' => e = .returned (.string (quo s)) ∧ Below w.heap.size w w' := by
 have HQ := Lib.hid (quote_any s w hs)
 rw [quoteRes_even (by rw [size_list]; exact he)] at HQ
 unfold quo
 go_enter Tryz.func150, Tryz.ntmps150
 go_wp2_with fail
 refine HQ.out.mono ?_
 rintro e w' ⟨rfl, hb⟩
 go_wp2_with fail
 go_ret
 exact ⟨rfl, hb⟩
theorem quo_some (s : ByteArray) : ¬ (quo s).size = 0 := by
 show ¬ (quote (us (bl s))).toArray.size = 0
 rw [List.size_toArray]
 unfold quote
 simp
theorem c_prop (l : List V) (hl : ∀ u ∈ l, ∃ c, u.l = [c] ∧ WExpr c ∧ u.s.size % 2 = 0 ∧ u.s.size ≤ 4194304) (F : Nat → Prop) (B : Nat) (T : Ts) (vs : Value) (n0 : Nat) (w : World) (p r : Nat) (A : Option Addr) (lc : Nat) (j : Nat) (hj : j < l.length) (hlen : l.length ≤ 4194304) (hE : Env w F n0) (hW : Wr w F B T false vs) (hp : Box w F p #[.pointer (some ⟨B, 0, none⟩)] 57)
  (hr : Box w F r #[.slice A l.length lc] 23) (hR : RowB w n0 A l) (hk : l[j].k = 9) (hlim : T.length + (l[j].o.raw false).length ≤ 8796093020000) :
  Calls Tryz.prog 160 #[.int .i64 (j : Nat), .pointer (some ⟨p, 0, none⟩), .pointer (some ⟨r, 0, none⟩)] w (Adds w F B (T ++ l[j].o.raw false) false) := by
 obtain ⟨g, o, rfl, hg, y, hy, hya⟩ := hR.at_ hj
 obtain ⟨c, hul, hwc, heven, hsz⟩ := hl _ (List.getElem_mem hj)
 have hraw : l[j].o.raw false = quo l[j].s :: ⟨#[58]⟩ :: c.o.at 1 false := by
  rw [o_raw, hk, hul]
  rfl
 have hlr := congrArg List.length hraw
 rw [hlr] at hlim
 clear hlr
 have HRAW := Lib.hid hraw
 obtain ⟨ka, kc, la, lc2, rfl, h1, h2, h3, h4⟩ := hya.open
 have HS0 := Lib.hid (⟨hE, hW, Fr.refl _ _⟩ : Sit w F n0 B T false vs w)
 rw [hul] at h4
 obtain ⟨g2, o2, z, rfl, hg2, hz, hzc⟩ := h4.one
 have hln2 : l[j].l.length = 1 := by rw [hul]; rfl
 have HP := Lib.hid hp
 have HR := Lib.hid hr
 have HY := Lib.hid hy
 have HGg := Lib.hid (hE.sub g hg)
 have HG2 := Lib.hid (hE.sub g2 hg2)
 have HZ := Lib.hid hz
 have HIc := Lib.hid hzc
 have HWc := Lib.hid hwc
 have HQT := Lib.hid fun w => quoted_any l[j].s w hsz heven
 have hl' : (j : Int) < (l.length : Int) := by omega
 have hl2 : (l.length : Int) ≤ 4194304 := by omega
 obtain ⟨z_k, z_nm, z_n, z_s, z_ka, z_kn, z_kc, z_la, z_ln, z_lc⟩ := z
 clear hp hr hy hE hW hzc hl hg hg2 hR hraw hul hwc heven hsz hk h1 h2 h3 h4 hya hz
 generalize l[j].l.length = ln2 at *
 subst hln2
 generalize l[j].k = uk at *
 generalize l[j].nm = un at *
 generalize l[j].n = um at *
 generalize l[j].s = us at *
 generalize l[j].ks.length = kn at *
 generalize l[j] = u at *
 generalize l.length = ln at *
 generalize F = G at *
 generalize w = w0 at *
 have HSS : Hid (∀ w', Fr G w0 w' → w'.cell? ⟨p, 0, none⟩ = some (.pointer (some ⟨B, 0, none⟩)) ∧ w'.cell? ⟨r, 0, none⟩ = some (.slice (some ⟨g, o, none⟩) ln lc) ∧ w'.cell? ⟨g, o + j * 6 + 3, none⟩ = some (.string us)) := fun w' hf => by
  have hq := HY.out.fr HGg.out hf
  exact ⟨(HP.out.to hf).cell, (HR.out.to hf).cell, hq.c3⟩
 have hS := HSS.out _ HS0.out.drew.fr
 have HD := Lib.hid HS0.out.drew
 go_enter Tryz.func160, Tryz.ntmps160
 go_wp2_with fail
 refine wp_region_held_drew (S := fun w' => w'.cell? ⟨p, 0, none⟩ = some (.pointer (some ⟨B, 0, none⟩)) ∧ w'.cell? ⟨r, 0, none⟩ = some (.slice (some ⟨g, o, none⟩) ln lc) ∧ w'.cell? ⟨g, o + j * 6 + 3, none⟩ = some (.string us)) (by kernel_rfl) (by (try dsimp only); exact hS) (fun hHeld => ?_)
 iterate 6
  (first
   | (refine wpAnyH_take (i := 0) (v := ?_) rfl (by kernel_rfl) (by decide +kernel) (by decide +kernel) (fun _ _ _ h => h) (Or.inl ⟨by rfl, ?_⟩) (by assumption) ?_; rotate_left; (focus (intro w0 hSw; (try dsimp only at hSw); go_simp; (try with_reducible rfl); done)))
   | (refine wpAnyH_take (i := 1) (v := ?_) rfl (by kernel_rfl) (by decide +kernel) (by decide +kernel) (fun _ _ _ h => h) (Or.inl ⟨by rfl, ?_⟩) (by assumption) ?_; rotate_left; (focus (intro w0 hSw; (try dsimp only at hSw); go_simp; (try with_reducible rfl); done)))
   | (refine wpAnyH_take (i := 2) (v := ?_) rfl (by kernel_rfl) (by decide +kernel) (by decide +kernel) (fun _ _ _ h => h) (Or.inl ⟨by rfl, ?_⟩) (by assumption) ?_; rotate_left; (focus (intro w0 hSw; (try dsimp only at hSw); go_simp; (try with_reducible rfl); done)))
   | (refine wpAnyH_take (i := 3) (v := ?_) rfl (by kernel_rfl) (by decide +kernel) (by decide +kernel) (fun _ _ _ h => h) (Or.inl ⟨by rfl, ?_⟩) (by assumption) ?_; rotate_left; (focus (intro w0 hSw; (try dsimp only at hSw); go_simp; (try with_reducible rfl); done)))
   | (refine wpAnyH_take (i := 4) (v := ?_) rfl (by kernel_rfl) (by decide +kernel) (by decide +kernel) (fun _ _ _ h => h) (Or.inl ⟨by rfl, ?_⟩) (by assumption) ?_; rotate_left; (focus (intro w0 hSw; (try dsimp only at hSw); go_simp; (try with_reducible rfl); done)))
   | (refine wpAnyH_take (i := 5) (v := ?_) rfl (by kernel_rfl) (by decide +kernel) (by decide +kernel) (fun _ _ _ h => h) (Or.inl ⟨by rfl, ?_⟩) (by assumption) ?_; rotate_left; (focus (intro w0 hSw; (try dsimp only at hSw); go_simp; (try with_reducible rfl); done)))
   )
  try simp only [List.getElem_toArray, List.getElem_cons_zero, List.getElem_cons_succ, Act.put, List.setIfInBounds_toArray, List.set_cons_zero, List.set_cons_succ]
 refine wpAnyH_ready (rs := [6]) (by decide +kernel) (by simp) (AllReadyH.cons rfl (fun K hK => ?_) AllReadyH.nil)
 go_simp
 go_at_call 150
 refine (HQT.out _).mono ?_
 rintro e w1 ⟨rfl, hb1⟩
 have HT1 := Lib.hid (HD.out.below hb1)
 clear hb1
 have eS := HSS.out _ HT1.out.fr
 refine hK.out _ _ eS (fun hHeld2 => ?_)
 clear hK K hHeld
 try simp only [Act.put, List.setIfInBounds_toArray]
 refine wpAnyH_ready (rs := [7]) (by decide +kernel) (by simp) (AllReadyH.cons rfl (fun K hK => ?_) AllReadyH.nil)
 go_simp
 have HT2 := Lib.hid (HT1.out.below (below_alloc w1 (.cells #[.string (quo us), .string ⟨#[58]⟩] 9)))
 have fS := HSS.out _ HT2.out.fr
 refine hK.out _ _ fS (fun hHeld3 => ?_)
 clear hK K hHeld2
 try simp only [Act.put, List.setIfInBounds_toArray]
 refine wpAnyH_ready (rs := [8]) (by decide +kernel) (by simp) (AllReadyH.cons rfl (fun K hK => ?_) AllReadyH.nil)
 go_simp
 go_at_call 81
 refine (add_two G B T false vs (quo us) ⟨#[58]⟩ _ w1 HT1.out.env.hF HT1.out.wr (by (try simp at hlim); omega) (quo_some us) rfl).mono ?_
 rintro e w2 ⟨rfl, ⟨vs2, hw⟩, hf⟩
 have HS2 := Lib.hid (HT1.out.next hw hf)
 clear hw hf
 have gS := HSS.out _ HS2.out.fr
 refine hK.out _ _ gS (fun hHeld4 => ?_)
 clear hK K hHeld3
 try simp only [Act.put, List.setIfInBounds_toArray]
 refine wpAnyH_done (by kernel_rfl) ?_ _
 clear hHeld4 gS fS eS hS HT1 HT2 HD
 have c1 := (HP.out.to HS2.out.fr).cell
 have c2 := (HR.out.to HS2.out.fr).cell
 obtain ⟨a0, a1, a2, a3, a4, a5⟩ := (HY.out.fr HGg.out HS2.out.fr).six
 obtain ⟨b0, b1, b2, b3, b4, b5⟩ := (HZ.out.fr HG2.out HS2.out.fr).six
 go_wp2_with fail
 go_still_tail 8, (by kernel_rfl)
 have HD2 := Lib.hid HS2.out.drew
 change wpList _ _ _ _ _ w2.drew
 generalize w2.drew = wd at *
 clear HS2
 go_wp2_with fail
 refine (HWc.out 1 ⟨z_k, z_nm, z_n, z_s, z_ka, z_kn, z_kc, z_la, z_ln, z_lc⟩ G B _ false vs2 n0 wd HD2.out.env (HD2.out.is HIc.out) HD2.out.wr (by rw [some1_of (by decide)]; (try simp at hlim); (try simp); omega)).mono ?_
 rintro e w3 ⟨rfl, ⟨vs3, hw⟩, hf⟩
 have HS3 := Lib.hid (HD2.out.next hw hf)
 clear hw hf HD2 c1 c2 a0 a1 a2 a3 a4 a5 b0 b1 b2 b3 b4 b5
 go_wp2_with fail
 go_end0
 have hfin := HS3.out.adds
 rw [some1_of (by decide), List.append_assoc] at hfin
 rw [HRAW.out]
 exact hfin
def WProp (u : V) : Prop := u.k = 9 ∧ ∃ c, u.l = [c] ∧ WExpr c ∧ u.s.size % 2 = 0 ∧ u.s.size ≤ 4194304
theorem c_props (l : List V) (hl : ∀ u ∈ l, WProp u) (F : Nat → Prop) (B : Nat) (T : Ts) (vs : Value) (n0 : Nat) (w : World) (p r : Nat) (A : Option Addr) (lc : Nat) (hlen : l.length ≤ 4194304) (hE : Env w F n0) (hW : Wr w F B T false vs) (hp : Box w F p #[.pointer (some ⟨B, 0, none⟩)] 57)
  (hr : Box w F r #[.slice A l.length lc] 23) (hR : RowB w n0 A l) (hlim : T.length + lens (l.map fun u : V => u.o.raw false) ≤ 8796093020000) :
  Calls Tryz.prog 159 #[.pointer (some ⟨p, 0, none⟩), .pointer (some ⟨r, 0, none⟩)] w (Adds w F B (T ++ commas (l.map fun u : V => u.o.raw false)) false) := by
 have HC := Lib.hid fun j hj T1 w1 v1 (hE1 : Env w1 F n0) (hW1 : Wr w1 F B T1 false v1) (hf : Fr F w w1) => c_prop l (fun u hu => (hl u hu).2) F B T1 v1 n0 w1 p r A lc j hj hlen hE1 hW1 (hp.to hf) (hr.to hf) (hE.row hf hR) (hl _ (List.getElem_mem hj)).1
 have HE := Lib.hid hE
 have HW := Lib.hid hW
 have cp := hp.cell
 have cr := hr.cell
 clear hp hr hE hW hR hl
 go_enter Tryz.func159, Tryz.ntmps159
 go_wp2_with fail
 refine (commas_any F B T false vs (l.map fun u : V => u.o.raw false) l.length 160 [.pointer (some ⟨p, 0, none⟩), .pointer (some ⟨r, 0, none⟩)] w HE.out.hF HW.out (Nat.le_succ_of_le hlim) (by simp) (enters_of Tryz.func160 (by kernel_rfl) rfl) ?cc).mono ?_
 case cc =>
  intro j hj T1 w1 v1 h1 h2 h3
  rw [lens_map] at h1 ⊢
  exact HC.out j (by simpa using hj) T1 w1 v1 (HE.out.to h3) h2 h3 h1
 rintro e w1 ⟨rfl, hw, hf⟩
 have HX := Lib.hid hw
 have HY := Lib.hid hf
 clear hw hf cp cr
 go_wp2_with fail
 go_end0
 exact ⟨rfl, HX.out, HY.out⟩
theorem object_any (l : List V) (hl : ∀ u ∈ l, WProp u) (F : Nat → Prop) (B : Nat) (T : Ts) (b : Bool) (vs : Value) (n0 : Nat) (w : World) (A : Option Addr) (lc : Nat) (hlen : l.length ≤ 4194304) (hE : Env w F n0) (hW : Wr w F B T b vs)
  (hR : RowB w n0 A l) (hlim : T.length + (brack ⟨#[123]⟩ ⟨#[125]⟩ (commas (l.map fun u : V => u.o.raw false))).length ≤ 8796093020000) :
  Calls Tryz.prog 152 #[.pointer (some ⟨B, 0, none⟩), .slice A l.length lc] w (Adds w F B (T ++ brack ⟨#[123]⟩ ⟨#[125]⟩ (commas (l.map fun u : V => u.o.raw false))) b) := by
 obtain ⟨hN, hp, hr⟩ := new2 hE hW #[.pointer (some ⟨B, 0, none⟩)] #[.slice A l.length lc] 57 23
 have HS0 := Lib.hid hN.sit
 have HFIN := Lib.hid hN.fin
 have HP := Lib.hid hp
 have HR := Lib.hid hr
 have HRow := Lib.hid (hN.row _ _ hR)
 clear hN hp hr hE hW hR
 go_enter Tryz.func152, Tryz.ntmps152
 go_wp2_with fail
 generalize (w.alloc (.cells #[.pointer (some ⟨B, 0, none⟩)] 57)).alloc (.cells #[.slice A l.length lc] 23) = w0 at *
 generalize Ex F w.heap.size 2 = G at *
 refine (enclose_any G B T b vs ⟨#[123]⟩ ⟨#[125]⟩ 159 _ (commas (l.map fun u : V => u.o.raw false)) w0 HS0.out.env.hF HS0.out.wr (by simp at hlim; omega) (by decide) (by decide) (enters_of Tryz.func159 (by kernel_rfl) rfl) ?cc).mono ?_
 case cc =>
  intro w9 v9 hw9 hf9
  have H9 := Lib.hid (HS0.out.next hw9 hf9)
  have hlc := lens_commas (l.map fun u : V => u.o.raw false)
  exact (c_props l hl G B _ v9 n0 w9 _ _ A lc hlen H9.out.env H9.out.wr (HP.out.to hf9) (HR.out.to hf9) (H9.out.row HRow.out) (by simp at hlim ⊢; omega)).mono fun e w' h => h.free
 rintro e w1 ⟨rfl, hw, hf⟩
 have HX := Lib.hid hw
 have HY := Lib.hid hf
 clear hw hf
 go_wp2_with fail
 go_end0
 exact HFIN.out _ _ _ _ ⟨rfl, HX.out, HY.out⟩
theorem basic_4 (v : V) (hv : v.k = 4) : Writes 143 v fun b => v.o.raw b := by
 intro x F B T b vs n0 w hE hx hW hlim
 have hraw : v.o.raw b = [⟨#[116, 104, 105, 115]⟩] := by
  rw [o_raw, hv]
  rfl
 have hlen1 := congrArg List.length hraw
 dsimp only at hlim
 rw [hlen1] at hlim
 obtain ⟨ka, kc, la, lc, rfl, h1, h2, h3, h4⟩ := hx.open
 simp only [X.v] at *
 rw [hv] at *
 have HRAW := Lib.hid hraw
 obtain ⟨hN, hq⟩ := new1 hE hW #[.int .i64 4, .string v.nm, .int .i64 v.n, .string v.s, .slice ka v.ks.length kc, .slice la v.l.length lc] 25
 have HS0 := Lib.hid hN.sit
 have HFIN := Lib.hid hN.fin
 have HQ := Lib.hid (Box.at_ (x := ⟨4, v.nm, v.n, v.s, ka, v.ks.length, kc, la, v.l.length, lc⟩) hq)
 have HQG := Lib.hid hq.inF
 clear hN hq hE hW hx h1 h2 h3 h4 hraw hlen1 hv
 generalize v.nm = nm at *
 generalize v.n = n at *
 generalize v.s = s at *
 generalize v.ks.length = kn at *
 generalize v.l.length = ln at *
 go_enter Tryz.func143, Tryz.ntmps143
 go_wp2_with fail
 have HZ : Hid ((w.alloc (.cells #[.int .i64 4, .string nm, .int .i64 n, .string s, .slice ka kn kc, .slice la ln lc] 25)).heap.size = w.heap.size + 1) := by
  show _ = _
  simp
 generalize w.alloc (.cells #[.int .i64 4, .string nm, .int .i64 n, .string s, .slice ka kn kc, .slice la ln lc] 25) = w0 at *
 generalize Ex F w.heap.size 1 = G at *
 obtain ⟨HQ_0, HQ_1, HQ_2, HQ_3, HQ_4, HQ_5⟩ := (HQ.out.fr HQG.out HS0.out.fr).six
 refine (add_one G B T b vs ⟨#[116, 104, 105, 115]⟩ _ w0 HS0.out.env.hF HS0.out.wr (by (try simp at hlim); (try simp); omega) (by decide) HZ.out.symm).mono ?_
 rintro e w1 ⟨rfl, ⟨vs1, hw⟩, hf⟩
 have HS1 := Lib.hid (HS0.out.next hw hf)
 clear hw hf HS0 HQ_0 HQ_1 HQ_2 HQ_3 HQ_4 HQ_5
 have HT : Hid ((T ++ [⟨#[116, 104, 105, 115]⟩]) = T ++ v.o.raw b) := by
  show _ = _
  rw [HRAW.out]
 go_wp2_with fail
 go_end0
 have hfin := HS1.out.adds
 rw [HT.out] at hfin
 exact HFIN.out _ _ _ _ hfin
theorem basic_5 (v : V) (hv : v.k = 5) : Writes 143 v fun b => v.o.raw b := by
 intro x F B T b vs n0 w hE hx hW hlim
 have hraw : v.o.raw b = [⟨#[110, 117, 108, 108]⟩] := by
  rw [o_raw, hv]
  rfl
 have hlen1 := congrArg List.length hraw
 dsimp only at hlim
 rw [hlen1] at hlim
 obtain ⟨ka, kc, la, lc, rfl, h1, h2, h3, h4⟩ := hx.open
 simp only [X.v] at *
 rw [hv] at *
 have HRAW := Lib.hid hraw
 obtain ⟨hN, hq⟩ := new1 hE hW #[.int .i64 5, .string v.nm, .int .i64 v.n, .string v.s, .slice ka v.ks.length kc, .slice la v.l.length lc] 25
 have HS0 := Lib.hid hN.sit
 have HFIN := Lib.hid hN.fin
 have HQ := Lib.hid (Box.at_ (x := ⟨5, v.nm, v.n, v.s, ka, v.ks.length, kc, la, v.l.length, lc⟩) hq)
 have HQG := Lib.hid hq.inF
 clear hN hq hE hW hx h1 h2 h3 h4 hraw hlen1 hv
 generalize v.nm = nm at *
 generalize v.n = n at *
 generalize v.s = s at *
 generalize v.ks.length = kn at *
 generalize v.l.length = ln at *
 go_enter Tryz.func143, Tryz.ntmps143
 go_wp2_with fail
 have HZ : Hid ((w.alloc (.cells #[.int .i64 5, .string nm, .int .i64 n, .string s, .slice ka kn kc, .slice la ln lc] 25)).heap.size = w.heap.size + 1) := by
  show _ = _
  simp
 generalize w.alloc (.cells #[.int .i64 5, .string nm, .int .i64 n, .string s, .slice ka kn kc, .slice la ln lc] 25) = w0 at *
 generalize Ex F w.heap.size 1 = G at *
 obtain ⟨HQ_0, HQ_1, HQ_2, HQ_3, HQ_4, HQ_5⟩ := (HQ.out.fr HQG.out HS0.out.fr).six
 refine (add_one G B T b vs ⟨#[110, 117, 108, 108]⟩ _ w0 HS0.out.env.hF HS0.out.wr (by (try simp at hlim); (try simp); omega) (by decide) HZ.out.symm).mono ?_
 rintro e w1 ⟨rfl, ⟨vs1, hw⟩, hf⟩
 have HS1 := Lib.hid (HS0.out.next hw hf)
 clear hw hf HS0 HQ_0 HQ_1 HQ_2 HQ_3 HQ_4 HQ_5
 have HT : Hid ((T ++ [⟨#[110, 117, 108, 108]⟩]) = T ++ v.o.raw b) := by
  show _ = _
  rw [HRAW.out]
 go_wp2_with fail
 go_end0
 have hfin := HS1.out.adds
 rw [HT.out] at hfin
 exact HFIN.out _ _ _ _ hfin
theorem basic_3 (v : V) (hv : v.k = 3) (hnm : ¬ v.nm.size = 0) : Writes 143 v fun b => v.o.raw b := by
 intro x F B T b vs n0 w hE hx hW hlim
 have hraw : v.o.raw b = [v.nm] := by
  rw [o_raw, hv]
  rfl
 have hlen1 := congrArg List.length hraw
 dsimp only at hlim
 rw [hlen1] at hlim
 obtain ⟨ka, kc, la, lc, rfl, h1, h2, h3, h4⟩ := hx.open
 simp only [X.v] at *
 rw [hv] at *
 have HRAW := Lib.hid hraw
 obtain ⟨hN, hq⟩ := new1 hE hW #[.int .i64 3, .string v.nm, .int .i64 v.n, .string v.s, .slice ka v.ks.length kc, .slice la v.l.length lc] 25
 have HS0 := Lib.hid hN.sit
 have HFIN := Lib.hid hN.fin
 have HQ := Lib.hid (Box.at_ (x := ⟨3, v.nm, v.n, v.s, ka, v.ks.length, kc, la, v.l.length, lc⟩) hq)
 have HQG := Lib.hid hq.inF
 have HNM := Lib.hid hnm
 clear hN hq hE hW hx h1 h2 h3 h4 hraw hlen1 hv hnm
 generalize v.nm = nm at *
 generalize v.n = n at *
 generalize v.s = s at *
 generalize v.ks.length = kn at *
 generalize v.l.length = ln at *
 go_enter Tryz.func143, Tryz.ntmps143
 go_wp2_with fail
 have HZ : Hid ((w.alloc (.cells #[.int .i64 3, .string nm, .int .i64 n, .string s, .slice ka kn kc, .slice la ln lc] 25)).heap.size = w.heap.size + 1) := by
  show _ = _
  simp
 generalize w.alloc (.cells #[.int .i64 3, .string nm, .int .i64 n, .string s, .slice ka kn kc, .slice la ln lc] 25) = w0 at *
 generalize Ex F w.heap.size 1 = G at *
 obtain ⟨HQ_0, HQ_1, HQ_2, HQ_3, HQ_4, HQ_5⟩ := (HQ.out.fr HQG.out HS0.out.fr).six
 refine (add_one G B T b vs nm _ w0 HS0.out.env.hF HS0.out.wr (by (try simp at hlim); (try simp); omega) HNM.out HZ.out.symm).mono ?_
 rintro e w1 ⟨rfl, ⟨vs1, hw⟩, hf⟩
 have HS1 := Lib.hid (HS0.out.next hw hf)
 clear hw hf HS0 HQ_0 HQ_1 HQ_2 HQ_3 HQ_4 HQ_5
 have HT : Hid ((T ++ [nm]) = T ++ v.o.raw b) := by
  show _ = _
  rw [HRAW.out]
 go_wp2_with fail
 go_end0
 have hfin := HS1.out.adds
 rw [HT.out] at hfin
 exact HFIN.out _ _ _ _ hfin
theorem basic_2 (v : V) (hv : v.k = 2) (hsz : v.s.size ≤ 4194304) (hev : v.s.size % 2 = 0) : Writes 143 v fun b => v.o.raw b := by
 intro x F B T b vs n0 w hE hx hW hlim
 have hraw : v.o.raw b = [quo v.s] := by
  rw [o_raw, hv]
  rfl
 have hlen1 := congrArg List.length hraw
 dsimp only at hlim
 rw [hlen1] at hlim
 obtain ⟨ka, kc, la, lc, rfl, h1, h2, h3, h4⟩ := hx.open
 simp only [X.v] at *
 rw [hv] at *
 have HRAW := Lib.hid hraw
 obtain ⟨hN, hq⟩ := new1 hE hW #[.int .i64 2, .string v.nm, .int .i64 v.n, .string v.s, .slice ka v.ks.length kc, .slice la v.l.length lc] 25
 have HS0 := Lib.hid hN.sit
 have HFIN := Lib.hid hN.fin
 have HQ := Lib.hid (Box.at_ (x := ⟨2, v.nm, v.n, v.s, ka, v.ks.length, kc, la, v.l.length, lc⟩) hq)
 have HQG := Lib.hid hq.inF
 have HC := Lib.hid fun w => quoted_any v.s w hsz hev
 clear hN hq hE hW hx h1 h2 h3 h4 hraw hlen1 hv hsz hev
 generalize v.nm = nm at *
 generalize v.n = n at *
 generalize v.s = s at *
 generalize v.ks.length = kn at *
 generalize v.l.length = ln at *
 go_enter Tryz.func143, Tryz.ntmps143
 go_wp2_with fail
 have HZ : Hid ((w.alloc (.cells #[.int .i64 2, .string nm, .int .i64 n, .string s, .slice ka kn kc, .slice la ln lc] 25)).heap.size = w.heap.size + 1) := by
  show _ = _
  simp
 generalize w.alloc (.cells #[.int .i64 2, .string nm, .int .i64 n, .string s, .slice ka kn kc, .slice la ln lc] 25) = w0 at *
 generalize Ex F w.heap.size 1 = G at *
 obtain ⟨HQ_0, HQ_1, HQ_2, HQ_3, HQ_4, HQ_5⟩ := (HQ.out.fr HQG.out HS0.out.fr).six
 refine (HC.out _).mono ?_
 rintro e w1 ⟨rfl, hb1⟩
 have HS1 := Lib.hid (HS0.out.below hb1)
 clear hb1 HS0 HQ_0 HQ_1 HQ_2 HQ_3 HQ_4 HQ_5
 obtain ⟨HQ_0, HQ_1, HQ_2, HQ_3, HQ_4, HQ_5⟩ := (HQ.out.fr HQG.out HS1.out.fr).six
 go_wp2_with fail
 refine (add_one G B T b vs (quo s) _ w1 HS1.out.env.hF HS1.out.wr (by (try simp at hlim); (try simp); omega) (quo_some s) (by simp)).mono ?_
 rintro e w2 ⟨rfl, ⟨vs2, hw⟩, hf⟩
 have HS2 := Lib.hid (HS1.out.next hw hf)
 clear hw hf HS1 HQ_0 HQ_1 HQ_2 HQ_3 HQ_4 HQ_5
 have HT : Hid ((T ++ [(quo s)]) = T ++ v.o.raw b) := by
  show _ = _
  rw [HRAW.out]
 go_wp2_with fail
 go_end0
 have hfin := HS2.out.adds
 rw [HT.out] at hfin
 exact HFIN.out _ _ _ _ hfin
theorem below_grow (w : World) (k : Nat) (os : Array Obj) : Below w.heap.size w (Sort.grow (w.drewN k) os) := by
 refine ⟨rfl, rfl, rfl, ?_, fun j hj => ?_⟩
 ·show w.heap.size ≤ (w.heap ++ os).size
  simp
 ·show (w.heap ++ os)[j]? = _
  rw [Array.getElem?_append, if_pos hj]
theorem itoa_some (n : Int) : ¬ (dec n).size = 0 := by
 show ¬ (Lib.itoa n).toArray.size = 0
 rw [List.size_toArray]
 unfold Lib.itoa
 have h1 := fun m => Lib.decDigits_length m
 have h2 := fun m => Lib.nDigits_pos m
 split
 ·simp
 ·rw [h1]; have := h2 n.toNat; omega
theorem fmtBool (b : Bool) (w : World) : Calls Tryz.prog 151 #[.bool b] w fun e w' => e = .returned (.string ⟨(Lib.formatBool b).toArray⟩) ∧ w = w' :=
 (Tryz.strconv_FormatBool b w).mono fun _ _ ⟨h1, h2⟩ => ⟨h1, h2.symm⟩
theorem fmtInt (n : Int) (h1 : 0 ≤ n) (h2 : n ≤ 9007199254740991) (w : World) (hT : Tab w) : Calls Tryz.prog 149 #[.int .i64 n, .int .i64 10] w fun e w' => e = .returned (.string (dec n)) ∧ Below w.heap.size w w' :=
 (Tryz.strconv_FormatInt_10 n (by omega) (by omega) w hT).mono fun e w' ⟨h1, h2⟩ => ⟨h1, by obtain ⟨k, os, rfl⟩ := h2; exact below_grow w k os⟩
theorem basic_1 (v : V) (hv : v.k = 1) (hn1 : 0 ≤ v.n) (hn2 : v.n ≤ 9007199254740991) : Writes 143 v fun b => v.o.raw b := by
 intro x F B T b vs n0 w hE hx hW hlim
 have hraw : v.o.raw b = [dec v.n] := by
  rw [o_raw, hv]
  rfl
 have hlen1 := congrArg List.length hraw
 dsimp only at hlim
 rw [hlen1] at hlim
 obtain ⟨ka, kc, la, lc, rfl, h1, h2, h3, h4⟩ := hx.open
 simp only [X.v] at *
 rw [hv] at *
 have HRAW := Lib.hid hraw
 obtain ⟨hN, hq⟩ := new1 hE hW #[.int .i64 1, .string v.nm, .int .i64 v.n, .string v.s, .slice ka v.ks.length kc, .slice la v.l.length lc] 25
 have HS0 := Lib.hid hN.sit
 have HFIN := Lib.hid hN.fin
 have HQ := Lib.hid (Box.at_ (x := ⟨1, v.nm, v.n, v.s, ka, v.ks.length, kc, la, v.l.length, lc⟩) hq)
 have HQG := Lib.hid hq.inF
 have HC := Lib.hid fun w (h : Tab w) => fmtInt v.n hn1 hn2 w h
 clear hN hq hE hW hx h1 h2 h3 h4 hraw hlen1 hv hn1 hn2
 generalize v.nm = nm at *
 generalize v.n = n at *
 generalize v.s = s at *
 generalize v.ks.length = kn at *
 generalize v.l.length = ln at *
 go_enter Tryz.func143, Tryz.ntmps143
 go_wp2_with fail
 have HZ : Hid ((w.alloc (.cells #[.int .i64 1, .string nm, .int .i64 n, .string s, .slice ka kn kc, .slice la ln lc] 25)).heap.size = w.heap.size + 1) := by
  show _ = _
  simp
 generalize w.alloc (.cells #[.int .i64 1, .string nm, .int .i64 n, .string s, .slice ka kn kc, .slice la ln lc] 25) = w0 at *
 generalize Ex F w.heap.size 1 = G at *
 obtain ⟨HQ_0, HQ_1, HQ_2, HQ_3, HQ_4, HQ_5⟩ := (HQ.out.fr HQG.out HS0.out.fr).six
 refine (HC.out _ HS0.out.env.tab).mono ?_
 rintro e w1 ⟨rfl, hb1⟩
 have HS1 := Lib.hid (HS0.out.below hb1)
 clear hb1 HS0 HQ_0 HQ_1 HQ_2 HQ_3 HQ_4 HQ_5
 obtain ⟨HQ_0, HQ_1, HQ_2, HQ_3, HQ_4, HQ_5⟩ := (HQ.out.fr HQG.out HS1.out.fr).six
 go_wp2_with fail
 refine (add_one G B T b vs (dec n) _ w1 HS1.out.env.hF HS1.out.wr (by (try simp at hlim); (try simp); omega) (itoa_some n) (by simp)).mono ?_
 rintro e w2 ⟨rfl, ⟨vs2, hw⟩, hf⟩
 have HS2 := Lib.hid (HS1.out.next hw hf)
 clear hw hf HS1 HQ_0 HQ_1 HQ_2 HQ_3 HQ_4 HQ_5
 have HT : Hid ((T ++ [(dec n)]) = T ++ v.o.raw b) := by
  show _ = _
  rw [HRAW.out]
 go_wp2_with fail
 go_end0
 have hfin := HS2.out.adds
 rw [HT.out] at hfin
 exact HFIN.out _ _ _ _ hfin
theorem basic_6t (v : V) (hv : v.k = 6) (hn : v.n = 1) : Writes 143 v fun b => v.o.raw b := by
 intro x F B T b vs n0 w hE hx hW hlim
 have hraw : v.o.raw b = [⟨#[116, 114, 117, 101]⟩] := by
  rw [o_raw, hv, hn]
  rfl
 have hlen1 := congrArg List.length hraw
 dsimp only at hlim
 rw [hlen1] at hlim
 obtain ⟨ka, kc, la, lc, rfl, h1, h2, h3, h4⟩ := hx.open
 simp only [X.v] at *
 rw [hv, hn] at *
 have HC := Lib.hid fun w => fmtBool true w
 have HRAW := Lib.hid hraw
 obtain ⟨hN, hq⟩ := new1 hE hW #[.int .i64 6, .string v.nm, .int .i64 1, .string v.s, .slice ka v.ks.length kc, .slice la v.l.length lc] 25
 have HS0 := Lib.hid hN.sit
 have HFIN := Lib.hid hN.fin
 have HQ := Lib.hid (Box.at_ (x := ⟨6, v.nm, 1, v.s, ka, v.ks.length, kc, la, v.l.length, lc⟩) hq)
 have HQG := Lib.hid hq.inF
 clear hN hq hE hW hx h1 h2 h3 h4 hraw hlen1 hv hn
 generalize v.nm = nm at *
 generalize v.s = s at *
 generalize v.ks.length = kn at *
 generalize v.l.length = ln at *
 go_enter Tryz.func143, Tryz.ntmps143
 go_wp2_with fail
 have HZ : Hid ((w.alloc (.cells #[.int .i64 6, .string nm, .int .i64 1, .string s, .slice ka kn kc, .slice la ln lc] 25)).heap.size = w.heap.size + 1) := by
  show _ = _
  simp
 generalize w.alloc (.cells #[.int .i64 6, .string nm, .int .i64 1, .string s, .slice ka kn kc, .slice la ln lc] 25) = w0 at *
 generalize Ex F w.heap.size 1 = G at *
 obtain ⟨HQ_0, HQ_1, HQ_2, HQ_3, HQ_4, HQ_5⟩ := (HQ.out.fr HQG.out HS0.out.fr).six
 refine (HC.out _).mono ?_
 rintro e w1 ⟨rfl, rfl⟩
 have hfb : (⟨(Lib.formatBool true).toArray⟩ : ByteArray) = ⟨#[116, 114, 117, 101]⟩ := by decide +kernel
 rw [hfb]
 clear hfb HQ_0 HQ_1 HQ_2 HQ_3 HQ_4 HQ_5
 obtain ⟨HQ_0, HQ_1, HQ_2, HQ_3, HQ_4, HQ_5⟩ := (HQ.out.fr HQG.out HS0.out.fr).six
 go_wp2_with fail
 refine (add_one G B T b vs ⟨#[116, 114, 117, 101]⟩ _ w0 HS0.out.env.hF HS0.out.wr (by (try simp at hlim); (try simp); omega) (by decide) rfl).mono ?_
 rintro e w1 ⟨rfl, ⟨vs1, hw⟩, hf⟩
 have HS1 := Lib.hid (HS0.out.next hw hf)
 clear hw hf HS0 HQ_0 HQ_1 HQ_2 HQ_3 HQ_4 HQ_5
 have HT : Hid ((T ++ [⟨#[116, 114, 117, 101]⟩]) = T ++ v.o.raw b) := by
  show _ = _
  rw [HRAW.out]
 go_wp2_with fail
 go_end0
 have hfin := HS1.out.adds
 rw [HT.out] at hfin
 exact HFIN.out _ _ _ _ hfin
theorem basic_6f (v : V) (hv : v.k = 6) (hn : v.n = 0) : Writes 143 v fun b => v.o.raw b := by
 intro x F B T b vs n0 w hE hx hW hlim
 have hraw : v.o.raw b = [⟨#[102, 97, 108, 115, 101]⟩] := by
  rw [o_raw, hv, hn]
  rfl
 have hlen1 := congrArg List.length hraw
 dsimp only at hlim
 rw [hlen1] at hlim
 obtain ⟨ka, kc, la, lc, rfl, h1, h2, h3, h4⟩ := hx.open
 simp only [X.v] at *
 rw [hv, hn] at *
 have HC := Lib.hid fun w => fmtBool false w
 have HRAW := Lib.hid hraw
 obtain ⟨hN, hq⟩ := new1 hE hW #[.int .i64 6, .string v.nm, .int .i64 0, .string v.s, .slice ka v.ks.length kc, .slice la v.l.length lc] 25
 have HS0 := Lib.hid hN.sit
 have HFIN := Lib.hid hN.fin
 have HQ := Lib.hid (Box.at_ (x := ⟨6, v.nm, 0, v.s, ka, v.ks.length, kc, la, v.l.length, lc⟩) hq)
 have HQG := Lib.hid hq.inF
 clear hN hq hE hW hx h1 h2 h3 h4 hraw hlen1 hv hn
 generalize v.nm = nm at *
 generalize v.s = s at *
 generalize v.ks.length = kn at *
 generalize v.l.length = ln at *
 go_enter Tryz.func143, Tryz.ntmps143
 go_wp2_with fail
 have HZ : Hid ((w.alloc (.cells #[.int .i64 6, .string nm, .int .i64 0, .string s, .slice ka kn kc, .slice la ln lc] 25)).heap.size = w.heap.size + 1) := by
  show _ = _
  simp
 generalize w.alloc (.cells #[.int .i64 6, .string nm, .int .i64 0, .string s, .slice ka kn kc, .slice la ln lc] 25) = w0 at *
 generalize Ex F w.heap.size 1 = G at *
 obtain ⟨HQ_0, HQ_1, HQ_2, HQ_3, HQ_4, HQ_5⟩ := (HQ.out.fr HQG.out HS0.out.fr).six
 refine (HC.out _).mono ?_
 rintro e w1 ⟨rfl, rfl⟩
 have hfb : (⟨(Lib.formatBool false).toArray⟩ : ByteArray) = ⟨#[102, 97, 108, 115, 101]⟩ := by decide +kernel
 rw [hfb]
 clear hfb HQ_0 HQ_1 HQ_2 HQ_3 HQ_4 HQ_5
 obtain ⟨HQ_0, HQ_1, HQ_2, HQ_3, HQ_4, HQ_5⟩ := (HQ.out.fr HQG.out HS0.out.fr).six
 go_wp2_with fail
 refine (add_one G B T b vs ⟨#[102, 97, 108, 115, 101]⟩ _ w0 HS0.out.env.hF HS0.out.wr (by (try simp at hlim); (try simp); omega) (by decide) rfl).mono ?_
 rintro e w1 ⟨rfl, ⟨vs1, hw⟩, hf⟩
 have HS1 := Lib.hid (HS0.out.next hw hf)
 clear hw hf HS0 HQ_0 HQ_1 HQ_2 HQ_3 HQ_4 HQ_5
 have HT : Hid ((T ++ [⟨#[102, 97, 108, 115, 101]⟩]) = T ++ v.o.raw b) := by
  show _ = _
  rw [HRAW.out]
 go_wp2_with fail
 go_end0
 have hfin := HS1.out.adds
 rw [HT.out] at hfin
 exact HFIN.out _ _ _ _ hfin
theorem basic_7 (v : V) (hv : v.k = 7) (hl : ∀ u ∈ v.l, WExpr u) (hll : v.l.length ≤ 4194304) : Writes 143 v fun b => v.o.raw b := by
 intro x F B T b vs n0 w hE hx hW hlim
 have hraw : v.o.raw b = brack ⟨#[91]⟩ ⟨#[93]⟩ (commas (v.l.map fun u : V => u.o.at 1 false)) := by
  rw [o_raw, hv]
  show _ = _
  simp [rawN, Function.comp_def]
 have hlen1 := congrArg List.length hraw
 dsimp only at hlim
 rw [hlen1] at hlim
 obtain ⟨ka, kc, la, lc, rfl, h1, h2, h3, h4⟩ := hx.open
 simp only [X.v] at *
 rw [hv] at *
 have HRAW := Lib.hid hraw
 obtain ⟨hN, hq⟩ := new1 hE hW #[.int .i64 7, .string v.nm, .int .i64 v.n, .string v.s, .slice ka v.ks.length kc, .slice la v.l.length lc] 25
 have HS0 := Lib.hid hN.sit
 have HFIN := Lib.hid hN.fin
 have HQ := Lib.hid (Box.at_ (x := ⟨7, v.nm, v.n, v.s, ka, v.ks.length, kc, la, v.l.length, lc⟩) hq)
 have HQG := Lib.hid hq.inF
 have HL := Lib.hid hl
 have HRow := Lib.hid (hN.row _ _ h4)
 clear hN hq hE hW hx h1 h2 h3 h4 hraw hlen1 hv hl
 generalize v.nm = nm at *
 generalize v.n = n at *
 generalize v.s = s at *
 generalize v.ks.length = kn at *
 go_enter Tryz.func143, Tryz.ntmps143
 go_wp2_with fail
 have HZ : Hid ((w.alloc (.cells #[.int .i64 7, .string nm, .int .i64 n, .string s, .slice ka kn kc, .slice la v.l.length lc] 25)).heap.size = w.heap.size + 1) := by
  show _ = _
  simp
 generalize w.alloc (.cells #[.int .i64 7, .string nm, .int .i64 n, .string s, .slice ka kn kc, .slice la v.l.length lc] 25) = w0 at *
 generalize Ex F w.heap.size 1 = G at *
 obtain ⟨HQ_0, HQ_1, HQ_2, HQ_3, HQ_4, HQ_5⟩ := (HQ.out.fr HQG.out HS0.out.fr).six
 refine (elements_any v.l HL.out ⟨#[91]⟩ ⟨#[93]⟩ (by decide) (by decide) G B T b vs n0 w0 la lc hll HS0.out.env HS0.out.wr HRow.out hlim).mono ?_
 rintro e w1 ⟨rfl, ⟨vs1, hw⟩, hf⟩
 have HS1 := Lib.hid (HS0.out.next hw hf)
 clear hw hf HS0 HQ_0 HQ_1 HQ_2 HQ_3 HQ_4 HQ_5
 have HT : Hid ((T ++ (brack ⟨#[91]⟩ ⟨#[93]⟩ (commas (v.l.map fun u : V => u.o.at 1 false)))) = T ++ v.o.raw b) := by
  show _ = _
  rw [HRAW.out]
 go_wp2_with fail
 go_end0
 have hfin := HS1.out.adds
 rw [HT.out] at hfin
 exact HFIN.out _ _ _ _ hfin
theorem basic_8 (v : V) (hv : v.k = 8) (hl : ∀ u ∈ v.l, WProp u) (hll : v.l.length ≤ 4194304) : Writes 143 v fun b => v.o.raw b := by
 intro x F B T b vs n0 w hE hx hW hlim
 have hraw : v.o.raw b = brack ⟨#[123]⟩ ⟨#[125]⟩ (commas (v.l.map fun u : V => u.o.raw false)) := by
  rw [o_raw, hv]
  show _ = _
  simp [rawN, Function.comp_def]
 have hlen1 := congrArg List.length hraw
 dsimp only at hlim
 rw [hlen1] at hlim
 obtain ⟨ka, kc, la, lc, rfl, h1, h2, h3, h4⟩ := hx.open
 simp only [X.v] at *
 rw [hv] at *
 have HRAW := Lib.hid hraw
 obtain ⟨hN, hq⟩ := new1 hE hW #[.int .i64 8, .string v.nm, .int .i64 v.n, .string v.s, .slice ka v.ks.length kc, .slice la v.l.length lc] 25
 have HS0 := Lib.hid hN.sit
 have HFIN := Lib.hid hN.fin
 have HQ := Lib.hid (Box.at_ (x := ⟨8, v.nm, v.n, v.s, ka, v.ks.length, kc, la, v.l.length, lc⟩) hq)
 have HQG := Lib.hid hq.inF
 have HL := Lib.hid hl
 have HRow := Lib.hid (hN.row _ _ h4)
 clear hN hq hE hW hx h1 h2 h3 h4 hraw hlen1 hv hl
 generalize v.nm = nm at *
 generalize v.n = n at *
 generalize v.s = s at *
 generalize v.ks.length = kn at *
 go_enter Tryz.func143, Tryz.ntmps143
 go_wp2_with fail
 have HZ : Hid ((w.alloc (.cells #[.int .i64 8, .string nm, .int .i64 n, .string s, .slice ka kn kc, .slice la v.l.length lc] 25)).heap.size = w.heap.size + 1) := by
  show _ = _
  simp
 generalize w.alloc (.cells #[.int .i64 8, .string nm, .int .i64 n, .string s, .slice ka kn kc, .slice la v.l.length lc] 25) = w0 at *
 generalize Ex F w.heap.size 1 = G at *
 obtain ⟨HQ_0, HQ_1, HQ_2, HQ_3, HQ_4, HQ_5⟩ := (HQ.out.fr HQG.out HS0.out.fr).six
 refine (object_any v.l HL.out G B T b vs n0 w0 la lc hll HS0.out.env HS0.out.wr HRow.out hlim).mono ?_
 rintro e w1 ⟨rfl, ⟨vs1, hw⟩, hf⟩
 have HS1 := Lib.hid (HS0.out.next hw hf)
 clear hw hf HS0 HQ_0 HQ_1 HQ_2 HQ_3 HQ_4 HQ_5
 have HT : Hid ((T ++ (brack ⟨#[123]⟩ ⟨#[125]⟩ (commas (v.l.map fun u : V => u.o.raw false)))) = T ++ v.o.raw b) := by
  show _ = _
  rw [HRAW.out]
 go_wp2_with fail
 go_end0
 have hfin := HS1.out.adds
 rw [HT.out] at hfin
 exact HFIN.out _ _ _ _ hfin
end Go.Proofs.YtllpgoaanbiodaaGreatDoor.R
