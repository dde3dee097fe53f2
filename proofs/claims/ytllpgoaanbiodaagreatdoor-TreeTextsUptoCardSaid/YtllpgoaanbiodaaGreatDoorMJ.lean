/-

-/
import Derived.Test.YtllpgoaanbiodaaGreatDoorMG
import Derived.Deep.RegionHeld3
set_option maxHeartbeats 1000000
set_option maxRecDepth 8000
namespace Go.Proofs.YtllpgoaanbiodaaGreatDoor.R
open Go.RowKit Go.Proofs.YtllpgoaanbiodaaGreatDoor Go.Proofs.YtllpgoaanbiodaaGreatDoor.T
theorem bare_17 (v a c : V) (hv : v.k = 17) (hl : v.l = [a, c]) (hwa : WExpr a) (hwc : WExpr c) (hnm : ¬ v.nm.size = 0) (hf : Fine v) (he : isE v = true) : Writes 133 v fun b => v.o.raw b := by
 intro x F B T b vs n0 w hE hx hW hlim
 have hraw : v.o.raw b = a.o.at (opl (bl v.nm)) b ++ v.nm :: c.o.at (opl (bl v.nm) + 1) b := by
  rw [o_raw, hv, hl]
  rfl
 have hlen1 := congrArg List.length hraw
 dsimp only at hlim
 rw [hlen1] at hlim
 obtain ⟨ka, kc, la, lc, rfl, h1, h2, h3, h4⟩ := hx.open
 simp only [X.v] at *
 have hlv : v.o.lvl = opl (bl v.nm) := by
  rw [o_lvl, hv]
  rfl
 have hL8 := opl_le (bl v.nm)
 have HLv := Lib.hid fun (w' : World) (h : IsB w' n0 v _ ∧ n0 ≤ w'.heap.size) => level_any v _ w' hf he (IsB.to (Below.refl _ _) h.2 v ⟨v.k, v.nm, v.n, v.s, ka, v.ks.length, kc, la, v.l.length, lc⟩ h.1)
 have HIv := Lib.hid hx
 rw [hlv] at HLv
 clear hlv hf he
 rw [hl] at h4
 obtain ⟨g, o, ya, yc, rfl, hg, ⟨hya, hia⟩, hyc, hic⟩ := h4.two
 simp only [X.v] at HLv
 rw [hv] at *
 have HNM := Lib.hid hnm
 have hln : v.l.length = 2 := by rw [hl]; rfl
 have HRAW := Lib.hid hraw
 clear hraw hlen1 hv hl hnm
 generalize v.l.length = ln at *
 subst hln
 generalize v.nm = nm at *
 generalize v.n = n at *
 generalize v.s = s at *
 generalize v.ks.length = kn at *
 generalize hL : opl (bl nm) = L at *
 clear hL
 have HWL : Hid (IntKind.i64.wrap ((L : Int) + 1) = (L : Int) + 1) := IntWalk.i64_in _ (by omega)
 have HC1 : Hid (∀ (x : X) (F : Nat → Prop) (B : Nat) (T : Ts) (b : Bool) (vs : Value) (n0 : Nat) (w : World), Env w F n0 → IsB w n0 c x → Wr w F B T b vs → T.length + (c.o.at (L + 1) b).length ≤ 8796093020000 →
  Calls Tryz.prog 115 #[.pointer (some ⟨B, 0, none⟩), x.v, .int .i64 ((L : Int) + 1)] w (Adds w F B (T ++ c.o.at (L + 1) b) b)) := fun x F B T b vs n0 w h1 h2 h3 h4 => hwc (L + 1) x F B T b vs n0 w h1 h2 h3 h4
 obtain ⟨hN, hp, hq, hr⟩ := new3 hE hW #[.pointer (some ⟨B, 0, none⟩)] #[.int .i64 17, .string nm, .int .i64 n, .string s, .slice ka kn kc, .slice (some ⟨g, o, none⟩) 2 lc] #[.slice (some ⟨g, o, none⟩) 2 lc] 57 25 23
 have HS0 := Lib.hid hN.sit
 have HFIN := Lib.hid hN.fin
 have HP := Lib.hid hp
 have HR := Lib.hid hr
 have HQ := Lib.hid (Box.at_ (x := ⟨17, nm, n, s, ka, kn, kc, (some ⟨g, o, none⟩), 2, lc⟩) hq)
 have HQG := Lib.hid hq.inF
 have HQB := Lib.hid hq
 have HGg := Lib.hid (hN.sit.env.sub g hg)
 have HYa := Lib.hid (hN.at_ _ _ _ hg hya)
 have HIa := Lib.hid (hN.is _ _ hia)
 have HWa := Lib.hid hwa
 obtain ⟨a_k, a_nm, a_n, a_s, a_ka, a_kn, a_kc, a_la, a_ln, a_lc⟩ := ya
 have HYc := Lib.hid (hN.at_ _ _ _ hg hyc)
 have HIc := Lib.hid (hN.is _ _ hic)
 have HWc := Lib.hid hwc
 obtain ⟨c_k, c_nm, c_n, c_s, c_ka, c_kn, c_kc, c_la, c_ln, c_lc⟩ := yc
 have HIv0 := Lib.hid (hN.is _ _ HIv.out)
 clear hN HIv hp hq hr hE hW hx h1 h2 h3 h4 hya hia hwa hyc hic hwc hg
 go_enter Tryz.func133, Tryz.ntmps133
 go_wp2_with fail
 have HZ : Hid ((((w.alloc (.cells #[.pointer (some ⟨B, 0, none⟩)] 57)).alloc (.cells #[.int .i64 17, .string nm, .int .i64 n, .string s, .slice ka kn kc, .slice (some ⟨g, o, none⟩) 2 lc] 25)).alloc (.cells #[.slice (some ⟨g, o, none⟩) 2 lc] 23)).heap.size = w.heap.size + 1 + 1 + 1) := by
  show _ = _
  simp
 generalize ((w.alloc (.cells #[.pointer (some ⟨B, 0, none⟩)] 57)).alloc (.cells #[.int .i64 17, .string nm, .int .i64 n, .string s, .slice ka kn kc, .slice (some ⟨g, o, none⟩) 2 lc] 25)).alloc (.cells #[.slice (some ⟨g, o, none⟩) 2 lc] 23) = w0 at *
 generalize Ex F w.heap.size 3 = G at *
 have HSS0 : Hid (∀ w', Fr G w0 w' → w'.cell? ⟨w.heap.size, 0, none⟩ = some (.pointer (some ⟨B, 0, none⟩)) ∧ w'.cell? ⟨w.heap.size + 1 + 1, 0, none⟩ = some (.slice (some ⟨g, o, none⟩) 2 lc) ∧ w'.cell? ⟨g, o, none⟩ = some (.int .i64 a_k) ∧ w'.cell? ⟨g, o + 1, none⟩ = some (.string a_nm) ∧ w'.cell? ⟨g, o + 2, none⟩ = some (.int .i64 a_n) ∧ w'.cell? ⟨g, o + 3, none⟩ = some (.string a_s) ∧ w'.cell? ⟨g, o + 4, none⟩ = some (.slice a_ka a_kn a_kc) ∧ w'.cell? ⟨g, o + 5, none⟩ = some (.slice a_la a_ln a_lc) ∧ w'.cell? ⟨w.heap.size + 1, 0, none⟩ = some (.int .i64 17) ∧ w'.cell? ⟨w.heap.size + 1, 1, none⟩ = some (.string nm) ∧ w'.cell? ⟨w.heap.size + 1, 2, none⟩ = some (.int .i64 n) ∧ w'.cell? ⟨w.heap.size + 1, 3, none⟩ = some (.string s) ∧ w'.cell? ⟨w.heap.size + 1, 4, none⟩ = some (.slice ka kn kc) ∧ w'.cell? ⟨w.heap.size + 1, 5, none⟩ = some (.slice (some ⟨g, o, none⟩) 2 lc)) := fun w' hf => by
  have hq := HQ.out.fr HQG.out hf
  have hy := HYa.out.fr HGg.out hf
  have z := Nat.zero_add
  refine ⟨(HP.out.to hf).cell, (HR.out.to hf).cell, hy.c0, hy.c1, hy.c2, hy.c3, hy.c4, hy.c5, hq.c0, ?_, ?_, ?_, ?_, ?_⟩
  ·have := hq.c1; rwa [z] at this
  ·have := hq.c2; rwa [z] at this
  ·have := hq.c3; rwa [z] at this
  ·have := hq.c4; rwa [z] at this
  ·have := hq.c5; rwa [z] at this
 have HD0 := Lib.hid HS0.out.drew
 have hS0 := HSS0.out _ HD0.out.fr
 refine wp_region_held_drew (S := fun w' => w'.cell? ⟨w.heap.size, 0, none⟩ = some (.pointer (some ⟨B, 0, none⟩)) ∧ w'.cell? ⟨w.heap.size + 1 + 1, 0, none⟩ = some (.slice (some ⟨g, o, none⟩) 2 lc) ∧ w'.cell? ⟨g, o, none⟩ = some (.int .i64 a_k) ∧ w'.cell? ⟨g, o + 1, none⟩ = some (.string a_nm) ∧ w'.cell? ⟨g, o + 2, none⟩ = some (.int .i64 a_n) ∧ w'.cell? ⟨g, o + 3, none⟩ = some (.string a_s) ∧ w'.cell? ⟨g, o + 4, none⟩ = some (.slice a_ka a_kn a_kc) ∧ w'.cell? ⟨g, o + 5, none⟩ = some (.slice a_la a_ln a_lc) ∧ w'.cell? ⟨w.heap.size + 1, 0, none⟩ = some (.int .i64 17) ∧ w'.cell? ⟨w.heap.size + 1, 1, none⟩ = some (.string nm) ∧ w'.cell? ⟨w.heap.size + 1, 2, none⟩ = some (.int .i64 n) ∧ w'.cell? ⟨w.heap.size + 1, 3, none⟩ = some (.string s) ∧ w'.cell? ⟨w.heap.size + 1, 4, none⟩ = some (.slice ka kn kc) ∧ w'.cell? ⟨w.heap.size + 1, 5, none⟩ = some (.slice (some ⟨g, o, none⟩) 2 lc)) (by kernel_rfl) (by (try dsimp only); exact hS0) (fun hHeld => ?_)
 iterate 5
  (first
   | (refine wpAnyH_take (i := 0) (v := ?_) rfl (by kernel_rfl) (by decide +kernel) (by decide +kernel) (fun _ _ _ h => h) (Or.inl ⟨by rfl, ?_⟩) (by assumption) ?_; rotate_left; (focus (intro w0 hSw; (try dsimp only at hSw); go_simp; (try with_reducible rfl); done)))
   | (refine wpAnyH_take (i := 1) (v := ?_) rfl (by kernel_rfl) (by decide +kernel) (by decide +kernel) (fun _ _ _ h => h) (Or.inl ⟨by rfl, ?_⟩) (by assumption) ?_; rotate_left; (focus (intro w0 hSw; (try dsimp only at hSw); go_simp; (try with_reducible rfl); done)))
   | (refine wpAnyH_take (i := 2) (v := ?_) rfl (by kernel_rfl) (by decide +kernel) (by decide +kernel) (fun _ _ _ h => h) (Or.inl ⟨by rfl, ?_⟩) (by assumption) ?_; rotate_left; (focus (intro w0 hSw; (try dsimp only at hSw); go_simp; (try with_reducible rfl); done)))
   | (refine wpAnyH_take (i := 3) (v := ?_) rfl (by kernel_rfl) (by decide +kernel) (by decide +kernel) (fun _ _ _ h => h) (Or.inl ⟨by rfl, ?_⟩) (by assumption) ?_; rotate_left; (focus (intro w0 hSw; (try dsimp only at hSw); go_simp; (try with_reducible rfl); done)))
   | (refine wpAnyH_take (i := 4) (v := ?_) rfl (by kernel_rfl) (by decide +kernel) (by decide +kernel) (fun _ _ _ h => h) (Or.inl ⟨by rfl, ?_⟩) (by assumption) ?_; rotate_left; (focus (intro w0 hSw; (try dsimp only at hSw); go_simp; (try with_reducible rfl); done)))
   )
  try simp only [List.getElem_toArray, List.getElem_cons_zero, List.getElem_cons_succ, Act.put, List.setIfInBounds_toArray, List.set_cons_zero, List.set_cons_succ]
 refine wpAnyH_ready (rs := [5]) (by decide +kernel) (by simp) (AllReadyH.cons rfl (fun K hK => ?_) AllReadyH.nil)
 go_simp
 go_at_call 131
 refine (HLv.out _ ⟨HD0.out.is HIv0.out, HD0.out.env.le⟩).mono ?_
 rintro e wl0 ⟨rfl, hbl⟩
 have HT0 := Lib.hid (HD0.out.below hbl)
 clear hbl
 have eS := HSS0.out _ HT0.out.fr
 refine hK.out _ _ eS (fun hHeld2 => ?_)
 clear hK K hHeld
 try simp only [Act.put, List.setIfInBounds_toArray]
 refine wpAnyH_ready (rs := [6]) (by decide +kernel) (by simp) (AllReadyH.cons rfl (fun K hK => ?_) AllReadyH.nil)
 go_simp
 go_at_call 115
 refine (HWa.out L ⟨a_k, a_nm, a_n, a_s, a_ka, a_kn, a_kc, a_la, a_ln, a_lc⟩ G B T b vs n0 _ HT0.out.env (HT0.out.is HIa.out) HT0.out.wr (by (try simp at hlim); (try simp); omega)).mono ?_
 rintro e w1 ⟨rfl, ⟨vs1, hw⟩, hf⟩
 have HS1 := Lib.hid (HT0.out.next hw hf)
 clear hw hf
 have fS := HSS0.out _ HS1.out.fr
 refine hK.out _ _ fS (fun hHeld3 => ?_)
 clear hK K hHeld2
 try simp only [Act.put, List.setIfInBounds_toArray]
 refine wpAnyH_done (by kernel_rfl) ?_ _
 clear hHeld3 fS eS hS0 HT0 HD0
 have cHP := (HP.out.to HS1.out.fr).cell
 obtain ⟨HQ_0, HQ_1, HQ_2, HQ_3, HQ_4, HQ_5⟩ := (HQ.out.fr HQG.out HS1.out.fr).six
 go_wp2_with fail
 refine (add_one G B (T ++ a.o.at L b) b vs1 nm _ w1 HS1.out.env.hF HS1.out.wr (by (try simp at hlim); (try simp); omega) HNM.out (by simp)).mono ?_
 rintro e w2 ⟨rfl, ⟨vs2, hw⟩, hf⟩
 have HS2 := Lib.hid (HS1.out.next hw hf)
 clear hw hf HS1 cHP HQ_0 HQ_1 HQ_2 HQ_3 HQ_4 HQ_5
 have HSS2 : Hid (∀ w', Fr G w0 w' → w'.cell? ⟨w.heap.size, 0, none⟩ = some (.pointer (some ⟨B, 0, none⟩)) ∧ w'.cell? ⟨w.heap.size + 1 + 1, 0, none⟩ = some (.slice (some ⟨g, o, none⟩) 2 lc) ∧ w'.cell? ⟨g, o + 6, none⟩ = some (.int .i64 c_k) ∧ w'.cell? ⟨g, o + 6 + 1, none⟩ = some (.string c_nm) ∧ w'.cell? ⟨g, o + 6 + 2, none⟩ = some (.int .i64 c_n) ∧ w'.cell? ⟨g, o + 6 + 3, none⟩ = some (.string c_s) ∧ w'.cell? ⟨g, o + 6 + 4, none⟩ = some (.slice c_ka c_kn c_kc) ∧ w'.cell? ⟨g, o + 6 + 5, none⟩ = some (.slice c_la c_ln c_lc) ∧ w'.cell? ⟨w.heap.size + 1, 0, none⟩ = some (.int .i64 17) ∧ w'.cell? ⟨w.heap.size + 1, 1, none⟩ = some (.string nm) ∧ w'.cell? ⟨w.heap.size + 1, 2, none⟩ = some (.int .i64 n) ∧ w'.cell? ⟨w.heap.size + 1, 3, none⟩ = some (.string s) ∧ w'.cell? ⟨w.heap.size + 1, 4, none⟩ = some (.slice ka kn kc) ∧ w'.cell? ⟨w.heap.size + 1, 5, none⟩ = some (.slice (some ⟨g, o, none⟩) 2 lc)) := fun w' hf => by
  have hq := HQ.out.fr HQG.out hf
  have hy := HYc.out.fr HGg.out hf
  have z := Nat.zero_add
  refine ⟨(HP.out.to hf).cell, (HR.out.to hf).cell, hy.c0, hy.c1, hy.c2, hy.c3, hy.c4, hy.c5, hq.c0, ?_, ?_, ?_, ?_, ?_⟩
  ·have := hq.c1; rwa [z] at this
  ·have := hq.c2; rwa [z] at this
  ·have := hq.c3; rwa [z] at this
  ·have := hq.c4; rwa [z] at this
  ·have := hq.c5; rwa [z] at this
 go_wp2_with fail
 have HD2 := Lib.hid HS2.out.drew
 have hS2 := HSS2.out _ HD2.out.fr
 refine wp_region_held_drew (S := fun w' => w'.cell? ⟨w.heap.size, 0, none⟩ = some (.pointer (some ⟨B, 0, none⟩)) ∧ w'.cell? ⟨w.heap.size + 1 + 1, 0, none⟩ = some (.slice (some ⟨g, o, none⟩) 2 lc) ∧ w'.cell? ⟨g, o + 6, none⟩ = some (.int .i64 c_k) ∧ w'.cell? ⟨g, o + 6 + 1, none⟩ = some (.string c_nm) ∧ w'.cell? ⟨g, o + 6 + 2, none⟩ = some (.int .i64 c_n) ∧ w'.cell? ⟨g, o + 6 + 3, none⟩ = some (.string c_s) ∧ w'.cell? ⟨g, o + 6 + 4, none⟩ = some (.slice c_ka c_kn c_kc) ∧ w'.cell? ⟨g, o + 6 + 5, none⟩ = some (.slice c_la c_ln c_lc) ∧ w'.cell? ⟨w.heap.size + 1, 0, none⟩ = some (.int .i64 17) ∧ w'.cell? ⟨w.heap.size + 1, 1, none⟩ = some (.string nm) ∧ w'.cell? ⟨w.heap.size + 1, 2, none⟩ = some (.int .i64 n) ∧ w'.cell? ⟨w.heap.size + 1, 3, none⟩ = some (.string s) ∧ w'.cell? ⟨w.heap.size + 1, 4, none⟩ = some (.slice ka kn kc) ∧ w'.cell? ⟨w.heap.size + 1, 5, none⟩ = some (.slice (some ⟨g, o, none⟩) 2 lc)) (by kernel_rfl) (by (try dsimp only); exact hS2) (fun hHeld => ?_)
 iterate 5
  (first
   | (refine wpAnyH_take (i := 0) (v := ?_) rfl (by kernel_rfl) (by decide +kernel) (by decide +kernel) (fun _ _ _ h => h) (Or.inl ⟨by rfl, ?_⟩) (by assumption) ?_; rotate_left; (focus (intro w0 hSw; (try dsimp only at hSw); go_simp; (try with_reducible rfl); done)))
   | (refine wpAnyH_take (i := 1) (v := ?_) rfl (by kernel_rfl) (by decide +kernel) (by decide +kernel) (fun _ _ _ h => h) (Or.inl ⟨by rfl, ?_⟩) (by assumption) ?_; rotate_left; (focus (intro w0 hSw; (try dsimp only at hSw); go_simp; (try with_reducible rfl); done)))
   | (refine wpAnyH_take (i := 2) (v := ?_) rfl (by kernel_rfl) (by decide +kernel) (by decide +kernel) (fun _ _ _ h => h) (Or.inl ⟨by rfl, ?_⟩) (by assumption) ?_; rotate_left; (focus (intro w0 hSw; (try dsimp only at hSw); go_simp; (try with_reducible rfl); done)))
   | (refine wpAnyH_take (i := 3) (v := ?_) rfl (by kernel_rfl) (by decide +kernel) (by decide +kernel) (fun _ _ _ h => h) (Or.inl ⟨by rfl, ?_⟩) (by assumption) ?_; rotate_left; (focus (intro w0 hSw; (try dsimp only at hSw); go_simp; (try with_reducible rfl); done)))
   | (refine wpAnyH_take (i := 4) (v := ?_) rfl (by kernel_rfl) (by decide +kernel) (by decide +kernel) (fun _ _ _ h => h) (Or.inl ⟨by rfl, ?_⟩) (by assumption) ?_; rotate_left; (focus (intro w0 hSw; (try dsimp only at hSw); go_simp; (try with_reducible rfl); done)))
   )
  try simp only [List.getElem_toArray, List.getElem_cons_zero, List.getElem_cons_succ, Act.put, List.setIfInBounds_toArray, List.set_cons_zero, List.set_cons_succ]
 refine wpAnyH_ready (rs := [5]) (by decide +kernel) (by simp) (AllReadyH.cons rfl (fun K hK => ?_) AllReadyH.nil)
 go_simp
 go_at_call 131
 refine (HLv.out _ ⟨HD2.out.is HIv0.out, HD2.out.env.le⟩).mono ?_
 rintro e wl2 ⟨rfl, hbl⟩
 have HT2 := Lib.hid (HD2.out.below hbl)
 clear hbl
 have eS := HSS2.out _ HT2.out.fr
 refine hK.out _ _ eS (fun hHeld2 => ?_)
 clear hK K hHeld
 try simp only [Act.put, List.setIfInBounds_toArray]
 have hwL := HWL.out
 (first
  | (refine wpAnyH_take (i := 6) (v := ?_) rfl (by kernel_rfl) (by decide +kernel) (by decide +kernel) (fun _ _ _ h => h) (Or.inl ⟨by rfl, ?_⟩) (by assumption) ?_; rotate_left; (focus (intro w0 hSw; (try dsimp only at hSw); go_simp; (try with_reducible rfl); done)))
  )
 try simp only [List.getElem_toArray, List.getElem_cons_zero, List.getElem_cons_succ, Act.put, List.setIfInBounds_toArray, List.set_cons_zero, List.set_cons_succ]
 clear hwL
 refine wpAnyH_ready (rs := [7]) (by decide +kernel) (by simp) (AllReadyH.cons rfl (fun K hK => ?_) AllReadyH.nil)
 go_simp
 go_at_call 115
 refine (HC1.out ⟨c_k, c_nm, c_n, c_s, c_ka, c_kn, c_kc, c_la, c_ln, c_lc⟩ G B ((T ++ a.o.at L b) ++ [nm]) b vs2 n0 _ HT2.out.env (HT2.out.is HIc.out) HT2.out.wr (by (try simp at hlim); (try simp); omega)).mono ?_
 rintro e w3 ⟨rfl, ⟨vs3, hw⟩, hf⟩
 have HS3 := Lib.hid (HT2.out.next hw hf)
 clear hw hf
 have fS := HSS2.out _ HS3.out.fr
 refine hK.out _ _ fS (fun hHeld3 => ?_)
 clear hK K hHeld2
 try simp only [Act.put, List.setIfInBounds_toArray]
 refine wpAnyH_done (by kernel_rfl) ?_ _
 clear hHeld3 fS eS hS2 HT2 HD2
 have HT : Hid ((((T ++ a.o.at L b) ++ [nm]) ++ c.o.at (L + 1) b) = T ++ v.o.raw b) := by
  show _ = _
  rw [HRAW.out]
  simp
 go_wp2_with fail
 go_end0
 have hfin := HS3.out.adds
 rw [HT.out] at hfin
 exact HFIN.out _ _ _ _ hfin
theorem bare_18 (v a c : V) (hv : v.k = 18) (hl : v.l = [a, c]) (hwa : WExpr a) (hwc : WExpr c) (hnm : ¬ v.nm.size = 0) (hf : Fine v) (he : isE v = true) : Writes 133 v fun b => v.o.raw b := by
 intro x F B T b vs n0 w hE hx hW hlim
 have hraw : v.o.raw b = a.o.at (opl (bl v.nm)) b ++ v.nm :: c.o.at (opl (bl v.nm) + 1) b := by
  rw [o_raw, hv, hl]
  rfl
 have hlen1 := congrArg List.length hraw
 dsimp only at hlim
 rw [hlen1] at hlim
 obtain ⟨ka, kc, la, lc, rfl, h1, h2, h3, h4⟩ := hx.open
 simp only [X.v] at *
 have hlv : v.o.lvl = opl (bl v.nm) := by
  rw [o_lvl, hv]
  rfl
 have hL8 := opl_le (bl v.nm)
 have HLv := Lib.hid fun (w' : World) (h : IsB w' n0 v _ ∧ n0 ≤ w'.heap.size) => level_any v _ w' hf he (IsB.to (Below.refl _ _) h.2 v ⟨v.k, v.nm, v.n, v.s, ka, v.ks.length, kc, la, v.l.length, lc⟩ h.1)
 have HIv := Lib.hid hx
 rw [hlv] at HLv
 clear hlv hf he
 rw [hl] at h4
 obtain ⟨g, o, ya, yc, rfl, hg, ⟨hya, hia⟩, hyc, hic⟩ := h4.two
 simp only [X.v] at HLv
 rw [hv] at *
 have HNM := Lib.hid hnm
 have hln : v.l.length = 2 := by rw [hl]; rfl
 have HRAW := Lib.hid hraw
 clear hraw hlen1 hv hl hnm
 generalize v.l.length = ln at *
 subst hln
 generalize v.nm = nm at *
 generalize v.n = n at *
 generalize v.s = s at *
 generalize v.ks.length = kn at *
 generalize hL : opl (bl nm) = L at *
 clear hL
 have HWL : Hid (IntKind.i64.wrap ((L : Int) + 1) = (L : Int) + 1) := IntWalk.i64_in _ (by omega)
 have HC1 : Hid (∀ (x : X) (F : Nat → Prop) (B : Nat) (T : Ts) (b : Bool) (vs : Value) (n0 : Nat) (w : World), Env w F n0 → IsB w n0 c x → Wr w F B T b vs → T.length + (c.o.at (L + 1) b).length ≤ 8796093020000 →
  Calls Tryz.prog 115 #[.pointer (some ⟨B, 0, none⟩), x.v, .int .i64 ((L : Int) + 1)] w (Adds w F B (T ++ c.o.at (L + 1) b) b)) := fun x F B T b vs n0 w h1 h2 h3 h4 => hwc (L + 1) x F B T b vs n0 w h1 h2 h3 h4
 obtain ⟨hN, hp, hq, hr⟩ := new3 hE hW #[.pointer (some ⟨B, 0, none⟩)] #[.int .i64 18, .string nm, .int .i64 n, .string s, .slice ka kn kc, .slice (some ⟨g, o, none⟩) 2 lc] #[.slice (some ⟨g, o, none⟩) 2 lc] 57 25 23
 have HS0 := Lib.hid hN.sit
 have HFIN := Lib.hid hN.fin
 have HP := Lib.hid hp
 have HR := Lib.hid hr
 have HQ := Lib.hid (Box.at_ (x := ⟨18, nm, n, s, ka, kn, kc, (some ⟨g, o, none⟩), 2, lc⟩) hq)
 have HQG := Lib.hid hq.inF
 have HQB := Lib.hid hq
 have HGg := Lib.hid (hN.sit.env.sub g hg)
 have HYa := Lib.hid (hN.at_ _ _ _ hg hya)
 have HIa := Lib.hid (hN.is _ _ hia)
 have HWa := Lib.hid hwa
 obtain ⟨a_k, a_nm, a_n, a_s, a_ka, a_kn, a_kc, a_la, a_ln, a_lc⟩ := ya
 have HYc := Lib.hid (hN.at_ _ _ _ hg hyc)
 have HIc := Lib.hid (hN.is _ _ hic)
 have HWc := Lib.hid hwc
 obtain ⟨c_k, c_nm, c_n, c_s, c_ka, c_kn, c_kc, c_la, c_ln, c_lc⟩ := yc
 have HIv0 := Lib.hid (hN.is _ _ HIv.out)
 clear hN HIv hp hq hr hE hW hx h1 h2 h3 h4 hya hia hwa hyc hic hwc hg
 go_enter Tryz.func133, Tryz.ntmps133
 go_wp2_with fail
 have HZ : Hid ((((w.alloc (.cells #[.pointer (some ⟨B, 0, none⟩)] 57)).alloc (.cells #[.int .i64 18, .string nm, .int .i64 n, .string s, .slice ka kn kc, .slice (some ⟨g, o, none⟩) 2 lc] 25)).alloc (.cells #[.slice (some ⟨g, o, none⟩) 2 lc] 23)).heap.size = w.heap.size + 1 + 1 + 1) := by
  show _ = _
  simp
 generalize ((w.alloc (.cells #[.pointer (some ⟨B, 0, none⟩)] 57)).alloc (.cells #[.int .i64 18, .string nm, .int .i64 n, .string s, .slice ka kn kc, .slice (some ⟨g, o, none⟩) 2 lc] 25)).alloc (.cells #[.slice (some ⟨g, o, none⟩) 2 lc] 23) = w0 at *
 generalize Ex F w.heap.size 3 = G at *
 have HSS0 : Hid (∀ w', Fr G w0 w' → w'.cell? ⟨w.heap.size, 0, none⟩ = some (.pointer (some ⟨B, 0, none⟩)) ∧ w'.cell? ⟨w.heap.size + 1 + 1, 0, none⟩ = some (.slice (some ⟨g, o, none⟩) 2 lc) ∧ w'.cell? ⟨g, o, none⟩ = some (.int .i64 a_k) ∧ w'.cell? ⟨g, o + 1, none⟩ = some (.string a_nm) ∧ w'.cell? ⟨g, o + 2, none⟩ = some (.int .i64 a_n) ∧ w'.cell? ⟨g, o + 3, none⟩ = some (.string a_s) ∧ w'.cell? ⟨g, o + 4, none⟩ = some (.slice a_ka a_kn a_kc) ∧ w'.cell? ⟨g, o + 5, none⟩ = some (.slice a_la a_ln a_lc) ∧ w'.cell? ⟨w.heap.size + 1, 0, none⟩ = some (.int .i64 18) ∧ w'.cell? ⟨w.heap.size + 1, 1, none⟩ = some (.string nm) ∧ w'.cell? ⟨w.heap.size + 1, 2, none⟩ = some (.int .i64 n) ∧ w'.cell? ⟨w.heap.size + 1, 3, none⟩ = some (.string s) ∧ w'.cell? ⟨w.heap.size + 1, 4, none⟩ = some (.slice ka kn kc) ∧ w'.cell? ⟨w.heap.size + 1, 5, none⟩ = some (.slice (some ⟨g, o, none⟩) 2 lc)) := fun w' hf => by
  have hq := HQ.out.fr HQG.out hf
  have hy := HYa.out.fr HGg.out hf
  have z := Nat.zero_add
  refine ⟨(HP.out.to hf).cell, (HR.out.to hf).cell, hy.c0, hy.c1, hy.c2, hy.c3, hy.c4, hy.c5, hq.c0, ?_, ?_, ?_, ?_, ?_⟩
  ·have := hq.c1; rwa [z] at this
  ·have := hq.c2; rwa [z] at this
  ·have := hq.c3; rwa [z] at this
  ·have := hq.c4; rwa [z] at this
  ·have := hq.c5; rwa [z] at this
 have HD0 := Lib.hid HS0.out.drew
 have hS0 := HSS0.out _ HD0.out.fr
 refine wp_region_held_drew (S := fun w' => w'.cell? ⟨w.heap.size, 0, none⟩ = some (.pointer (some ⟨B, 0, none⟩)) ∧ w'.cell? ⟨w.heap.size + 1 + 1, 0, none⟩ = some (.slice (some ⟨g, o, none⟩) 2 lc) ∧ w'.cell? ⟨g, o, none⟩ = some (.int .i64 a_k) ∧ w'.cell? ⟨g, o + 1, none⟩ = some (.string a_nm) ∧ w'.cell? ⟨g, o + 2, none⟩ = some (.int .i64 a_n) ∧ w'.cell? ⟨g, o + 3, none⟩ = some (.string a_s) ∧ w'.cell? ⟨g, o + 4, none⟩ = some (.slice a_ka a_kn a_kc) ∧ w'.cell? ⟨g, o + 5, none⟩ = some (.slice a_la a_ln a_lc) ∧ w'.cell? ⟨w.heap.size + 1, 0, none⟩ = some (.int .i64 18) ∧ w'.cell? ⟨w.heap.size + 1, 1, none⟩ = some (.string nm) ∧ w'.cell? ⟨w.heap.size + 1, 2, none⟩ = some (.int .i64 n) ∧ w'.cell? ⟨w.heap.size + 1, 3, none⟩ = some (.string s) ∧ w'.cell? ⟨w.heap.size + 1, 4, none⟩ = some (.slice ka kn kc) ∧ w'.cell? ⟨w.heap.size + 1, 5, none⟩ = some (.slice (some ⟨g, o, none⟩) 2 lc)) (by kernel_rfl) (by (try dsimp only); exact hS0) (fun hHeld => ?_)
 iterate 5
  (first
   | (refine wpAnyH_take (i := 0) (v := ?_) rfl (by kernel_rfl) (by decide +kernel) (by decide +kernel) (fun _ _ _ h => h) (Or.inl ⟨by rfl, ?_⟩) (by assumption) ?_; rotate_left; (focus (intro w0 hSw; (try dsimp only at hSw); go_simp; (try with_reducible rfl); done)))
   | (refine wpAnyH_take (i := 1) (v := ?_) rfl (by kernel_rfl) (by decide +kernel) (by decide +kernel) (fun _ _ _ h => h) (Or.inl ⟨by rfl, ?_⟩) (by assumption) ?_; rotate_left; (focus (intro w0 hSw; (try dsimp only at hSw); go_simp; (try with_reducible rfl); done)))
   | (refine wpAnyH_take (i := 2) (v := ?_) rfl (by kernel_rfl) (by decide +kernel) (by decide +kernel) (fun _ _ _ h => h) (Or.inl ⟨by rfl, ?_⟩) (by assumption) ?_; rotate_left; (focus (intro w0 hSw; (try dsimp only at hSw); go_simp; (try with_reducible rfl); done)))
   | (refine wpAnyH_take (i := 3) (v := ?_) rfl (by kernel_rfl) (by decide +kernel) (by decide +kernel) (fun _ _ _ h => h) (Or.inl ⟨by rfl, ?_⟩) (by assumption) ?_; rotate_left; (focus (intro w0 hSw; (try dsimp only at hSw); go_simp; (try with_reducible rfl); done)))
   | (refine wpAnyH_take (i := 4) (v := ?_) rfl (by kernel_rfl) (by decide +kernel) (by decide +kernel) (fun _ _ _ h => h) (Or.inl ⟨by rfl, ?_⟩) (by assumption) ?_; rotate_left; (focus (intro w0 hSw; (try dsimp only at hSw); go_simp; (try with_reducible rfl); done)))
   )
  try simp only [List.getElem_toArray, List.getElem_cons_zero, List.getElem_cons_succ, Act.put, List.setIfInBounds_toArray, List.set_cons_zero, List.set_cons_succ]
 refine wpAnyH_ready (rs := [5]) (by decide +kernel) (by simp) (AllReadyH.cons rfl (fun K hK => ?_) AllReadyH.nil)
 go_simp
 go_at_call 131
 refine (HLv.out _ ⟨HD0.out.is HIv0.out, HD0.out.env.le⟩).mono ?_
 rintro e wl0 ⟨rfl, hbl⟩
 have HT0 := Lib.hid (HD0.out.below hbl)
 clear hbl
 have eS := HSS0.out _ HT0.out.fr
 refine hK.out _ _ eS (fun hHeld2 => ?_)
 clear hK K hHeld
 try simp only [Act.put, List.setIfInBounds_toArray]
 refine wpAnyH_ready (rs := [6]) (by decide +kernel) (by simp) (AllReadyH.cons rfl (fun K hK => ?_) AllReadyH.nil)
 go_simp
 go_at_call 115
 refine (HWa.out L ⟨a_k, a_nm, a_n, a_s, a_ka, a_kn, a_kc, a_la, a_ln, a_lc⟩ G B T b vs n0 _ HT0.out.env (HT0.out.is HIa.out) HT0.out.wr (by (try simp at hlim); (try simp); omega)).mono ?_
 rintro e w1 ⟨rfl, ⟨vs1, hw⟩, hf⟩
 have HS1 := Lib.hid (HT0.out.next hw hf)
 clear hw hf
 have fS := HSS0.out _ HS1.out.fr
 refine hK.out _ _ fS (fun hHeld3 => ?_)
 clear hK K hHeld2
 try simp only [Act.put, List.setIfInBounds_toArray]
 refine wpAnyH_done (by kernel_rfl) ?_ _
 clear hHeld3 fS eS hS0 HT0 HD0
 have cHP := (HP.out.to HS1.out.fr).cell
 obtain ⟨HQ_0, HQ_1, HQ_2, HQ_3, HQ_4, HQ_5⟩ := (HQ.out.fr HQG.out HS1.out.fr).six
 go_wp2_with fail
 refine (add_one G B (T ++ a.o.at L b) b vs1 nm _ w1 HS1.out.env.hF HS1.out.wr (by (try simp at hlim); (try simp); omega) HNM.out (by simp)).mono ?_
 rintro e w2 ⟨rfl, ⟨vs2, hw⟩, hf⟩
 have HS2 := Lib.hid (HS1.out.next hw hf)
 clear hw hf HS1 cHP HQ_0 HQ_1 HQ_2 HQ_3 HQ_4 HQ_5
 have HSS2 : Hid (∀ w', Fr G w0 w' → w'.cell? ⟨w.heap.size, 0, none⟩ = some (.pointer (some ⟨B, 0, none⟩)) ∧ w'.cell? ⟨w.heap.size + 1 + 1, 0, none⟩ = some (.slice (some ⟨g, o, none⟩) 2 lc) ∧ w'.cell? ⟨g, o + 6, none⟩ = some (.int .i64 c_k) ∧ w'.cell? ⟨g, o + 6 + 1, none⟩ = some (.string c_nm) ∧ w'.cell? ⟨g, o + 6 + 2, none⟩ = some (.int .i64 c_n) ∧ w'.cell? ⟨g, o + 6 + 3, none⟩ = some (.string c_s) ∧ w'.cell? ⟨g, o + 6 + 4, none⟩ = some (.slice c_ka c_kn c_kc) ∧ w'.cell? ⟨g, o + 6 + 5, none⟩ = some (.slice c_la c_ln c_lc) ∧ w'.cell? ⟨w.heap.size + 1, 0, none⟩ = some (.int .i64 18) ∧ w'.cell? ⟨w.heap.size + 1, 1, none⟩ = some (.string nm) ∧ w'.cell? ⟨w.heap.size + 1, 2, none⟩ = some (.int .i64 n) ∧ w'.cell? ⟨w.heap.size + 1, 3, none⟩ = some (.string s) ∧ w'.cell? ⟨w.heap.size + 1, 4, none⟩ = some (.slice ka kn kc) ∧ w'.cell? ⟨w.heap.size + 1, 5, none⟩ = some (.slice (some ⟨g, o, none⟩) 2 lc)) := fun w' hf => by
  have hq := HQ.out.fr HQG.out hf
  have hy := HYc.out.fr HGg.out hf
  have z := Nat.zero_add
  refine ⟨(HP.out.to hf).cell, (HR.out.to hf).cell, hy.c0, hy.c1, hy.c2, hy.c3, hy.c4, hy.c5, hq.c0, ?_, ?_, ?_, ?_, ?_⟩
  ·have := hq.c1; rwa [z] at this
  ·have := hq.c2; rwa [z] at this
  ·have := hq.c3; rwa [z] at this
  ·have := hq.c4; rwa [z] at this
  ·have := hq.c5; rwa [z] at this
 go_wp2_with fail
 have HD2 := Lib.hid HS2.out.drew
 have hS2 := HSS2.out _ HD2.out.fr
 refine wp_region_held_drew (S := fun w' => w'.cell? ⟨w.heap.size, 0, none⟩ = some (.pointer (some ⟨B, 0, none⟩)) ∧ w'.cell? ⟨w.heap.size + 1 + 1, 0, none⟩ = some (.slice (some ⟨g, o, none⟩) 2 lc) ∧ w'.cell? ⟨g, o + 6, none⟩ = some (.int .i64 c_k) ∧ w'.cell? ⟨g, o + 6 + 1, none⟩ = some (.string c_nm) ∧ w'.cell? ⟨g, o + 6 + 2, none⟩ = some (.int .i64 c_n) ∧ w'.cell? ⟨g, o + 6 + 3, none⟩ = some (.string c_s) ∧ w'.cell? ⟨g, o + 6 + 4, none⟩ = some (.slice c_ka c_kn c_kc) ∧ w'.cell? ⟨g, o + 6 + 5, none⟩ = some (.slice c_la c_ln c_lc) ∧ w'.cell? ⟨w.heap.size + 1, 0, none⟩ = some (.int .i64 18) ∧ w'.cell? ⟨w.heap.size + 1, 1, none⟩ = some (.string nm) ∧ w'.cell? ⟨w.heap.size + 1, 2, none⟩ = some (.int .i64 n) ∧ w'.cell? ⟨w.heap.size + 1, 3, none⟩ = some (.string s) ∧ w'.cell? ⟨w.heap.size + 1, 4, none⟩ = some (.slice ka kn kc) ∧ w'.cell? ⟨w.heap.size + 1, 5, none⟩ = some (.slice (some ⟨g, o, none⟩) 2 lc)) (by kernel_rfl) (by (try dsimp only); exact hS2) (fun hHeld => ?_)
 iterate 5
  (first
   | (refine wpAnyH_take (i := 0) (v := ?_) rfl (by kernel_rfl) (by decide +kernel) (by decide +kernel) (fun _ _ _ h => h) (Or.inl ⟨by rfl, ?_⟩) (by assumption) ?_; rotate_left; (focus (intro w0 hSw; (try dsimp only at hSw); go_simp; (try with_reducible rfl); done)))
   | (refine wpAnyH_take (i := 1) (v := ?_) rfl (by kernel_rfl) (by decide +kernel) (by decide +kernel) (fun _ _ _ h => h) (Or.inl ⟨by rfl, ?_⟩) (by assumption) ?_; rotate_left; (focus (intro w0 hSw; (try dsimp only at hSw); go_simp; (try with_reducible rfl); done)))
   | (refine wpAnyH_take (i := 2) (v := ?_) rfl (by kernel_rfl) (by decide +kernel) (by decide +kernel) (fun _ _ _ h => h) (Or.inl ⟨by rfl, ?_⟩) (by assumption) ?_; rotate_left; (focus (intro w0 hSw; (try dsimp only at hSw); go_simp; (try with_reducible rfl); done)))
   | (refine wpAnyH_take (i := 3) (v := ?_) rfl (by kernel_rfl) (by decide +kernel) (by decide +kernel) (fun _ _ _ h => h) (Or.inl ⟨by rfl, ?_⟩) (by assumption) ?_; rotate_left; (focus (intro w0 hSw; (try dsimp only at hSw); go_simp; (try with_reducible rfl); done)))
   | (refine wpAnyH_take (i := 4) (v := ?_) rfl (by kernel_rfl) (by decide +kernel) (by decide +kernel) (fun _ _ _ h => h) (Or.inl ⟨by rfl, ?_⟩) (by assumption) ?_; rotate_left; (focus (intro w0 hSw; (try dsimp only at hSw); go_simp; (try with_reducible rfl); done)))
   )
  try simp only [List.getElem_toArray, List.getElem_cons_zero, List.getElem_cons_succ, Act.put, List.setIfInBounds_toArray, List.set_cons_zero, List.set_cons_succ]
 refine wpAnyH_ready (rs := [5]) (by decide +kernel) (by simp) (AllReadyH.cons rfl (fun K hK => ?_) AllReadyH.nil)
 go_simp
 go_at_call 131
 refine (HLv.out _ ⟨HD2.out.is HIv0.out, HD2.out.env.le⟩).mono ?_
 rintro e wl2 ⟨rfl, hbl⟩
 have HT2 := Lib.hid (HD2.out.below hbl)
 clear hbl
 have eS := HSS2.out _ HT2.out.fr
 refine hK.out _ _ eS (fun hHeld2 => ?_)
 clear hK K hHeld
 try simp only [Act.put, List.setIfInBounds_toArray]
 have hwL := HWL.out
 (first
  | (refine wpAnyH_take (i := 6) (v := ?_) rfl (by kernel_rfl) (by decide +kernel) (by decide +kernel) (fun _ _ _ h => h) (Or.inl ⟨by rfl, ?_⟩) (by assumption) ?_; rotate_left; (focus (intro w0 hSw; (try dsimp only at hSw); go_simp; (try with_reducible rfl); done)))
  )
 try simp only [List.getElem_toArray, List.getElem_cons_zero, List.getElem_cons_succ, Act.put, List.setIfInBounds_toArray, List.set_cons_zero, List.set_cons_succ]
 clear hwL
 refine wpAnyH_ready (rs := [7]) (by decide +kernel) (by simp) (AllReadyH.cons rfl (fun K hK => ?_) AllReadyH.nil)
 go_simp
 go_at_call 115
 refine (HC1.out ⟨c_k, c_nm, c_n, c_s, c_ka, c_kn, c_kc, c_la, c_ln, c_lc⟩ G B ((T ++ a.o.at L b) ++ [nm]) b vs2 n0 _ HT2.out.env (HT2.out.is HIc.out) HT2.out.wr (by (try simp at hlim); (try simp); omega)).mono ?_
 rintro e w3 ⟨rfl, ⟨vs3, hw⟩, hf⟩
 have HS3 := Lib.hid (HT2.out.next hw hf)
 clear hw hf
 have fS := HSS2.out _ HS3.out.fr
 refine hK.out _ _ fS (fun hHeld3 => ?_)
 clear hK K hHeld2
 try simp only [Act.put, List.setIfInBounds_toArray]
 refine wpAnyH_done (by kernel_rfl) ?_ _
 clear hHeld3 fS eS hS2 HT2 HD2
 have HT : Hid ((((T ++ a.o.at L b) ++ [nm]) ++ c.o.at (L + 1) b) = T ++ v.o.raw b) := by
  show _ = _
  rw [HRAW.out]
  simp
 go_wp2_with fail
 go_end0
 have hfin := HS3.out.adds
 rw [HT.out] at hfin
 exact HFIN.out _ _ _ _ hfin
end Go.Proofs.YtllpgoaanbiodaaGreatDoor.R
