/-

-/
import Derived.Test.YtllpgoaanbiodaaGreatDoorMYp0
set_option maxHeartbeats 8000000
set_option maxRecDepth 20000
namespace Go.Proofs.YtllpgoaanbiodaaGreatDoor.R
open Go.RowKit Go.Proofs.YtllpgoaanbiodaaGreatDoor Go.Proofs.YtllpgoaanbiodaaGreatDoor.T
open Lib (hid)
theorem rst7_31 (v : V) (hk : v.k = 31) (H : TellRs v) (x : X) (w : World) (hx : Is w v x) : Gives 49 #[x.v] w v.o.st := by
 have HH := hid fun w' (hb : Below w.heap.size w w') => H x w' (Is.below hb _ _ hx)
 obtain ⟨xka, xkc, xla, xlc, rfl, -, -, -, hrow⟩ := hx.open
 have HB0 := bxP w v xka xkc xla xlc
 simp only [X.v] at HH ⊢
 clear H
 generalize v.o.st = T at *
 rw [hk] at HB0 HH ⊢
 clear hx hk hrow
 generalize v.nm = nm, v.n = n, v.s = s, v.ks.length = kn, v.l.length = ln at *
 go_enter Tryz.func49, Tryz.ntmps49
 go_wp2_with fail
 refine (HH.out _ HB0.out).mono ?_
 rintro e w2 ⟨v2, rfl, ho, hb⟩
 obtain ⟨A2, c2, rfl, -, -⟩ := ho.rd
 have HO := hid (ho.mono HB0.out.size)
 have HB := hid (HB0.out.trans (hb.mono HB0.out.size))
 clear ho hb
 go_wp2_with fail
 go_ret
 exact ⟨_, rfl, HO.out, HB.out⟩
theorem rst7_32 (v : V) (hk : v.k = 32) (H : TellRs v) (x : X) (w : World) (hx : Is w v x) : Gives 49 #[x.v] w v.o.st := by
 have HH := hid fun w' (hb : Below w.heap.size w w') => H x w' (Is.below hb _ _ hx)
 obtain ⟨xka, xkc, xla, xlc, rfl, -, -, -, hrow⟩ := hx.open
 have HB0 := bxP w v xka xkc xla xlc
 simp only [X.v] at HH ⊢
 clear H
 generalize v.o.st = T at *
 rw [hk] at HB0 HH ⊢
 clear hx hk hrow
 generalize v.nm = nm, v.n = n, v.s = s, v.ks.length = kn, v.l.length = ln at *
 go_enter Tryz.func49, Tryz.ntmps49
 go_wp2_with fail
 refine (HH.out _ HB0.out).mono ?_
 rintro e w2 ⟨v2, rfl, ho, hb⟩
 obtain ⟨A2, c2, rfl, -, -⟩ := ho.rd
 have HO := hid (ho.mono HB0.out.size)
 have HB := hid (HB0.out.trans (hb.mono HB0.out.size))
 clear ho hb
 go_wp2_with fail
 go_ret
 exact ⟨_, rfl, HO.out, HB.out⟩
theorem rst7_33 (v : V) (hk : v.k = 33) (H : TellRs v) (x : X) (w : World) (hx : Is w v x) : Gives 49 #[x.v] w v.o.st := by
 have HH := hid fun w' (hb : Below w.heap.size w w') => H x w' (Is.below hb _ _ hx)
 obtain ⟨xka, xkc, xla, xlc, rfl, -, -, -, hrow⟩ := hx.open
 have HB0 := bxP w v xka xkc xla xlc
 simp only [X.v] at HH ⊢
 clear H
 generalize v.o.st = T at *
 rw [hk] at HB0 HH ⊢
 clear hx hk hrow
 generalize v.nm = nm, v.n = n, v.s = s, v.ks.length = kn, v.l.length = ln at *
 go_enter Tryz.func49, Tryz.ntmps49
 go_wp2_with fail
 refine (HH.out _ HB0.out).mono ?_
 rintro e w2 ⟨v2, rfl, ho, hb⟩
 obtain ⟨A2, c2, rfl, -, -⟩ := ho.rd
 have HO := hid (ho.mono HB0.out.size)
 have HB := hid (HB0.out.trans (hb.mono HB0.out.size))
 clear ho hb
 go_wp2_with fail
 go_ret
 exact ⟨_, rfl, HO.out, HB.out⟩
theorem rst7_34 (v : V) (hk : v.k = 34) (H : TellRs v) (x : X) (w : World) (hx : Is w v x) : Gives 49 #[x.v] w v.o.st := by
 have HH := hid fun w' (hb : Below w.heap.size w w') => H x w' (Is.below hb _ _ hx)
 obtain ⟨xka, xkc, xla, xlc, rfl, -, -, -, hrow⟩ := hx.open
 have HB0 := bxP w v xka xkc xla xlc
 simp only [X.v] at HH ⊢
 clear H
 generalize v.o.st = T at *
 rw [hk] at HB0 HH ⊢
 clear hx hk hrow
 generalize v.nm = nm, v.n = n, v.s = s, v.ks.length = kn, v.l.length = ln at *
 go_enter Tryz.func49, Tryz.ntmps49
 go_wp2_with fail
 refine (HH.out _ HB0.out).mono ?_
 rintro e w2 ⟨v2, rfl, ho, hb⟩
 obtain ⟨A2, c2, rfl, -, -⟩ := ho.rd
 have HO := hid (ho.mono HB0.out.size)
 have HB := hid (HB0.out.trans (hb.mono HB0.out.size))
 clear ho hb
 go_wp2_with fail
 go_ret
 exact ⟨_, rfl, HO.out, HB.out⟩
theorem rst7_35 (v : V) (hk : v.k = 35) (H : TellRs v) (x : X) (w : World) (hx : Is w v x) : Gives 49 #[x.v] w v.o.st := by
 have HH := hid fun w' (hb : Below w.heap.size w w') => H x w' (Is.below hb _ _ hx)
 obtain ⟨xka, xkc, xla, xlc, rfl, -, -, -, hrow⟩ := hx.open
 have HB0 := bxP w v xka xkc xla xlc
 simp only [X.v] at HH ⊢
 clear H
 generalize v.o.st = T at *
 rw [hk] at HB0 HH ⊢
 clear hx hk hrow
 generalize v.nm = nm, v.n = n, v.s = s, v.ks.length = kn, v.l.length = ln at *
 go_enter Tryz.func49, Tryz.ntmps49
 go_wp2_with fail
 refine (HH.out _ HB0.out).mono ?_
 rintro e w2 ⟨v2, rfl, ho, hb⟩
 obtain ⟨A2, c2, rfl, -, -⟩ := ho.rd
 have HO := hid (ho.mono HB0.out.size)
 have HB := hid (HB0.out.trans (hb.mono HB0.out.size))
 clear ho hb
 go_wp2_with fail
 go_ret
 exact ⟨_, rfl, HO.out, HB.out⟩
theorem rst7_36 (v : V) (hk : v.k = 36) (H : TellRs v) (x : X) (w : World) (hx : Is w v x) : Gives 49 #[x.v] w v.o.st := by
 have HH := hid fun w' (hb : Below w.heap.size w w') => H x w' (Is.below hb _ _ hx)
 obtain ⟨xka, xkc, xla, xlc, rfl, -, -, -, hrow⟩ := hx.open
 have HB0 := bxP w v xka xkc xla xlc
 simp only [X.v] at HH ⊢
 clear H
 generalize v.o.st = T at *
 rw [hk] at HB0 HH ⊢
 clear hx hk hrow
 generalize v.nm = nm, v.n = n, v.s = s, v.ks.length = kn, v.l.length = ln at *
 go_enter Tryz.func49, Tryz.ntmps49
 go_wp2_with fail
 refine (HH.out _ HB0.out).mono ?_
 rintro e w2 ⟨v2, rfl, ho, hb⟩
 obtain ⟨A2, c2, rfl, -, -⟩ := ho.rd
 have HO := hid (ho.mono HB0.out.size)
 have HB := hid (HB0.out.trans (hb.mono HB0.out.size))
 clear ho hb
 go_wp2_with fail
 go_ret
 exact ⟨_, rfl, HO.out, HB.out⟩
theorem rst7_38 (v : V) (hk : v.k = 38) (H : TellRs v) (x : X) (w : World) (hx : Is w v x) : Gives 49 #[x.v] w v.o.st := by
 have HH := hid fun w' (hb : Below w.heap.size w w') => H x w' (Is.below hb _ _ hx)
 obtain ⟨xka, xkc, xla, xlc, rfl, -, -, -, hrow⟩ := hx.open
 have HB0 := bxP w v xka xkc xla xlc
 simp only [X.v] at HH ⊢
 clear H
 generalize v.o.st = T at *
 rw [hk] at HB0 HH ⊢
 clear hx hk hrow
 generalize v.nm = nm, v.n = n, v.s = s, v.ks.length = kn, v.l.length = ln at *
 go_enter Tryz.func49, Tryz.ntmps49
 go_wp2_with fail
 refine (HH.out _ HB0.out).mono ?_
 rintro e w2 ⟨v2, rfl, ho, hb⟩
 obtain ⟨A2, c2, rfl, -, -⟩ := ho.rd
 have HO := hid (ho.mono HB0.out.size)
 have HB := hid (HB0.out.trans (hb.mono HB0.out.size))
 clear ho hb
 go_wp2_with fail
 go_ret
 exact ⟨_, rfl, HO.out, HB.out⟩
theorem rst7_39 (v : V) (hk : v.k = 39) (H : TellFc v) (x : X) (w : World) (hx : Is w v x) : Gives 49 #[x.v] w v.o.st := by
 have HT : v.o.st = func v.nm v.ks (v.l.map V.o) := by rw [o_st, hk]; rfl
 have HH := hid fun w' (hb : Below w.heap.size w w') => H x w' (Is.below hb _ _ hx)
 obtain ⟨xka, xkc, xla, xlc, rfl, -, -, -, hrow⟩ := hx.open
 have HB0 := bxP w v xka xkc xla xlc
 simp only [X.v] at HH ⊢
 clear H
 rw [← HT] at HH
 clear HT
 generalize v.o.st = T at *
 rw [hk] at HB0 HH ⊢
 clear hx hk hrow
 generalize v.nm = nm, v.n = n, v.s = s, v.ks.length = kn, v.l.length = ln at *
 go_enter Tryz.func49, Tryz.ntmps49
 go_wp2_with fail
 refine (HH.out _ HB0.out).mono ?_
 rintro e w2 ⟨v2, rfl, ho, hb⟩
 obtain ⟨A2, c2, rfl, -, -⟩ := ho.rd
 have HO := hid (ho.mono HB0.out.size)
 have HB := hid (HB0.out.trans (hb.mono HB0.out.size))
 clear ho hb
 go_wp2_with fail
 go_ret
 exact ⟨_, rfl, HO.out, HB.out⟩
theorem rst7_25 (v : V) (hk : v.k = 25) (hb0 : v.bulk ≤ 4194304) (hT0 : (stmts (v.l.map V.o)).length ≤ 8796093000000) (H : ∀ u ∈ v.l, TellS u) (x : X) (w : World) (hx : Is w v x) : Gives 49 #[x.v] w v.o.st := by
 have HT : v.o.st = block (v.l.map V.o) := by rw [o_st, hk]; rfl
 obtain ⟨xka, xkc, xla, xlc, rfl, -, -, -, hrow⟩ := hx.open
 have HH := hid fun w' (hb : Below w.heap.size w w') => refBraces_of v.l xla xlc w' (RowB.below hrow hb) H (by have := length_le_bulks v.l; have := bulk_ge v; omega) hT0
 have HB0 := bxP w v xka xkc xla xlc
 simp only [X.v] at HH ⊢
 clear H hT0 hb0
 rw [← HT] at HH
 clear HT
 generalize v.o.st = T at *
 rw [hk] at HB0 ⊢
 clear hx hk hrow
 generalize v.nm = nm, v.n = n, v.s = s, v.ks.length = kn, v.l.length = ln at *
 go_enter Tryz.func49, Tryz.ntmps49
 go_wp2_with fail
 refine (HH.out _ HB0.out).mono ?_
 rintro e w2 ⟨v2, rfl, ho, hb⟩
 obtain ⟨A2, c2, rfl, -, -⟩ := ho.rd
 have HO := hid (ho.mono HB0.out.size)
 have HB := hid (HB0.out.trans (hb.mono HB0.out.size))
 clear ho hb
 go_wp2_with fail
 go_ret
 exact ⟨_, rfl, HO.out, HB.out⟩
theorem rrs_31 (v : V) (hk : v.k = 31) (_hl : v.l = []) (x : X) (w : World) (hx : Is w v x) : Gives 101 #[x.v] w v.o.st := by
 have HT : v.o.st = ⟨#[98, 114, 101, 97, 107]⟩ :: (some1 v.nm ++ (([] : List V).flatMap (fun u => u.o.at 0 false) ++ [⟨#[59]⟩])) := by rw [o_st, hk]; rfl
 have HH := hid fun w' (hb : Below w.heap.size w w') => word_of ⟨#[98, 114, 101, 97, 107]⟩ v.nm [] none 0 w' (.inl rfl) (by simp) (by simp) (by simp)
 obtain ⟨xka, xkc, xla, xlc, rfl, -, -, -, hrow⟩ := hx.open
 have HB0 := bxP w v xka xkc xla xlc
 simp only [X.v] at HH ⊢
 clear _hl
 rw [← HT] at HH
 clear HT
 generalize v.o.st = T at *
 rw [hk] at HB0 ⊢
 clear hx hk hrow
 generalize v.nm = nm, v.n = n, v.s = s, v.ks.length = kn, v.l.length = ln at *
 go_enter Tryz.func101, Tryz.ntmps101
 go_wp2_with fail
 refine (HH.out _ HB0.out).mono ?_
 rintro e w2 ⟨v2, rfl, ho, hb⟩
 obtain ⟨A2, c2, rfl, -, -⟩ := ho.rd
 have HO := hid (ho.mono HB0.out.size)
 have HB := hid (HB0.out.trans (hb.mono HB0.out.size))
 clear ho hb
 go_wp2_with fail
 go_ret
 exact ⟨_, rfl, HO.out, HB.out⟩
theorem rrs_32 (v : V) (hk : v.k = 32) (_hl : v.l = []) (x : X) (w : World) (hx : Is w v x) : Gives 101 #[x.v] w v.o.st := by
 have HT : v.o.st = ⟨#[99, 111, 110, 116, 105, 110, 117, 101]⟩ :: (some1 v.nm ++ (([] : List V).flatMap (fun u => u.o.at 0 false) ++ [⟨#[59]⟩])) := by rw [o_st, hk]; rfl
 have HH := hid fun w' (hb : Below w.heap.size w w') => word_of ⟨#[99, 111, 110, 116, 105, 110, 117, 101]⟩ v.nm [] none 0 w' (.inl rfl) (by simp) (by simp) (by simp)
 obtain ⟨xka, xkc, xla, xlc, rfl, -, -, -, hrow⟩ := hx.open
 have HB0 := bxP w v xka xkc xla xlc
 simp only [X.v] at HH ⊢
 clear _hl
 rw [← HT] at HH
 clear HT
 generalize v.o.st = T at *
 rw [hk] at HB0 ⊢
 clear hx hk hrow
 generalize v.nm = nm, v.n = n, v.s = s, v.ks.length = kn, v.l.length = ln at *
 go_enter Tryz.func101, Tryz.ntmps101
 go_wp2_with fail
 refine (HH.out _ HB0.out).mono ?_
 rintro e w2 ⟨v2, rfl, ho, hb⟩
 obtain ⟨A2, c2, rfl, -, -⟩ := ho.rd
 have HO := hid (ho.mono HB0.out.size)
 have HB := hid (HB0.out.trans (hb.mono HB0.out.size))
 clear ho hb
 go_wp2_with fail
 go_ret
 exact ⟨_, rfl, HO.out, HB.out⟩
theorem rrs_33 (v : V) (hk : v.k = 33) (hf : Fine v) (hl1 : v.l.length ≤ 1) (H : ∀ u ∈ v.l, TellA u) (x : X) (w : World) (hx : Is w v x) : Gives 101 #[x.v] w v.o.st := by
 have HT : v.o.st = ⟨#[114, 101, 116, 117, 114, 110]⟩ :: (some1 ⟨#[]⟩ ++ (v.l.flatMap (fun u => u.o.at 0 false) ++ [⟨#[59]⟩])) := by
  rw [o_st, hk]
  rcases hl : v.l with _ | ⟨a, _ | ⟨b, r⟩⟩
  ·rfl
  ·simp [stN, valT, some1]
   rfl
  ·rw [hl] at hl1
   simp at hl1
 obtain ⟨xka, xkc, xla, xlc, rfl, -, -, -, hrow⟩ := hx.open
 have HH := hid fun w' (hb : Below w.heap.size w w') => word_of ⟨#[114, 101, 116, 117, 114, 110]⟩ ⟨#[]⟩ v.l xla xlc w' (RowB.below hrow hb) H hl1 (fun u hu => at_len (hf.kid hu) 0 false)
 have HB0 := bxP w v xka xkc xla xlc
 simp only [X.v] at HH ⊢
 clear H hl1 hf
 rw [← HT] at HH
 clear HT
 generalize v.o.st = T at *
 rw [hk] at HB0 ⊢
 clear hx hk hrow
 generalize v.nm = nm, v.n = n, v.s = s, v.ks.length = kn, v.l.length = ln at *
 go_enter Tryz.func101, Tryz.ntmps101
 go_wp2_with fail
 refine (HH.out _ HB0.out).mono ?_
 rintro e w2 ⟨v2, rfl, ho, hb⟩
 obtain ⟨A2, c2, rfl, -, -⟩ := ho.rd
 have HO := hid (ho.mono HB0.out.size)
 have HB := hid (HB0.out.trans (hb.mono HB0.out.size))
 clear ho hb
 go_wp2_with fail
 go_ret
 exact ⟨_, rfl, HO.out, HB.out⟩
theorem rrs_34 (v : V) (hk : v.k = 34) (hf : Fine v) (hl1 : v.l.length ≤ 1) (H : ∀ u ∈ v.l, TellA u) (x : X) (w : World) (hx : Is w v x) : Gives 101 #[x.v] w v.o.st := by
 have HT : v.o.st = ⟨#[116, 104, 114, 111, 119]⟩ :: (some1 ⟨#[]⟩ ++ (v.l.flatMap (fun u => u.o.at 0 false) ++ [⟨#[59]⟩])) := by
  rw [o_st, hk]
  rcases hl : v.l with _ | ⟨a, _ | ⟨b, r⟩⟩
  ·rfl
  ·simp [stN, valT, some1]
   rfl
  ·rw [hl] at hl1
   simp at hl1
 obtain ⟨xka, xkc, xla, xlc, rfl, -, -, -, hrow⟩ := hx.open
 have HH := hid fun w' (hb : Below w.heap.size w w') => word_of ⟨#[116, 104, 114, 111, 119]⟩ ⟨#[]⟩ v.l xla xlc w' (RowB.below hrow hb) H hl1 (fun u hu => at_len (hf.kid hu) 0 false)
 have HB0 := bxP w v xka xkc xla xlc
 simp only [X.v] at HH ⊢
 clear H hl1 hf
 rw [← HT] at HH
 clear HT
 generalize v.o.st = T at *
 rw [hk] at HB0 ⊢
 clear hx hk hrow
 generalize v.nm = nm, v.n = n, v.s = s, v.ks.length = kn, v.l.length = ln at *
 go_enter Tryz.func101, Tryz.ntmps101
 go_wp2_with fail
 refine (HH.out _ HB0.out).mono ?_
 rintro e w2 ⟨v2, rfl, ho, hb⟩
 obtain ⟨A2, c2, rfl, -, -⟩ := ho.rd
 have HO := hid (ho.mono HB0.out.size)
 have HB := hid (HB0.out.trans (hb.mono HB0.out.size))
 clear ho hb
 go_wp2_with fail
 go_ret
 exact ⟨_, rfl, HO.out, HB.out⟩
theorem rst7_40 (v : V) (hk : v.k = 40) (x : X) (w : World) (hx : Is w v x) : Gives 49 #[x.v] w v.o.st := by
 have HT : v.o.st = [⟨#[59]⟩] := by rw [o_st, hk]; rfl
 rw [HT]
 obtain ⟨xka, xkc, xla, xlc, rfl, -, -, -, -⟩ := hx.open
 have HB0 := bxP w v xka xkc xla xlc
 simp only [X.v] at ⊢
 rw [hk] at HB0 ⊢
 clear hx hk HT
 generalize v.nm = nm, v.n = n, v.s = s, v.ks.length = kn, v.l.length = ln at *
 go_enter Tryz.func49, Tryz.ntmps49
 go_wp2_with fail
 refine (one_any _ _).mono ?_
 rintro e w2 ⟨v2, rfl, ho, hb⟩
 obtain ⟨A2, c2, rfl, -, -⟩ := ho.rd
 have HO := hid (ho.mono HB0.out.size)
 have HB := hid (HB0.out.trans (hb.mono HB0.out.size))
 clear ho hb
 go_wp2_with fail
 go_ret
 exact ⟨_, rfl, HO.out, HB.out⟩
theorem rst7_22 (v : V) (hf : Fine v) (hk : v.k = 22) (H : TellVs v) (x : X) (w : World) (hx : Is w v x) : Gives 49 #[x.v] w v.o.st := by
 have HT : Hid (v.o.raw false ++ [⟨#[59]⟩] = v.o.st) := by show _ = _; rw [o_st, o_raw, hk]; rfl
 have HLEN := slP hf
 have HH := hid fun w' (hb : Below w.heap.size w w') => H false x w' (Is.below hb _ _ hx)
 obtain ⟨xka, xkc, xla, xlc, rfl, -, -, -, -⟩ := hx.open
 have HB0 := bxP w v xka xkc xla xlc
 simp only [X.v] at HH ⊢
 generalize v.o.st = T at *
 generalize v.o.raw false = T0 at *
 rw [hk] at HB0 HH ⊢
 clear hx hk H hf
 generalize v.nm = nm, v.n = n, v.s = s, v.ks.length = kn, v.l.length = ln at *
 go_enter Tryz.func49, Tryz.ntmps49
 go_wp2_with fail
 refine (HH.out _ HB0.out).mono ?_
 rintro e w1 ⟨v1, rfl, ho, hb⟩
 obtain ⟨A1, c1, rfl, -, -⟩ := ho.rd
 have HS1 := hid ((PS.start w _ HB0.out).call hb ho)
 clear ho hb
 go_wp2_with fail
 refine (one_any _ _).mono ?_
 rintro e w2 ⟨v2, rfl, ho, hb⟩
 obtain ⟨A2, c2, rfl, -, -⟩ := ho.rd
 have HS2 := hid (HS1.out.call hb ho)
 clear ho hb
 go_wp2_with fail
 refine (join_2 HS2.out (by repeat (first | exact .head _ | refine .tail _ ?_)) (by repeat (first | exact .head _ | refine .tail _ ?_)) HT.out HLEN.out rfl).mono ?_
 rintro e w3 ⟨v3, rfl, ho, hb⟩
 obtain ⟨A3, c3, rfl, -, -⟩ := ho.rd
 have HO := hid ho
 have HB := hid hb
 clear ho hb
 go_wp2_with fail
 go_ret
 exact ⟨_, rfl, HO.out, HB.out⟩
theorem rst7_24 (v a : V) (hf : Fine v) (hk : v.k = 24) (hl : v.l = [a]) (H0B : TellB a) (x : X) (w : World) (hx : Is w v x) : Gives 49 #[x.v] w v.o.st := by
 have HLEN := slP hf
 have HT : Hid (bareT (a.o.at 0 false) ++ [⟨#[59]⟩] = v.o.st) := by
  show _ = _
  rw [o_st v, hk, hl]
  show _ = _
  all_goals first | rfl | (simp [stN]; done) | simp [stN, headT]
 obtain ⟨xka, xkc, xla, xlc, rfl, -, -, -, hrow⟩ := hx.open
 obtain ⟨W0, hW0, HB0, HF⟩ := boxP w v xka xkc xla xlc
 have HW0 := hid hW0
 obtain ⟨g, o, y0, rfl, hg, hy0⟩ := kid_at hrow 0 (by rw [hl]; simp)
 have e0 : v.l[0]'(by rw [hl]; simp) = a := by simp [hl]
 have HY0 : Hid (∀ w', Below w.heap.size w w' → At w' g (o) y0) := fun w' hb => (hy0 w' hb).1
 have HI0 := kidI hy0 e0
 have hlen : v.l.length = 1 := by rw [hl]; rfl
 have HB0' := hid fun w' (hb : Below w.heap.size w w') => H0B y0 w' (HI0.out w' hb)
 simp only [X.v] at HB0' ⊢
 rw [hk, hlen] at HF HW0 ⊢
 clear hx hf hW0 hrow hk hl hg hlen e0 hy0 H0B
 clear HI0
 obtain ⟨yk0, ynm0, yn0, ys0, yka0, ykn0, ykc0, yla0, yln0, ylc0⟩ := y0
 generalize v.o.st = T, v.nm = nm, v.n = n, v.s = s, v.ks.length = kn at *
 obtain ⟨c00, c01, c02, c03, c04, c05⟩ := (HY0.out W0 HB0.out).six
 obtain ⟨i0, i1, i2, i3, i4, i5⟩ := (HF.out W0 (Below.refl _ _)).six
 go_enter Tryz.func49, Tryz.ntmps49
 go_upto_region 1 with (fail)
 rw [HW0.out]
 clear HW0
 go_wp2_with fail
 have hS0 := PS.start W0 W0 (Below.refl _ _)
 refine (HB0'.out _ HB0.out).mono ?_
 rintro e w1 ⟨v1, rfl, ho, hb⟩
 obtain ⟨A1, c1, rfl, -, -⟩ := ho.rd
 have HS1 := hid (hS0.call hb ho)
 clear ho hb hS0 i0 i1 i2 i3 i4 i5 c00 c01 c02 c03 c04 c05
 go_wp2_with fail
 refine (one_any _ _).mono ?_
 rintro e w2 ⟨v2, rfl, ho, hb⟩
 obtain ⟨A2, c2, rfl, -, -⟩ := ho.rd
 have HS2 := hid (HS1.out.call hb ho)
 clear ho hb
 go_wp2_with fail
 refine (join_2 HS2.out (by repeat (first | exact .head _ | refine .tail _ ?_)) (by repeat (first | exact .head _ | refine .tail _ ?_)) HT.out HLEN.out rfl).mono ?_
 rintro e w3 ⟨v3, rfl, ho, hb⟩
 obtain ⟨A3, c3, rfl, -, -⟩ := ho.rd
 have HO := hid (ho.mono HB0.out.size)
 have HB := hid (HB0.out.trans (hb.mono HB0.out.size))
 clear ho hb
 go_wp2_with fail
 go_ret
 exact ⟨_, rfl, HO.out, HB.out⟩
theorem rst7_26a (v a b : V) (hf : Fine v) (hk : v.k = 26) (hl : v.l = [a, b]) (H0H : TellA a) (H1S : TellS b) (x : X) (w : World) (hx : Is w v x) : Gives 49 #[x.v] w v.o.st := by
 have HLEN := slP hf
 have HT : Hid (headT ⟨#[105, 102]⟩ a.o ++ b.o.st = v.o.st) := by
  show _ = _
  rw [o_st v, hk, hl]
  show _ = _
  all_goals first | rfl | (simp [stN]; done) | simp [stN, headT]
 have HFN0 := hf.kid (u := a) (by rw [hl]; simp)
 obtain ⟨xka, xkc, xla, xlc, rfl, -, -, -, hrow⟩ := hx.open
 obtain ⟨W0, hW0, HB0, HF⟩ := boxP w v xka xkc xla xlc
 have HW0 := hid hW0
 obtain ⟨g, o, y0, rfl, hg, hy0⟩ := kid_at hrow 0 (by rw [hl]; simp)
 obtain ⟨g', o', y1, e, -, hy1⟩ := kid_at hrow 1 (by rw [hl]; simp)
 injection e with e
 injection e with e1 e2
 subst e1 e2
 have e0 : v.l[0]'(by rw [hl]; simp) = a := by simp [hl]
 have HY0 : Hid (∀ w', Below w.heap.size w w' → At w' g (o) y0) := fun w' hb => (hy0 w' hb).1
 have HI0 := kidI hy0 e0
 have e1 : v.l[1]'(by rw [hl]; simp) = b := by simp [hl]
 have HY1 : Hid (∀ w', Below w.heap.size w w' → At w' g (o + 6) y1) := fun w' hb => (hy1 w' hb).1
 have HI1 := kidI hy1 e1
 have hlen : v.l.length = 2 := by rw [hl]; rfl
 have HH0 : Hid (∀ s w', Below w.heap.size w w' → Gives 97 #[.string s, y0.v] w' (headT s a.o)) := fun s w' hb => head_of' a HFN0 s H0H y0 w' (HI0.out w' hb)
 have HS1 := hid fun w' (hb : Below w.heap.size w w') => H1S y1 w' (HI1.out w' hb)
 simp only [X.v] at HH0 HS1 ⊢
 rw [hk, hlen] at HF HW0 ⊢
 clear hx hf hW0 hrow hk hl hg hlen e0 hy0 e1 hy1 H0H H1S
 clear HFN0
 clear HI0 HI1
 obtain ⟨yk0, ynm0, yn0, ys0, yka0, ykn0, ykc0, yla0, yln0, ylc0⟩ := y0
 obtain ⟨yk1, ynm1, yn1, ys1, yka1, ykn1, ykc1, yla1, yln1, ylc1⟩ := y1
 generalize v.o.st = T, v.nm = nm, v.n = n, v.s = s, v.ks.length = kn at *
 obtain ⟨i0, i1, i2, i3, i4, i5⟩ := (HF.out W0 (Below.refl _ _)).six
 go_enter Tryz.func49, Tryz.ntmps49
 go_upto_region 1 with (fail)
 rw [HW0.out]
 clear HW0
 go_wp2_with fail
 have hS := psP W0
 go_region_held3 (fun w' => (w'.cell? ⟨g, o, none⟩ = some (.int .i64 yk0) ∧ w'.cell? ⟨g, o + 1, none⟩ = some (.string ynm0) ∧ w'.cell? ⟨g, o + 2, none⟩ = some (.int .i64 yn0) ∧ w'.cell? ⟨g, o + 3, none⟩ = some (.string ys0) ∧ w'.cell? ⟨g, o + 4, none⟩ = some (.slice yka0 ykn0 ykc0) ∧ w'.cell? ⟨g, o + 5, none⟩ = some (.slice yla0 yln0 ylc0)) ∧ (w'.cell? ⟨g, o + 6, none⟩ = some (.int .i64 yk1) ∧ w'.cell? ⟨g, o + 6 + 1, none⟩ = some (.string ynm1) ∧ w'.cell? ⟨g, o + 6 + 2, none⟩ = some (.int .i64 yn1) ∧ w'.cell? ⟨g, o + 6 + 3, none⟩ = some (.string ys1) ∧ w'.cell? ⟨g, o + 6 + 4, none⟩ = some (.slice yka1 ykn1 ykc1) ∧ w'.cell? ⟨g, o + 6 + 5, none⟩ = some (.slice yla1 yln1 ylc1))) (with_reducible exact (fun (hB : Below W0.heap.size W0 _) => ⟨(HY0.out _ (HB0.out.trans (hB.mono HB0.out.size))).six, (HY1.out _ (HB0.out.trans (hB.mono HB0.out.size))).six⟩) (by with_reducible first | exact hS.b | exact hS.bal _))
  ((first
   | (go_at_call 97; (with_reducible refine (HH0.out _ _ ?cz).mono ?_); (case cz => exact HB0.out.trans (hS.b.mono HB0.out.size)); rintro e w2 ⟨v2, rfl, ho, hb⟩; obtain ⟨A2, c2, rfl, -, -⟩ := ho.rd; replace hS := hS.call hb ho; clear ho hb)
   | (go_at_call 49; (with_reducible refine (HS1.out _ ?cz).mono ?_); (case cz => exact HB0.out.trans (hS.b.mono HB0.out.size)); rintro e w2 ⟨v2, rfl, ho, hb⟩; obtain ⟨A2, c2, rfl, -, -⟩ := ho.rd; replace hS := hS.call hb ho; clear ho hb)
   | (go_at_call 48; (refine (join_2 hS ?c1 ?c2 HT.out HLEN.out ?cg).mono ?_); (case cg => first | rfl | simp); (case c1 => repeat (first | exact .head _ | refine .tail _ ?_)); (case c2 => repeat (first | exact .head _ | refine .tail _ ?_)); rintro e w2 ⟨v2, rfl, ho, hb⟩; obtain ⟨A2, c2, rfl, -, -⟩ := ho.rd; replace hS := PS.start _ _ hb)))
 clear hS
 have HO := hid (ho.mono HB0.out.size)
 have HB := hid (HB0.out.trans (hb.mono HB0.out.size))
 clear ho hb i0 i1 i2 i3 i4 i5
 go_wp2_with fail
 go_ret
 exact ⟨_, rfl, HO.out, HB.out⟩
theorem rst7_26b (v a b c : V) (hf : Fine v) (hk : v.k = 26) (hl : v.l = [a, b, c]) (H0H : TellA a) (H1S : TellS b) (H2S : TellS c) (x : X) (w : World) (hx : Is w v x) : Gives 49 #[x.v] w v.o.st := by
 have HLEN := slP hf
 have HT : Hid ((headT ⟨#[105, 102]⟩ a.o ++ b.o.st) ++ ([⟨#[101, 108, 115, 101]⟩] ++ c.o.st) = v.o.st) := by
  show _ = _
  rw [o_st v, hk, hl]
  show _ = _
  all_goals first | rfl | (simp [stN]; done) | simp [stN, headT]
 have HFN0 := hf.kid (u := a) (by rw [hl]; simp)
 obtain ⟨xka, xkc, xla, xlc, rfl, -, -, -, hrow⟩ := hx.open
 obtain ⟨W0, hW0, HB0, HF⟩ := boxP w v xka xkc xla xlc
 have HW0 := hid hW0
 obtain ⟨g, o, y0, rfl, hg, hy0⟩ := kid_at hrow 0 (by rw [hl]; simp)
 obtain ⟨g', o', y1, e, -, hy1⟩ := kid_at hrow 1 (by rw [hl]; simp)
 injection e with e
 injection e with e1 e2
 subst e1 e2
 obtain ⟨g', o', y2, e, -, hy2⟩ := kid_at hrow 2 (by rw [hl]; simp)
 injection e with e
 injection e with e1 e2
 subst e1 e2
 have e0 : v.l[0]'(by rw [hl]; simp) = a := by simp [hl]
 have HY0 : Hid (∀ w', Below w.heap.size w w' → At w' g (o) y0) := fun w' hb => (hy0 w' hb).1
 have HI0 := kidI hy0 e0
 have e1 : v.l[1]'(by rw [hl]; simp) = b := by simp [hl]
 have HY1 : Hid (∀ w', Below w.heap.size w w' → At w' g (o + 6) y1) := fun w' hb => (hy1 w' hb).1
 have HI1 := kidI hy1 e1
 have e2 : v.l[2]'(by rw [hl]; simp) = c := by simp [hl]
 have HY2 : Hid (∀ w', Below w.heap.size w w' → At w' g (o + 12) y2) := fun w' hb => (hy2 w' hb).1
 have HI2 := kidI hy2 e2
 have hlen : v.l.length = 3 := by rw [hl]; rfl
 have HH0 : Hid (∀ s w', Below w.heap.size w w' → Gives 97 #[.string s, y0.v] w' (headT s a.o)) := fun s w' hb => head_of' a HFN0 s H0H y0 w' (HI0.out w' hb)
 have HS1 := hid fun w' (hb : Below w.heap.size w w') => H1S y1 w' (HI1.out w' hb)
 have HS2 := hid fun w' (hb : Below w.heap.size w w') => H2S y2 w' (HI2.out w' hb)
 simp only [X.v] at HH0 HS1 HS2 ⊢
 rw [hk, hlen] at HF HW0 ⊢
 clear hx hf hW0 hrow hk hl hg hlen e0 hy0 e1 hy1 e2 hy2 H0H H1S H2S
 clear HFN0
 obtain ⟨T1, hT1⟩ : ∃ T1, headT ⟨#[105, 102]⟩ a.o ++ b.o.st = T1 := ⟨_, rfl⟩
 have HT1 := hid hT1
 rw [hT1] at HT
 have HL1 : Hid (T1.length ≤ 8796093020000) := hid (by have h1 := HLEN.out; rw [← HT.out, List.length_append] at h1; omega)
 clear hT1
 clear HI0 HI1 HI2
 obtain ⟨yk0, ynm0, yn0, ys0, yka0, ykn0, ykc0, yla0, yln0, ylc0⟩ := y0
 obtain ⟨yk1, ynm1, yn1, ys1, yka1, ykn1, ykc1, yla1, yln1, ylc1⟩ := y1
 obtain ⟨yk2, ynm2, yn2, ys2, yka2, ykn2, ykc2, yla2, yln2, ylc2⟩ := y2
 generalize v.o.st = T, v.nm = nm, v.n = n, v.s = s, v.ks.length = kn at *
 obtain ⟨i0, i1, i2, i3, i4, i5⟩ := (HF.out W0 (Below.refl _ _)).six
 go_enter Tryz.func49, Tryz.ntmps49
 go_upto_region 1 with (fail)
 rw [HW0.out]
 clear HW0
 go_wp2_with fail
 have hS := psP W0
 go_region_held3 (fun w' => (w'.cell? ⟨g, o, none⟩ = some (.int .i64 yk0) ∧ w'.cell? ⟨g, o + 1, none⟩ = some (.string ynm0) ∧ w'.cell? ⟨g, o + 2, none⟩ = some (.int .i64 yn0) ∧ w'.cell? ⟨g, o + 3, none⟩ = some (.string ys0) ∧ w'.cell? ⟨g, o + 4, none⟩ = some (.slice yka0 ykn0 ykc0) ∧ w'.cell? ⟨g, o + 5, none⟩ = some (.slice yla0 yln0 ylc0)) ∧ (w'.cell? ⟨g, o + 6, none⟩ = some (.int .i64 yk1) ∧ w'.cell? ⟨g, o + 6 + 1, none⟩ = some (.string ynm1) ∧ w'.cell? ⟨g, o + 6 + 2, none⟩ = some (.int .i64 yn1) ∧ w'.cell? ⟨g, o + 6 + 3, none⟩ = some (.string ys1) ∧ w'.cell? ⟨g, o + 6 + 4, none⟩ = some (.slice yka1 ykn1 ykc1) ∧ w'.cell? ⟨g, o + 6 + 5, none⟩ = some (.slice yla1 yln1 ylc1))) (with_reducible exact (fun (hB : Below W0.heap.size W0 _) => ⟨(HY0.out _ (HB0.out.trans (hB.mono HB0.out.size))).six, (HY1.out _ (HB0.out.trans (hB.mono HB0.out.size))).six⟩) (by with_reducible first | exact hS.b | exact hS.bal _))
  ((first
   | (go_at_call 97; (with_reducible refine (HH0.out _ _ ?cz).mono ?_); (case cz => exact HB0.out.trans (hS.b.mono HB0.out.size)); rintro e w2 ⟨v2, rfl, ho, hb⟩; obtain ⟨A2, c2, rfl, -, -⟩ := ho.rd; replace hS := hS.call hb ho; clear ho hb)
   | (go_at_call 49; (with_reducible refine (HS1.out _ ?cz).mono ?_); (case cz => exact HB0.out.trans (hS.b.mono HB0.out.size)); rintro e w2 ⟨v2, rfl, ho, hb⟩; obtain ⟨A2, c2, rfl, -, -⟩ := ho.rd; replace hS := hS.call hb ho; clear ho hb)
   | (go_at_call 48; (refine (join_2 hS ?c1 ?c2 HT1.out HL1.out ?cg).mono ?_); (case cg => first | rfl | simp); (case c1 => repeat (first | exact .head _ | refine .tail _ ?_)); (case c2 => repeat (first | exact .head _ | refine .tail _ ?_)); rintro e w2 ⟨v2, rfl, ho, hb⟩; obtain ⟨A2, c2, rfl, -, -⟩ := ho.rd; replace hS := PS.start _ _ hb)))
 clear hS
 have HSP := hid ((PS.start W0 _ hb).add ho)
 clear ho hb i0 i1 i2 i3 i4 i5
 obtain ⟨i0, i1, i2, i3, i4, i5⟩ := (HF.out _ HSP.out.b).six
 go_wp2_with fail
 have hS := HSP.out.drew
 go_region_held3 (fun w' => w'.cell? ⟨g, o + 12, none⟩ = some (.int .i64 yk2) ∧ w'.cell? ⟨g, o + 12 + 1, none⟩ = some (.string ynm2) ∧ w'.cell? ⟨g, o + 12 + 2, none⟩ = some (.int .i64 yn2) ∧ w'.cell? ⟨g, o + 12 + 3, none⟩ = some (.string ys2) ∧ w'.cell? ⟨g, o + 12 + 4, none⟩ = some (.slice yka2 ykn2 ykc2) ∧ w'.cell? ⟨g, o + 12 + 5, none⟩ = some (.slice yla2 yln2 ylc2)) (with_reducible exact (fun (hB : Below W0.heap.size W0 _) => (HY2.out _ (HB0.out.trans (hB.mono HB0.out.size))).six) (by with_reducible first | exact hS.b | exact hS.bal _))
  ((first
   | (go_at_call 94; (with_reducible refine (one_any _ _).mono ?_); rintro e w2 ⟨v2, rfl, ho, hb⟩; obtain ⟨A2, c2, rfl, -, -⟩ := ho.rd; replace hS := hS.call hb ho; clear ho hb)
   | (go_at_call 49; (with_reducible refine (HS2.out _ ?cz).mono ?_); (case cz => exact HB0.out.trans (hS.b.mono HB0.out.size)); rintro e w2 ⟨v2, rfl, ho, hb⟩; obtain ⟨A2, c2, rfl, -, -⟩ := ho.rd; replace hS := hS.call hb ho; clear ho hb)
   | (go_at_call 48; (refine (join_3 hS ?c1 ?c2 ?c3 HT.out HLEN.out ?cg).mono ?_); (case cg => first | rfl | simp); (case c1 => repeat (first | exact .head _ | refine .tail _ ?_)); (case c2 => repeat (first | exact .head _ | refine .tail _ ?_)); (case c3 => repeat (first | exact .head _ | refine .tail _ ?_)); rintro e w2 ⟨v2, rfl, ho, hb⟩; obtain ⟨A2, c2, rfl, -, -⟩ := ho.rd; replace hS := PS.start _ _ hb)))
 clear hS
 have HO := hid (ho.mono HB0.out.size)
 have HB := hid (HB0.out.trans (hb.mono HB0.out.size))
 clear ho hb i0 i1 i2 i3 i4 i5
 go_wp2_with fail
 go_ret
 exact ⟨_, rfl, HO.out, HB.out⟩
theorem rst7_27 (v a b : V) (hf : Fine v) (hk : v.k = 27) (hl : v.l = [a, b]) (H0H : TellA a) (H1S : TellS b) (x : X) (w : World) (hx : Is w v x) : Gives 49 #[x.v] w v.o.st := by
 have HLEN := slP hf
 have HT : Hid (headT ⟨#[119, 104, 105, 108, 101]⟩ a.o ++ b.o.st = v.o.st) := by
  show _ = _
  rw [o_st v, hk, hl]
  show _ = _
  all_goals first | rfl | (simp [stN]; done) | simp [stN, headT]
 have HFN0 := hf.kid (u := a) (by rw [hl]; simp)
 obtain ⟨xka, xkc, xla, xlc, rfl, -, -, -, hrow⟩ := hx.open
 obtain ⟨W0, hW0, HB0, HF⟩ := boxP w v xka xkc xla xlc
 have HW0 := hid hW0
 obtain ⟨g, o, y0, rfl, hg, hy0⟩ := kid_at hrow 0 (by rw [hl]; simp)
 obtain ⟨g', o', y1, e, -, hy1⟩ := kid_at hrow 1 (by rw [hl]; simp)
 injection e with e
 injection e with e1 e2
 subst e1 e2
 have e0 : v.l[0]'(by rw [hl]; simp) = a := by simp [hl]
 have HY0 : Hid (∀ w', Below w.heap.size w w' → At w' g (o) y0) := fun w' hb => (hy0 w' hb).1
 have HI0 := kidI hy0 e0
 have e1 : v.l[1]'(by rw [hl]; simp) = b := by simp [hl]
 have HY1 : Hid (∀ w', Below w.heap.size w w' → At w' g (o + 6) y1) := fun w' hb => (hy1 w' hb).1
 have HI1 := kidI hy1 e1
 have hlen : v.l.length = 2 := by rw [hl]; rfl
 have HH0 : Hid (∀ s w', Below w.heap.size w w' → Gives 97 #[.string s, y0.v] w' (headT s a.o)) := fun s w' hb => head_of' a HFN0 s H0H y0 w' (HI0.out w' hb)
 have HS1 := hid fun w' (hb : Below w.heap.size w w') => H1S y1 w' (HI1.out w' hb)
 simp only [X.v] at HH0 HS1 ⊢
 rw [hk, hlen] at HF HW0 ⊢
 clear hx hf hW0 hrow hk hl hg hlen e0 hy0 e1 hy1 H0H H1S
 clear HFN0
 clear HI0 HI1
 obtain ⟨yk0, ynm0, yn0, ys0, yka0, ykn0, ykc0, yla0, yln0, ylc0⟩ := y0
 obtain ⟨yk1, ynm1, yn1, ys1, yka1, ykn1, ykc1, yla1, yln1, ylc1⟩ := y1
 generalize v.o.st = T, v.nm = nm, v.n = n, v.s = s, v.ks.length = kn at *
 obtain ⟨i0, i1, i2, i3, i4, i5⟩ := (HF.out W0 (Below.refl _ _)).six
 go_enter Tryz.func49, Tryz.ntmps49
 go_upto_region 1 with (fail)
 rw [HW0.out]
 clear HW0
 go_wp2_with fail
 have hS := psP W0
 go_region_held3 (fun w' => (w'.cell? ⟨g, o, none⟩ = some (.int .i64 yk0) ∧ w'.cell? ⟨g, o + 1, none⟩ = some (.string ynm0) ∧ w'.cell? ⟨g, o + 2, none⟩ = some (.int .i64 yn0) ∧ w'.cell? ⟨g, o + 3, none⟩ = some (.string ys0) ∧ w'.cell? ⟨g, o + 4, none⟩ = some (.slice yka0 ykn0 ykc0) ∧ w'.cell? ⟨g, o + 5, none⟩ = some (.slice yla0 yln0 ylc0)) ∧ (w'.cell? ⟨g, o + 6, none⟩ = some (.int .i64 yk1) ∧ w'.cell? ⟨g, o + 6 + 1, none⟩ = some (.string ynm1) ∧ w'.cell? ⟨g, o + 6 + 2, none⟩ = some (.int .i64 yn1) ∧ w'.cell? ⟨g, o + 6 + 3, none⟩ = some (.string ys1) ∧ w'.cell? ⟨g, o + 6 + 4, none⟩ = some (.slice yka1 ykn1 ykc1) ∧ w'.cell? ⟨g, o + 6 + 5, none⟩ = some (.slice yla1 yln1 ylc1))) (with_reducible exact (fun (hB : Below W0.heap.size W0 _) => ⟨(HY0.out _ (HB0.out.trans (hB.mono HB0.out.size))).six, (HY1.out _ (HB0.out.trans (hB.mono HB0.out.size))).six⟩) (by with_reducible first | exact hS.b | exact hS.bal _))
  ((first
   | (go_at_call 97; (with_reducible refine (HH0.out _ _ ?cz).mono ?_); (case cz => exact HB0.out.trans (hS.b.mono HB0.out.size)); rintro e w2 ⟨v2, rfl, ho, hb⟩; obtain ⟨A2, c2, rfl, -, -⟩ := ho.rd; replace hS := hS.call hb ho; clear ho hb)
   | (go_at_call 49; (with_reducible refine (HS1.out _ ?cz).mono ?_); (case cz => exact HB0.out.trans (hS.b.mono HB0.out.size)); rintro e w2 ⟨v2, rfl, ho, hb⟩; obtain ⟨A2, c2, rfl, -, -⟩ := ho.rd; replace hS := hS.call hb ho; clear ho hb)
   | (go_at_call 48; (refine (join_2 hS ?c1 ?c2 HT.out HLEN.out ?cg).mono ?_); (case cg => first | rfl | simp); (case c1 => repeat (first | exact .head _ | refine .tail _ ?_)); (case c2 => repeat (first | exact .head _ | refine .tail _ ?_)); rintro e w2 ⟨v2, rfl, ho, hb⟩; obtain ⟨A2, c2, rfl, -, -⟩ := ho.rd; replace hS := PS.start _ _ hb)))
 clear hS
 have HO := hid (ho.mono HB0.out.size)
 have HB := hid (HB0.out.trans (hb.mono HB0.out.size))
 clear ho hb i0 i1 i2 i3 i4 i5
 go_wp2_with fail
 go_ret
 exact ⟨_, rfl, HO.out, HB.out⟩
theorem rst7_28 (v a b : V) (hf : Fine v) (hk : v.k = 28) (hl : v.l = [a, b]) (H0S : TellS a) (H1H : TellA b) (x : X) (w : World) (hx : Is w v x) : Gives 49 #[x.v] w v.o.st := by
 have HLEN := slP hf
 have HT : Hid ([⟨#[100, 111]⟩] ++ (a.o.st ++ (headT ⟨#[119, 104, 105, 108, 101]⟩ b.o ++ [⟨#[59]⟩])) = v.o.st) := by
  show _ = _
  rw [o_st v, hk, hl]
  show _ = _
  all_goals first | rfl | (simp [stN]; done) | simp [stN, headT]
 have HFN1 := hf.kid (u := b) (by rw [hl]; simp)
 obtain ⟨xka, xkc, xla, xlc, rfl, -, -, -, hrow⟩ := hx.open
 obtain ⟨W0, hW0, HB0, HF⟩ := boxP w v xka xkc xla xlc
 have HW0 := hid hW0
 obtain ⟨g, o, y0, rfl, hg, hy0⟩ := kid_at hrow 0 (by rw [hl]; simp)
 obtain ⟨g', o', y1, e, -, hy1⟩ := kid_at hrow 1 (by rw [hl]; simp)
 injection e with e
 injection e with e1 e2
 subst e1 e2
 have e0 : v.l[0]'(by rw [hl]; simp) = a := by simp [hl]
 have HY0 : Hid (∀ w', Below w.heap.size w w' → At w' g (o) y0) := fun w' hb => (hy0 w' hb).1
 have HI0 := kidI hy0 e0
 have e1 : v.l[1]'(by rw [hl]; simp) = b := by simp [hl]
 have HY1 : Hid (∀ w', Below w.heap.size w w' → At w' g (o + 6) y1) := fun w' hb => (hy1 w' hb).1
 have HI1 := kidI hy1 e1
 have hlen : v.l.length = 2 := by rw [hl]; rfl
 have HS0 := hid fun w' (hb : Below w.heap.size w w') => H0S y0 w' (HI0.out w' hb)
 have HH1 : Hid (∀ s w', Below w.heap.size w w' → Gives 97 #[.string s, y1.v] w' (headT s b.o)) := fun s w' hb => head_of' b HFN1 s H1H y1 w' (HI1.out w' hb)
 simp only [X.v] at HS0 HH1 ⊢
 rw [hk, hlen] at HF HW0 ⊢
 clear hx hf hW0 hrow hk hl hg hlen e0 hy0 e1 hy1 H0S H1H
 clear HFN1
 clear HI0 HI1
 obtain ⟨yk0, ynm0, yn0, ys0, yka0, ykn0, ykc0, yla0, yln0, ylc0⟩ := y0
 obtain ⟨yk1, ynm1, yn1, ys1, yka1, ykn1, ykc1, yla1, yln1, ylc1⟩ := y1
 generalize v.o.st = T, v.nm = nm, v.n = n, v.s = s, v.ks.length = kn at *
 obtain ⟨i0, i1, i2, i3, i4, i5⟩ := (HF.out W0 (Below.refl _ _)).six
 go_enter Tryz.func49, Tryz.ntmps49
 go_upto_region 1 with (fail)
 rw [HW0.out]
 clear HW0
 go_wp2_with fail
 have hS := psP W0
 go_region_held3 (fun w' => (w'.cell? ⟨g, o, none⟩ = some (.int .i64 yk0) ∧ w'.cell? ⟨g, o + 1, none⟩ = some (.string ynm0) ∧ w'.cell? ⟨g, o + 2, none⟩ = some (.int .i64 yn0) ∧ w'.cell? ⟨g, o + 3, none⟩ = some (.string ys0) ∧ w'.cell? ⟨g, o + 4, none⟩ = some (.slice yka0 ykn0 ykc0) ∧ w'.cell? ⟨g, o + 5, none⟩ = some (.slice yla0 yln0 ylc0)) ∧ (w'.cell? ⟨g, o + 6, none⟩ = some (.int .i64 yk1) ∧ w'.cell? ⟨g, o + 6 + 1, none⟩ = some (.string ynm1) ∧ w'.cell? ⟨g, o + 6 + 2, none⟩ = some (.int .i64 yn1) ∧ w'.cell? ⟨g, o + 6 + 3, none⟩ = some (.string ys1) ∧ w'.cell? ⟨g, o + 6 + 4, none⟩ = some (.slice yka1 ykn1 ykc1) ∧ w'.cell? ⟨g, o + 6 + 5, none⟩ = some (.slice yla1 yln1 ylc1))) (with_reducible exact (fun (hB : Below W0.heap.size W0 _) => ⟨(HY0.out _ (HB0.out.trans (hB.mono HB0.out.size))).six, (HY1.out _ (HB0.out.trans (hB.mono HB0.out.size))).six⟩) (by with_reducible first | exact hS.b | exact hS.bal _))
  ((first
   | (go_at_call 94; (with_reducible refine (one_any _ _).mono ?_); rintro e w2 ⟨v2, rfl, ho, hb⟩; obtain ⟨A2, c2, rfl, -, -⟩ := ho.rd; replace hS := hS.call hb ho; clear ho hb)
   | (go_at_call 49; (with_reducible refine (HS0.out _ ?cz).mono ?_); (case cz => exact HB0.out.trans (hS.b.mono HB0.out.size)); rintro e w2 ⟨v2, rfl, ho, hb⟩; obtain ⟨A2, c2, rfl, -, -⟩ := ho.rd; replace hS := hS.call hb ho; clear ho hb)
   | (go_at_call 97; (with_reducible refine (HH1.out _ _ ?cz).mono ?_); (case cz => exact HB0.out.trans (hS.b.mono HB0.out.size)); rintro e w2 ⟨v2, rfl, ho, hb⟩; obtain ⟨A2, c2, rfl, -, -⟩ := ho.rd; replace hS := hS.call hb ho; clear ho hb)
   | (go_at_call 48; (refine (join_4 hS ?c1 ?c2 ?c3 ?c4 HT.out HLEN.out ?cg).mono ?_); (case cg => first | rfl | simp); (case c1 => repeat (first | exact .head _ | refine .tail _ ?_)); (case c2 => repeat (first | exact .head _ | refine .tail _ ?_)); (case c3 => repeat (first | exact .head _ | refine .tail _ ?_)); (case c4 => repeat (first | exact .head _ | refine .tail _ ?_)); rintro e w2 ⟨v2, rfl, ho, hb⟩; obtain ⟨A2, c2, rfl, -, -⟩ := ho.rd; replace hS := PS.start _ _ hb)))
 clear hS
 have HO := hid (ho.mono HB0.out.size)
 have HB := hid (HB0.out.trans (hb.mono HB0.out.size))
 clear ho hb i0 i1 i2 i3 i4 i5
 go_wp2_with fail
 go_ret
 exact ⟨_, rfl, HO.out, HB.out⟩
theorem rrs_35b (v a b c : V) (hf : Fine v) (hk : v.k = 35) (hl : v.l = [a, b, c]) (H0S : TellS a) (H1S : TellS b) (hb1 : b.k = 25) (hc1 : ¬ c.k = 25) (x : X) (w : World) (hx : Is w v x) : Gives 101 #[x.v] w v.o.st := by
 have HLEN := slP hf
 have HT : Hid ((([⟨#[116, 114, 121]⟩] ++ a.o.st) ++ ([⟨#[99, 97, 116, 99, 104]⟩, ⟨#[40]⟩, v.nm, ⟨#[41]⟩] ++ b.o.st)) = v.o.st) := by
  show _ = _
  rw [o_st v, hk, hl]
  show _ = _
  show _ = ⟨#[116, 114, 121]⟩ :: (a.o.st ++ ((if b.o.k = 25 then _ else _) ++ (if c.o.k = 25 then _ else _)))
  rw [o_k, o_k, if_pos hb1, if_neg hc1]
  all_goals (try simp)
  all_goals first | rfl | (simp [stN]; done) | simp [stN, headT]
 obtain ⟨xka, xkc, xla, xlc, rfl, -, -, -, hrow⟩ := hx.open
 obtain ⟨W0, hW0, HB0, HF⟩ := boxP w v xka xkc xla xlc
 have HW0 := hid hW0
 obtain ⟨g, o, y0, rfl, hg, hy0⟩ := kid_at hrow 0 (by rw [hl]; simp)
 obtain ⟨g', o', y1, e, -, hy1⟩ := kid_at hrow 1 (by rw [hl]; simp)
 injection e with e
 injection e with e1 e2
 subst e1 e2
 obtain ⟨g', o', y2, e, -, hy2⟩ := kid_at hrow 2 (by rw [hl]; simp)
 injection e with e
 injection e with e1 e2
 subst e1 e2
 have e0 : v.l[0]'(by rw [hl]; simp) = a := by simp [hl]
 have HY0 : Hid (∀ w', Below w.heap.size w w' → At w' g (o) y0) := fun w' hb => (hy0 w' hb).1
 have HI0 := kidI hy0 e0
 have e1 : v.l[1]'(by rw [hl]; simp) = b := by simp [hl]
 have HY1 : Hid (∀ w', Below w.heap.size w w' → At w' g (o + 6) y1) := fun w' hb => (hy1 w' hb).1
 have HI1 := kidI hy1 e1
 have e2 : v.l[2]'(by rw [hl]; simp) = c := by simp [hl]
 have HY2 : Hid (∀ w', Below w.heap.size w w' → At w' g (o + 12) y2) := fun w' hb => (hy2 w' hb).1
 have HI2 := kidI hy2 e2
 have hlen : v.l.length = 3 := by rw [hl]; rfl
 have HS0 := hid fun w' (hb : Below w.heap.size w w') => H0S y0 w' (HI0.out w' hb)
 have HS1 := hid fun w' (hb : Below w.heap.size w w') => H1S y1 w' (HI1.out w' hb)
 simp only [X.v] at HS0 HS1 ⊢
 rw [hk, hlen] at HF HW0 ⊢
 clear hx hf hW0 hrow hk hl hg hlen e0 hy0 e1 hy1 e2 hy2 H0S H1S
 have hy1k : y1.k = 25 := by rw [((isB_iff _ _ _ _).1 (HI1.out w (Below.refl _ _))).1.1]; exact hb1
 clear hb1
 have hy2k : ¬ y2.k = 25 := by rw [((isB_iff _ _ _ _).1 (HI2.out w (Below.refl _ _))).1.1]; exact hc1
 have hy2q : (y2.k == 25) = false := by rw [beq_eq_false_iff_ne]; exact hy2k
 clear hc1 hy2k
 obtain ⟨T1, hT1⟩ : ∃ T1, [⟨#[116, 114, 121]⟩] ++ a.o.st = T1 := ⟨_, rfl⟩
 have HT1 := hid hT1
 rw [hT1] at HT
 clear hT1
 have hlt := HLEN.out
 rw [← HT.out] at hlt
 simp only [List.length_append] at hlt
 have HL1 : Hid (T1.length ≤ 8796093020000) := hid (by omega)
 clear hlt
 clear HI0 HI1 HI2
 obtain ⟨yk0, ynm0, yn0, ys0, yka0, ykn0, ykc0, yla0, yln0, ylc0⟩ := y0
 obtain ⟨yk1, ynm1, yn1, ys1, yka1, ykn1, ykc1, yla1, yln1, ylc1⟩ := y1
 obtain ⟨yk2, ynm2, yn2, ys2, yka2, ykn2, ykc2, yla2, yln2, ylc2⟩ := y2
 dsimp only at hy1k
 subst hy1k
 dsimp only at hy2q
 generalize v.o.st = T, v.nm = nm, v.n = n, v.s = s, v.ks.length = kn at *
 obtain ⟨i0, i1, i2, i3, i4, i5⟩ := (HF.out W0 (Below.refl _ _)).six
 go_enter Tryz.func101, Tryz.ntmps101
 go_upto_region 1 with (fail)
 rw [HW0.out]
 clear HW0
 go_wp2_with fail
 have hS := psP W0
 go_region_held3 (fun w' => w'.cell? ⟨g, o, none⟩ = some (.int .i64 yk0) ∧ w'.cell? ⟨g, o + 1, none⟩ = some (.string ynm0) ∧ w'.cell? ⟨g, o + 2, none⟩ = some (.int .i64 yn0) ∧ w'.cell? ⟨g, o + 3, none⟩ = some (.string ys0) ∧ w'.cell? ⟨g, o + 4, none⟩ = some (.slice yka0 ykn0 ykc0) ∧ w'.cell? ⟨g, o + 5, none⟩ = some (.slice yla0 yln0 ylc0)) (with_reducible exact (fun (hB : Below W0.heap.size W0 _) => (HY0.out _ (HB0.out.trans (hB.mono HB0.out.size))).six) (by with_reducible first | exact hS.b | exact hS.bal _))
  ((first
   | (go_at_call 94; (with_reducible refine (one_any _ _).mono ?_); rintro e w2 ⟨v2, rfl, ho, hb⟩; obtain ⟨A2, c2, rfl, -, -⟩ := ho.rd; replace hS := hS.call hb ho; clear ho hb)
   | (go_at_call 49; (with_reducible refine (HS0.out _ ?cz).mono ?_); (case cz => exact HB0.out.trans (hS.b.mono HB0.out.size)); rintro e w2 ⟨v2, rfl, ho, hb⟩; obtain ⟨A2, c2, rfl, -, -⟩ := ho.rd; replace hS := hS.call hb ho; clear ho hb)
   | (go_at_call 48; (refine (join_2 hS ?c1 ?c2 HT1.out HL1.out ?cg).mono ?_); (case cg => first | rfl | simp); (case c1 => repeat (first | exact .head _ | refine .tail _ ?_)); (case c2 => repeat (first | exact .head _ | refine .tail _ ?_)); rintro e w2 ⟨v2, rfl, ho, hb⟩; obtain ⟨A2, c2, rfl, -, -⟩ := ho.rd; replace hS := PS.start _ _ hb)))
 clear hS
 have HSP := hid ((PS.start W0 _ hb).add ho)
 clear ho hb i0 i1 i2 i3 i4 i5
 obtain ⟨i0, i1, i2, i3, i4, i5⟩ := (HF.out _ HSP.out.b).six
 obtain ⟨c10, c11, c12, c13, c14, c15⟩ := (HY1.out _ (HB0.out.trans (HSP.out.b.mono HB0.out.size))).six
 go_wp2_with fail
 have hS := HSP.out.drew
 go_region_held3 (fun w' => (w'.cell? ⟨w.heap.size, 0, none⟩ = some (.int .i64 35) ∧ w'.cell? ⟨w.heap.size, 0 + 1, none⟩ = some (.string nm) ∧ w'.cell? ⟨w.heap.size, 0 + 2, none⟩ = some (.int .i64 n) ∧ w'.cell? ⟨w.heap.size, 0 + 3, none⟩ = some (.string s) ∧ w'.cell? ⟨w.heap.size, 0 + 4, none⟩ = some (.slice xka kn xkc) ∧ w'.cell? ⟨w.heap.size, 0 + 5, none⟩ = some (.slice (some ⟨g, o, none⟩) 3 xlc)) ∧ (w'.cell? ⟨g, o + 6, none⟩ = some (.int .i64 25) ∧ w'.cell? ⟨g, o + 6 + 1, none⟩ = some (.string ynm1) ∧ w'.cell? ⟨g, o + 6 + 2, none⟩ = some (.int .i64 yn1) ∧ w'.cell? ⟨g, o + 6 + 3, none⟩ = some (.string ys1) ∧ w'.cell? ⟨g, o + 6 + 4, none⟩ = some (.slice yka1 ykn1 ykc1) ∧ w'.cell? ⟨g, o + 6 + 5, none⟩ = some (.slice yla1 yln1 ylc1))) (with_reducible exact (fun (hB : Below W0.heap.size W0 _) => ⟨(HF.out _ hB).six, (HY1.out _ (HB0.out.trans (hB.mono HB0.out.size))).six⟩) (by with_reducible first | exact hS.b | exact hS.bal _ | exact hS.bald _ | exact hS.bal2 _ _ | exact hS.bald2 _ _))
  ((first
   | (go_at_call 49; (with_reducible refine (HS1.out _ ?cz).mono ?_); (case cz => first | (with_reducible exact HB0.out.trans (hS.b.mono HB0.out.size)) | (with_reducible exact HB0.out.trans (hS.lit4.b.mono HB0.out.size)) | (with_reducible exact HB0.out.trans (hS.lit4d.b.mono HB0.out.size))); rintro e w2 ⟨v2, rfl, ho, hb⟩; obtain ⟨A2, c2, rfl, -, -⟩ := ho.rd; (first | (with_reducible replace hS := hS.call hb ho) | (with_reducible replace hS := hS.lit4.call hb ho) | (with_reducible replace hS := hS.lit4d.call hb ho)); clear ho hb)
   | (go_at_call 48; (first | (with_reducible (refine (join_3 hS ?c1 ?c2 ?c3 HT.out HLEN.out ?cg).mono ?_)) | (with_reducible refine (join_3 hS.lit4 ?c1 ?c2 ?c3 HT.out HLEN.out ?cg).mono ?_)); (case cg => first | rfl | simp); (case c1 => repeat (first | exact .head _ | refine .tail _ ?_)); (case c2 => repeat (first | exact .head _ | refine .tail _ ?_)); (case c3 => repeat (first | exact .head _ | refine .tail _ ?_)); rintro e w2 ⟨v2, rfl, ho, hb⟩; obtain ⟨A2, c2, rfl, -, -⟩ := ho.rd; replace hS := PS.start _ _ hb)))
 clear hS
 all_goals
  obtain ⟨c20, c21, c22, c23, c24, c25⟩ := (HY2.out _ (HB0.out.trans (hb.mono HB0.out.size))).six
  have HO := hid (ho.mono HB0.out.size)
  have HB := hid (HB0.out.trans (hb.mono HB0.out.size))
  clear ho hb i0 i1 i2 i3 i4 i5 c10 c11 c12 c13 c14 c15
  go_wp2_with fail
  go_ret
  exact ⟨_, rfl, HO.out, HB.out⟩
theorem rrs_35c (v a b c : V) (hf : Fine v) (hk : v.k = 35) (hl : v.l = [a, b, c]) (H0S : TellS a) (H2S : TellS c) (hb1 : ¬ b.k = 25) (hc1 : c.k = 25) (x : X) (w : World) (hx : Is w v x) : Gives 101 #[x.v] w v.o.st := by
 have HLEN := slP hf
 have HT : Hid ((([⟨#[116, 114, 121]⟩] ++ a.o.st) ++ ([⟨#[102, 105, 110, 97, 108, 108, 121]⟩] ++ c.o.st)) = v.o.st) := by
  show _ = _
  rw [o_st v, hk, hl]
  show _ = _
  show _ = ⟨#[116, 114, 121]⟩ :: (a.o.st ++ ((if b.o.k = 25 then _ else _) ++ (if c.o.k = 25 then _ else _)))
  rw [o_k, o_k, if_neg hb1, if_pos hc1]
  all_goals (try simp)
  all_goals first | rfl | (simp [stN]; done) | simp [stN, headT]
 obtain ⟨xka, xkc, xla, xlc, rfl, -, -, -, hrow⟩ := hx.open
 obtain ⟨W0, hW0, HB0, HF⟩ := boxP w v xka xkc xla xlc
 have HW0 := hid hW0
 obtain ⟨g, o, y0, rfl, hg, hy0⟩ := kid_at hrow 0 (by rw [hl]; simp)
 obtain ⟨g', o', y1, e, -, hy1⟩ := kid_at hrow 1 (by rw [hl]; simp)
 injection e with e
 injection e with e1 e2
 subst e1 e2
 obtain ⟨g', o', y2, e, -, hy2⟩ := kid_at hrow 2 (by rw [hl]; simp)
 injection e with e
 injection e with e1 e2
 subst e1 e2
 have e0 : v.l[0]'(by rw [hl]; simp) = a := by simp [hl]
 have HY0 : Hid (∀ w', Below w.heap.size w w' → At w' g (o) y0) := fun w' hb => (hy0 w' hb).1
 have HI0 := kidI hy0 e0
 have e1 : v.l[1]'(by rw [hl]; simp) = b := by simp [hl]
 have HY1 : Hid (∀ w', Below w.heap.size w w' → At w' g (o + 6) y1) := fun w' hb => (hy1 w' hb).1
 have HI1 := kidI hy1 e1
 have e2 : v.l[2]'(by rw [hl]; simp) = c := by simp [hl]
 have HY2 : Hid (∀ w', Below w.heap.size w w' → At w' g (o + 12) y2) := fun w' hb => (hy2 w' hb).1
 have HI2 := kidI hy2 e2
 have hlen : v.l.length = 3 := by rw [hl]; rfl
 have HS0 := hid fun w' (hb : Below w.heap.size w w') => H0S y0 w' (HI0.out w' hb)
 have HS2 := hid fun w' (hb : Below w.heap.size w w') => H2S y2 w' (HI2.out w' hb)
 simp only [X.v] at HS0 HS2 ⊢
 rw [hk, hlen] at HF HW0 ⊢
 clear hx hf hW0 hrow hk hl hg hlen e0 hy0 e1 hy1 e2 hy2 H0S H2S
 have hy1k : ¬ y1.k = 25 := by rw [((isB_iff _ _ _ _).1 (HI1.out w (Below.refl _ _))).1.1]; exact hb1
 have hy1q : (y1.k == 25) = false := by rw [beq_eq_false_iff_ne]; exact hy1k
 clear hb1 hy1k
 have hy2k : y2.k = 25 := by rw [((isB_iff _ _ _ _).1 (HI2.out w (Below.refl _ _))).1.1]; exact hc1
 clear hc1
 obtain ⟨T1, hT1⟩ : ∃ T1, [⟨#[116, 114, 121]⟩] ++ a.o.st = T1 := ⟨_, rfl⟩
 have HT1 := hid hT1
 rw [hT1] at HT
 clear hT1
 have hlt := HLEN.out
 rw [← HT.out] at hlt
 simp only [List.length_append] at hlt
 have HL1 : Hid (T1.length ≤ 8796093020000) := hid (by omega)
 clear hlt
 clear HI0 HI1 HI2
 obtain ⟨yk0, ynm0, yn0, ys0, yka0, ykn0, ykc0, yla0, yln0, ylc0⟩ := y0
 obtain ⟨yk1, ynm1, yn1, ys1, yka1, ykn1, ykc1, yla1, yln1, ylc1⟩ := y1
 obtain ⟨yk2, ynm2, yn2, ys2, yka2, ykn2, ykc2, yla2, yln2, ylc2⟩ := y2
 dsimp only at hy1q
 dsimp only at hy2k
 subst hy2k
 generalize v.o.st = T, v.nm = nm, v.n = n, v.s = s, v.ks.length = kn at *
 obtain ⟨i0, i1, i2, i3, i4, i5⟩ := (HF.out W0 (Below.refl _ _)).six
 go_enter Tryz.func101, Tryz.ntmps101
 go_upto_region 1 with (fail)
 rw [HW0.out]
 clear HW0
 go_wp2_with fail
 have hS := psP W0
 go_region_held3 (fun w' => w'.cell? ⟨g, o, none⟩ = some (.int .i64 yk0) ∧ w'.cell? ⟨g, o + 1, none⟩ = some (.string ynm0) ∧ w'.cell? ⟨g, o + 2, none⟩ = some (.int .i64 yn0) ∧ w'.cell? ⟨g, o + 3, none⟩ = some (.string ys0) ∧ w'.cell? ⟨g, o + 4, none⟩ = some (.slice yka0 ykn0 ykc0) ∧ w'.cell? ⟨g, o + 5, none⟩ = some (.slice yla0 yln0 ylc0)) (with_reducible exact (fun (hB : Below W0.heap.size W0 _) => (HY0.out _ (HB0.out.trans (hB.mono HB0.out.size))).six) (by with_reducible first | exact hS.b | exact hS.bal _))
  ((first
   | (go_at_call 94; (with_reducible refine (one_any _ _).mono ?_); rintro e w2 ⟨v2, rfl, ho, hb⟩; obtain ⟨A2, c2, rfl, -, -⟩ := ho.rd; replace hS := hS.call hb ho; clear ho hb)
   | (go_at_call 49; (with_reducible refine (HS0.out _ ?cz).mono ?_); (case cz => exact HB0.out.trans (hS.b.mono HB0.out.size)); rintro e w2 ⟨v2, rfl, ho, hb⟩; obtain ⟨A2, c2, rfl, -, -⟩ := ho.rd; replace hS := hS.call hb ho; clear ho hb)
   | (go_at_call 48; (refine (join_2 hS ?c1 ?c2 HT1.out HL1.out ?cg).mono ?_); (case cg => first | rfl | simp); (case c1 => repeat (first | exact .head _ | refine .tail _ ?_)); (case c2 => repeat (first | exact .head _ | refine .tail _ ?_)); rintro e w2 ⟨v2, rfl, ho, hb⟩; obtain ⟨A2, c2, rfl, -, -⟩ := ho.rd; replace hS := PS.start _ _ hb)))
 clear hS
 have HSP := hid ((PS.start W0 _ hb).add ho)
 clear ho hb i0 i1 i2 i3 i4 i5
 obtain ⟨i0, i1, i2, i3, i4, i5⟩ := (HF.out _ HSP.out.b).six
 obtain ⟨c10, c11, c12, c13, c14, c15⟩ := (HY1.out _ (HB0.out.trans (HSP.out.b.mono HB0.out.size))).six
 obtain ⟨c20, c21, c22, c23, c24, c25⟩ := (HY2.out _ (HB0.out.trans (HSP.out.b.mono HB0.out.size))).six
 go_wp2_with fail
 have hS := HSP.out.drew
 go_region_held3 (fun w' => w'.cell? ⟨g, o + 12, none⟩ = some (.int .i64 25) ∧ w'.cell? ⟨g, o + 12 + 1, none⟩ = some (.string ynm2) ∧ w'.cell? ⟨g, o + 12 + 2, none⟩ = some (.int .i64 yn2) ∧ w'.cell? ⟨g, o + 12 + 3, none⟩ = some (.string ys2) ∧ w'.cell? ⟨g, o + 12 + 4, none⟩ = some (.slice yka2 ykn2 ykc2) ∧ w'.cell? ⟨g, o + 12 + 5, none⟩ = some (.slice yla2 yln2 ylc2)) (with_reducible exact (fun (hB : Below W0.heap.size W0 _) => (HY2.out _ (HB0.out.trans (hB.mono HB0.out.size))).six) (by with_reducible first | exact hS.b | exact hS.bal _))
  ((first
   | (go_at_call 94; (with_reducible refine (one_any _ _).mono ?_); rintro e w2 ⟨v2, rfl, ho, hb⟩; obtain ⟨A2, c2, rfl, -, -⟩ := ho.rd; replace hS := hS.call hb ho; clear ho hb)
   | (go_at_call 49; (with_reducible refine (HS2.out _ ?cz).mono ?_); (case cz => exact HB0.out.trans (hS.b.mono HB0.out.size)); rintro e w2 ⟨v2, rfl, ho, hb⟩; obtain ⟨A2, c2, rfl, -, -⟩ := ho.rd; replace hS := hS.call hb ho; clear ho hb)
   | (go_at_call 48; (refine (join_3 hS ?c1 ?c2 ?c3 HT.out HLEN.out ?cg).mono ?_); (case cg => first | rfl | simp); (case c1 => repeat (first | exact .head _ | refine .tail _ ?_)); (case c2 => repeat (first | exact .head _ | refine .tail _ ?_)); (case c3 => repeat (first | exact .head _ | refine .tail _ ?_)); rintro e w2 ⟨v2, rfl, ho, hb⟩; obtain ⟨A2, c2, rfl, -, -⟩ := ho.rd; replace hS := PS.start _ _ hb)))
 clear hS
 have HO := hid (ho.mono HB0.out.size)
 have HB := hid (HB0.out.trans (hb.mono HB0.out.size))
 clear ho hb i0 i1 i2 i3 i4 i5 c10 c11 c12 c13 c14 c15 c20 c21 c22 c23 c24 c25
 go_wp2_with fail
 go_ret
 exact ⟨_, rfl, HO.out, HB.out⟩
theorem rrs_35bc (v a b c : V) (hf : Fine v) (hk : v.k = 35) (hl : v.l = [a, b, c]) (H0S : TellS a) (H1S : TellS b) (H2S : TellS c) (hb1 : b.k = 25) (hc1 : c.k = 25) (x : X) (w : World) (hx : Is w v x) : Gives 101 #[x.v] w v.o.st := by
 have HLEN := slP hf
 have HT : Hid (((([⟨#[116, 114, 121]⟩] ++ a.o.st) ++ ([⟨#[99, 97, 116, 99, 104]⟩, ⟨#[40]⟩, v.nm, ⟨#[41]⟩] ++ b.o.st)) ++ ([⟨#[102, 105, 110, 97, 108, 108, 121]⟩] ++ c.o.st)) = v.o.st) := by
  show _ = _
  rw [o_st v, hk, hl]
  show _ = _
  show _ = ⟨#[116, 114, 121]⟩ :: (a.o.st ++ ((if b.o.k = 25 then _ else _) ++ (if c.o.k = 25 then _ else _)))
  rw [o_k, o_k, if_pos hb1, if_pos hc1]
  all_goals (try simp)
  all_goals first | rfl | (simp [stN]; done) | simp [stN, headT]
 obtain ⟨xka, xkc, xla, xlc, rfl, -, -, -, hrow⟩ := hx.open
 obtain ⟨W0, hW0, HB0, HF⟩ := boxP w v xka xkc xla xlc
 have HW0 := hid hW0
 obtain ⟨g, o, y0, rfl, hg, hy0⟩ := kid_at hrow 0 (by rw [hl]; simp)
 obtain ⟨g', o', y1, e, -, hy1⟩ := kid_at hrow 1 (by rw [hl]; simp)
 injection e with e
 injection e with e1 e2
 subst e1 e2
 obtain ⟨g', o', y2, e, -, hy2⟩ := kid_at hrow 2 (by rw [hl]; simp)
 injection e with e
 injection e with e1 e2
 subst e1 e2
 have e0 : v.l[0]'(by rw [hl]; simp) = a := by simp [hl]
 have HY0 : Hid (∀ w', Below w.heap.size w w' → At w' g (o) y0) := fun w' hb => (hy0 w' hb).1
 have HI0 := kidI hy0 e0
 have e1 : v.l[1]'(by rw [hl]; simp) = b := by simp [hl]
 have HY1 : Hid (∀ w', Below w.heap.size w w' → At w' g (o + 6) y1) := fun w' hb => (hy1 w' hb).1
 have HI1 := kidI hy1 e1
 have e2 : v.l[2]'(by rw [hl]; simp) = c := by simp [hl]
 have HY2 : Hid (∀ w', Below w.heap.size w w' → At w' g (o + 12) y2) := fun w' hb => (hy2 w' hb).1
 have HI2 := kidI hy2 e2
 have hlen : v.l.length = 3 := by rw [hl]; rfl
 have HS0 := hid fun w' (hb : Below w.heap.size w w') => H0S y0 w' (HI0.out w' hb)
 have HS1 := hid fun w' (hb : Below w.heap.size w w') => H1S y1 w' (HI1.out w' hb)
 have HS2 := hid fun w' (hb : Below w.heap.size w w') => H2S y2 w' (HI2.out w' hb)
 simp only [X.v] at HS0 HS1 HS2 ⊢
 rw [hk, hlen] at HF HW0 ⊢
 clear hx hf hW0 hrow hk hl hg hlen e0 hy0 e1 hy1 e2 hy2 H0S H1S H2S
 have hy1k : y1.k = 25 := by rw [((isB_iff _ _ _ _).1 (HI1.out w (Below.refl _ _))).1.1]; exact hb1
 clear hb1
 have hy2k : y2.k = 25 := by rw [((isB_iff _ _ _ _).1 (HI2.out w (Below.refl _ _))).1.1]; exact hc1
 clear hc1
 obtain ⟨T1, hT1⟩ : ∃ T1, [⟨#[116, 114, 121]⟩] ++ a.o.st = T1 := ⟨_, rfl⟩
 have HT1 := hid hT1
 rw [hT1] at HT
 clear hT1
 obtain ⟨T2, hT2⟩ : ∃ T2, T1 ++ ([⟨#[99, 97, 116, 99, 104]⟩, ⟨#[40]⟩, v.nm, ⟨#[41]⟩] ++ b.o.st) = T2 := ⟨_, rfl⟩
 have HT2 := hid hT2
 rw [hT2] at HT
 clear hT2
 have hlt := HLEN.out
 rw [← HT.out] at hlt
 simp only [List.length_append] at hlt
 have HL2 : Hid (T2.length ≤ 8796093020000) := hid (by omega)
 have hlt2 := HL2.out
 rw [← HT2.out] at hlt2
 simp only [List.length_append] at hlt2
 have HL1 : Hid (T1.length ≤ 8796093020000) := hid (by omega)
 clear hlt hlt2
 clear HI0 HI1 HI2
 obtain ⟨yk0, ynm0, yn0, ys0, yka0, ykn0, ykc0, yla0, yln0, ylc0⟩ := y0
 obtain ⟨yk1, ynm1, yn1, ys1, yka1, ykn1, ykc1, yla1, yln1, ylc1⟩ := y1
 obtain ⟨yk2, ynm2, yn2, ys2, yka2, ykn2, ykc2, yla2, yln2, ylc2⟩ := y2
 dsimp only at hy1k
 subst hy1k
 dsimp only at hy2k
 subst hy2k
 generalize v.o.st = T, v.nm = nm, v.n = n, v.s = s, v.ks.length = kn at *
 obtain ⟨i0, i1, i2, i3, i4, i5⟩ := (HF.out W0 (Below.refl _ _)).six
 go_enter Tryz.func101, Tryz.ntmps101
 go_upto_region 1 with (fail)
 rw [HW0.out]
 clear HW0
 go_wp2_with fail
 have hS := psP W0
 go_region_held3 (fun w' => w'.cell? ⟨g, o, none⟩ = some (.int .i64 yk0) ∧ w'.cell? ⟨g, o + 1, none⟩ = some (.string ynm0) ∧ w'.cell? ⟨g, o + 2, none⟩ = some (.int .i64 yn0) ∧ w'.cell? ⟨g, o + 3, none⟩ = some (.string ys0) ∧ w'.cell? ⟨g, o + 4, none⟩ = some (.slice yka0 ykn0 ykc0) ∧ w'.cell? ⟨g, o + 5, none⟩ = some (.slice yla0 yln0 ylc0)) (with_reducible exact (fun (hB : Below W0.heap.size W0 _) => (HY0.out _ (HB0.out.trans (hB.mono HB0.out.size))).six) (by with_reducible first | exact hS.b | exact hS.bal _))
  ((first
   | (go_at_call 94; (with_reducible refine (one_any _ _).mono ?_); rintro e w2 ⟨v2, rfl, ho, hb⟩; obtain ⟨A2, c2, rfl, -, -⟩ := ho.rd; replace hS := hS.call hb ho; clear ho hb)
   | (go_at_call 49; (with_reducible refine (HS0.out _ ?cz).mono ?_); (case cz => exact HB0.out.trans (hS.b.mono HB0.out.size)); rintro e w2 ⟨v2, rfl, ho, hb⟩; obtain ⟨A2, c2, rfl, -, -⟩ := ho.rd; replace hS := hS.call hb ho; clear ho hb)
   | (go_at_call 48; (refine (join_2 hS ?c1 ?c2 HT1.out HL1.out ?cg).mono ?_); (case cg => first | rfl | simp); (case c1 => repeat (first | exact .head _ | refine .tail _ ?_)); (case c2 => repeat (first | exact .head _ | refine .tail _ ?_)); rintro e w2 ⟨v2, rfl, ho, hb⟩; obtain ⟨A2, c2, rfl, -, -⟩ := ho.rd; replace hS := PS.start _ _ hb)))
 clear hS
 have HSP := hid ((PS.start W0 _ hb).add ho)
 clear ho hb i0 i1 i2 i3 i4 i5
 obtain ⟨i0, i1, i2, i3, i4, i5⟩ := (HF.out _ HSP.out.b).six
 obtain ⟨c10, c11, c12, c13, c14, c15⟩ := (HY1.out _ (HB0.out.trans (HSP.out.b.mono HB0.out.size))).six
 go_wp2_with fail
 have hS := HSP.out.drew
 go_region_held3 (fun w' => (w'.cell? ⟨w.heap.size, 0, none⟩ = some (.int .i64 35) ∧ w'.cell? ⟨w.heap.size, 0 + 1, none⟩ = some (.string nm) ∧ w'.cell? ⟨w.heap.size, 0 + 2, none⟩ = some (.int .i64 n) ∧ w'.cell? ⟨w.heap.size, 0 + 3, none⟩ = some (.string s) ∧ w'.cell? ⟨w.heap.size, 0 + 4, none⟩ = some (.slice xka kn xkc) ∧ w'.cell? ⟨w.heap.size, 0 + 5, none⟩ = some (.slice (some ⟨g, o, none⟩) 3 xlc)) ∧ (w'.cell? ⟨g, o + 6, none⟩ = some (.int .i64 25) ∧ w'.cell? ⟨g, o + 6 + 1, none⟩ = some (.string ynm1) ∧ w'.cell? ⟨g, o + 6 + 2, none⟩ = some (.int .i64 yn1) ∧ w'.cell? ⟨g, o + 6 + 3, none⟩ = some (.string ys1) ∧ w'.cell? ⟨g, o + 6 + 4, none⟩ = some (.slice yka1 ykn1 ykc1) ∧ w'.cell? ⟨g, o + 6 + 5, none⟩ = some (.slice yla1 yln1 ylc1))) (with_reducible exact (fun (hB : Below W0.heap.size W0 _) => ⟨(HF.out _ hB).six, (HY1.out _ (HB0.out.trans (hB.mono HB0.out.size))).six⟩) (by with_reducible first | exact hS.b | exact hS.bal _ | exact hS.bald _ | exact hS.bal2 _ _ | exact hS.bald2 _ _))
  ((first
   | (go_at_call 49; (with_reducible refine (HS1.out _ ?cz).mono ?_); (case cz => first | (with_reducible exact HB0.out.trans (hS.b.mono HB0.out.size)) | (with_reducible exact HB0.out.trans (hS.lit4.b.mono HB0.out.size)) | (with_reducible exact HB0.out.trans (hS.lit4d.b.mono HB0.out.size))); rintro e w2 ⟨v2, rfl, ho, hb⟩; obtain ⟨A2, c2, rfl, -, -⟩ := ho.rd; (first | (with_reducible replace hS := hS.call hb ho) | (with_reducible replace hS := hS.lit4.call hb ho) | (with_reducible replace hS := hS.lit4d.call hb ho)); clear ho hb)
   | (go_at_call 48; (first | (with_reducible (refine (join_3 hS ?c1 ?c2 ?c3 HT2.out HL2.out ?cg).mono ?_)) | (with_reducible refine (join_3 hS.lit4 ?c1 ?c2 ?c3 HT2.out HL2.out ?cg).mono ?_)); (case cg => first | rfl | simp); (case c1 => repeat (first | exact .head _ | refine .tail _ ?_)); (case c2 => repeat (first | exact .head _ | refine .tail _ ?_)); (case c3 => repeat (first | exact .head _ | refine .tail _ ?_)); rintro e w2 ⟨v2, rfl, ho, hb⟩; obtain ⟨A2, c2, rfl, -, -⟩ := ho.rd; replace hS := PS.start _ _ hb)))
 clear hS
 all_goals
  clear HSP
  have HSP := hid ((PS.start W0 _ hb).add ho)
  clear ho hb i0 i1 i2 i3 i4 i5 c10 c11 c12 c13 c14 c15
  obtain ⟨i0, i1, i2, i3, i4, i5⟩ := (HF.out _ HSP.out.b).six
  obtain ⟨c20, c21, c22, c23, c24, c25⟩ := (HY2.out _ (HB0.out.trans (HSP.out.b.mono HB0.out.size))).six
  go_wp2_with fail
  have hS := HSP.out.drew
  go_region_held3 (fun w' => w'.cell? ⟨g, o + 12, none⟩ = some (.int .i64 25) ∧ w'.cell? ⟨g, o + 12 + 1, none⟩ = some (.string ynm2) ∧ w'.cell? ⟨g, o + 12 + 2, none⟩ = some (.int .i64 yn2) ∧ w'.cell? ⟨g, o + 12 + 3, none⟩ = some (.string ys2) ∧ w'.cell? ⟨g, o + 12 + 4, none⟩ = some (.slice yka2 ykn2 ykc2) ∧ w'.cell? ⟨g, o + 12 + 5, none⟩ = some (.slice yla2 yln2 ylc2)) (with_reducible exact (fun (hB : Below W0.heap.size W0 _) => (HY2.out _ (HB0.out.trans (hB.mono HB0.out.size))).six) (by with_reducible first | exact hS.b | exact hS.bal _))
   ((first
    | (go_at_call 94; (with_reducible refine (one_any _ _).mono ?_); rintro e w2 ⟨v2, rfl, ho, hb⟩; obtain ⟨A2, c2, rfl, -, -⟩ := ho.rd; replace hS := hS.call hb ho; clear ho hb)
    | (go_at_call 49; (with_reducible refine (HS2.out _ ?cz).mono ?_); (case cz => exact HB0.out.trans (hS.b.mono HB0.out.size)); rintro e w2 ⟨v2, rfl, ho, hb⟩; obtain ⟨A2, c2, rfl, -, -⟩ := ho.rd; replace hS := hS.call hb ho; clear ho hb)
    | (go_at_call 48; (refine (join_3 hS ?c1 ?c2 ?c3 HT.out HLEN.out ?cg).mono ?_); (case cg => first | rfl | simp); (case c1 => repeat (first | exact .head _ | refine .tail _ ?_)); (case c2 => repeat (first | exact .head _ | refine .tail _ ?_)); (case c3 => repeat (first | exact .head _ | refine .tail _ ?_)); rintro e w2 ⟨v2, rfl, ho, hb⟩; obtain ⟨A2, c2, rfl, -, -⟩ := ho.rd; replace hS := PS.start _ _ hb)))
  clear hS
  have HO := hid (ho.mono HB0.out.size)
  have HB := hid (HB0.out.trans (hb.mono HB0.out.size))
  clear ho hb i0 i1 i2 i3 i4 i5 c20 c21 c22 c23 c24 c25
  go_wp2_with fail
  go_ret
  exact ⟨_, rfl, HO.out, HB.out⟩
end Go.Proofs.YtllpgoaanbiodaaGreatDoor.R
