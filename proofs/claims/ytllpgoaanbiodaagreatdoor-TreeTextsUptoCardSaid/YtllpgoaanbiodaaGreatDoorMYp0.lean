/-

-/
import Derived.Test.YtllpgoaanbiodaaGreatDoorMYf
import Derived.Test.YtllpgoaanbiodaaGreatDoorMVk
import Derived.Test.YtllpgoaanbiodaaGreatDoorMUC
import Derived.Test.YtllpgoaanbiodaaGreatDoorMSt
set_option maxHeartbeats 8000000
set_option maxRecDepth 20000
namespace Go.Proofs.YtllpgoaanbiodaaGreatDoor.R
open Go.RowKit Go.Proofs.YtllpgoaanbiodaaGreatDoor Go.Proofs.YtllpgoaanbiodaaGreatDoor.T
open Lib (hid)
theorem bxP (w : World) (v : V) (a : Option Addr) (b : Nat) (c : Option Addr) (d : Nat) : Hid (Below w.heap.size w (w.alloc (.cells #[.int .i64 v.k, .string v.nm, .int .i64 v.n, .string v.s, .slice a v.ks.length b, .slice c v.l.length d] 25))) := hid (below_alloc _ _)
theorem boxP (w : World) (v : V) (a : Option Addr) (b : Nat) (c : Option Addr) (d : Nat) : type_of% (box_new w v.k v.nm v.n v.s a v.ks.length b c v.l.length d) := box_new _ _ _ _ _ _ _ _ _ _ _
theorem psP (W : World) : PS W [] W.drew := (PS.start W W (Below.refl _ _)).drew
theorem rlP {v : V} (hf : Fine v) (no : Bool) : Hid ((v.o.raw no).length ≤ 8796093020000) := hid (by have := raw_len hf no; omega)
theorem slP {v : V} (hf : Fine v) : Hid (v.o.st.length ≤ 8796093020000) := hid (by have := st_len hf; omega)
def TellLf (v : V) : Prop := ∀ (no : Bool) (x : X) (w : World), Is w v x → Gives 138 #[x.v] w (v.o.raw no)
theorem leaf_1 (v : V) (hf : Fine v) (hk : v.k = 1) : TellLf v := by
 intro no x w hx
 have HT : v.o.raw no = [dec v.n] := by
  rw [o_raw, hk]
  rfl
 rw [HT]
 clear HT
 have hn := hf.num
 rw [num_1 hk, decide_eq_true_eq] at hn
 obtain ⟨u, hu⟩ := Int.eq_ofNat_of_zero_le hn.1
 have hul : u < 9223372036854775808 := by omega
 have hdc : dec v.n = ⟨(Lib.decDigits u).toArray⟩ := by
  unfold dec Lib.itoa
  rw [hu, if_neg (by omega)]
  rfl
 rw [hdc]
 have HD := hid fun w' => digits_any u u w' (Nat.le_refl _) hul
 clear hdc hn
 obtain ⟨xka, xkc, xla, xlc, rfl, -, -, -, -⟩ := hx.open
 have HB0 := bxP w v xka xkc xla xlc
 simp only [X.v] at ⊢
 rw [hk] at HB0 ⊢
 clear hx hf hk
 generalize v.nm = nm, v.s = s, v.ks.length = kn, v.l.length = ln at *
 rw [hu] at *
 clear hu
 go_enter Tryz.func138, Tryz.ntmps138
 go_wp2_with fail
 refine (HD.out _).mono ?_
 rintro e w1 ⟨rfl, hb1⟩
 have HB1 := hid (HB0.out.trans (hb1.mono HB0.out.size))
 clear hb1
 go_wp2_with fail
 refine (one_any _ _).mono ?_
 rintro e w2 ⟨v2, rfl, ho, hb⟩
 obtain ⟨A2, c2, rfl, -, -⟩ := ho.rd
 have HO := hid (ho.mono HB1.out.size)
 have HB := hid (HB1.out.trans (hb.mono HB1.out.size))
 clear ho hb
 go_wp2_with fail
 go_ret
 exact ⟨_, rfl, HO.out, HB.out⟩
theorem leaf_2 (v : V) (hf : Fine v) (hk : v.k = 2) : TellLf v := by
 intro no x w hx
 have HT : v.o.raw no = [quo v.s] := by
  rw [o_raw, hk]
  rfl
 rw [HT]
 clear HT
 have hs := hf.tx
 rw [tx_2 hk, decide_eq_true_eq] at hs
 have hsl := hf.len.2.2.1
 have hev : (bl v.s).length % 2 = 0 := by rw [size_list]; exact hs
 have HQ := hid fun w' => refQuote_any v.s w' hsl
 rw [quoteRes_even hev] at HQ
 have hqq : (⟨(quote (us v.s.data.toList)).toArray⟩ : ByteArray) = quo v.s := rfl
 rw [hqq] at HQ
 clear hs hsl hev hqq
 obtain ⟨xka, xkc, xla, xlc, rfl, -, -, -, -⟩ := hx.open
 have HB0 := bxP w v xka xkc xla xlc
 simp only [X.v] at ⊢
 rw [hk] at HB0 ⊢
 clear hx hf hk
 generalize v.nm = nm, v.s = s, v.ks.length = kn, v.l.length = ln, v.n = n at *
 generalize quo s = qs at *
 go_enter Tryz.func138, Tryz.ntmps138
 go_wp2_with fail
 refine (HQ.out _).mono ?_
 rintro e w1 ⟨rfl, hb1⟩
 have HB1 := hid (HB0.out.trans (hb1.mono HB0.out.size))
 clear hb1
 go_wp2_with fail
 refine (one_any _ _).mono ?_
 rintro e w2 ⟨v2, rfl, ho, hb⟩
 obtain ⟨A2, c2, rfl, -, -⟩ := ho.rd
 have HO := hid (ho.mono HB1.out.size)
 have HB := hid (HB1.out.trans (hb.mono HB1.out.size))
 clear ho hb
 go_wp2_with fail
 go_ret
 exact ⟨_, rfl, HO.out, HB.out⟩
theorem leaf_3 (v : V) (_hf : Fine v) (hk : v.k = 3) : TellLf v := by
 intro no x w hx
 have HT : v.o.raw no = [v.nm] := by
  rw [o_raw, hk]
  rfl
 rw [HT]
 clear HT
 obtain ⟨xka, xkc, xla, xlc, rfl, -, -, -, -⟩ := hx.open
 have HB0 := bxP w v xka xkc xla xlc
 simp only [X.v] at ⊢
 rw [hk] at HB0 ⊢
 clear hx _hf hk
 generalize v.nm = nm, v.s = s, v.ks.length = kn, v.l.length = ln, v.n = n at *
 go_enter Tryz.func138, Tryz.ntmps138
 go_wp2_with fail
 refine (one_any _ _).mono ?_
 rintro e w2 ⟨v2, rfl, ho, hb⟩
 obtain ⟨A2, c2, rfl, -, -⟩ := ho.rd
 have HO := hid (ho.mono HB0.out.size)
 have HB := hid (HB0.out.trans (hb.mono HB0.out.size))
 clear ho hb
 go_wp2_with fail
 go_ret
 exact ⟨_, rfl, HO.out, HB.out⟩
theorem leaf_4 (v : V) (_hf : Fine v) (hk : v.k = 4) : TellLf v := by
 intro no x w hx
 have HT : v.o.raw no = [⟨#[116, 104, 105, 115]⟩] := by
  rw [o_raw, hk]
  rfl
 rw [HT]
 clear HT
 obtain ⟨xka, xkc, xla, xlc, rfl, -, -, -, -⟩ := hx.open
 have HB0 := bxP w v xka xkc xla xlc
 simp only [X.v] at ⊢
 rw [hk] at HB0 ⊢
 clear hx _hf hk
 generalize v.nm = nm, v.s = s, v.ks.length = kn, v.l.length = ln, v.n = n at *
 go_enter Tryz.func138, Tryz.ntmps138
 go_wp2_with fail
 refine (one_any _ _).mono ?_
 rintro e w2 ⟨v2, rfl, ho, hb⟩
 obtain ⟨A2, c2, rfl, -, -⟩ := ho.rd
 have HO := hid (ho.mono HB0.out.size)
 have HB := hid (HB0.out.trans (hb.mono HB0.out.size))
 clear ho hb
 go_wp2_with fail
 go_ret
 exact ⟨_, rfl, HO.out, HB.out⟩
theorem leaf_5 (v : V) (_hf : Fine v) (hk : v.k = 5) : TellLf v := by
 intro no x w hx
 have HT : v.o.raw no = [⟨#[110, 117, 108, 108]⟩] := by
  rw [o_raw, hk]
  rfl
 rw [HT]
 clear HT
 obtain ⟨xka, xkc, xla, xlc, rfl, -, -, -, -⟩ := hx.open
 have HB0 := bxP w v xka xkc xla xlc
 simp only [X.v] at ⊢
 rw [hk] at HB0 ⊢
 clear hx _hf hk
 generalize v.nm = nm, v.s = s, v.ks.length = kn, v.l.length = ln, v.n = n at *
 go_enter Tryz.func138, Tryz.ntmps138
 go_wp2_with fail
 refine (one_any _ _).mono ?_
 rintro e w2 ⟨v2, rfl, ho, hb⟩
 obtain ⟨A2, c2, rfl, -, -⟩ := ho.rd
 have HO := hid (ho.mono HB0.out.size)
 have HB := hid (HB0.out.trans (hb.mono HB0.out.size))
 clear ho hb
 go_wp2_with fail
 go_ret
 exact ⟨_, rfl, HO.out, HB.out⟩
theorem leaf_6f (v : V) (_hf : Fine v) (hk : v.k = 6) (hn : v.n = 0) : TellLf v := by
 intro no x w hx
 have HT : v.o.raw no = [⟨#[102, 97, 108, 115, 101]⟩] := by
  rw [o_raw, hk]
  show [if v.n = 0 then _ else _] = _
  rw [if_pos hn]
 rw [HT]
 clear HT
 obtain ⟨xka, xkc, xla, xlc, rfl, -, -, -, -⟩ := hx.open
 have HB0 := bxP w v xka xkc xla xlc
 simp only [X.v] at ⊢
 rw [hk] at HB0 ⊢
 clear hx _hf hk
 generalize v.nm = nm, v.s = s, v.ks.length = kn, v.l.length = ln at *
 rw [hn] at *
 clear hn
 go_enter Tryz.func138, Tryz.ntmps138
 go_wp2_with fail
 refine (one_any _ _).mono ?_
 rintro e w2 ⟨v2, rfl, ho, hb⟩
 obtain ⟨A2, c2, rfl, -, -⟩ := ho.rd
 have HO := hid (ho.mono HB0.out.size)
 have HB := hid (HB0.out.trans (hb.mono HB0.out.size))
 clear ho hb
 go_wp2_with fail
 go_ret
 exact ⟨_, rfl, HO.out, HB.out⟩
theorem leaf_6t (v : V) (_hf : Fine v) (hk : v.k = 6) (hn : ¬ v.n = 0) : TellLf v := by
 intro no x w hx
 have HT : v.o.raw no = [⟨#[116, 114, 117, 101]⟩] := by
  rw [o_raw, hk]
  show [if v.n = 0 then _ else _] = _
  rw [if_neg hn]
 rw [HT]
 clear HT
 obtain ⟨xka, xkc, xla, xlc, rfl, -, -, -, -⟩ := hx.open
 have HB0 := bxP w v xka xkc xla xlc
 simp only [X.v] at ⊢
 rw [hk] at HB0 ⊢
 clear hx _hf hk
 generalize v.nm = nm, v.s = s, v.ks.length = kn, v.l.length = ln at *
 have hnq : (v.n == 0) = false := by rw [beq_eq_false_iff_ne]; exact hn
 clear hn
 generalize v.n = n at *
 go_enter Tryz.func138, Tryz.ntmps138
 go_wp2_with fail
 refine (one_any _ _).mono ?_
 rintro e w2 ⟨v2, rfl, ho, hb⟩
 obtain ⟨A2, c2, rfl, -, -⟩ := ho.rd
 have HO := hid (ho.mono HB0.out.size)
 have HB := hid (HB0.out.trans (hb.mono HB0.out.size))
 clear ho hb
 go_wp2_with fail
 go_ret
 exact ⟨_, rfl, HO.out, HB.out⟩
def TellPr (v : V) : Prop := ∀ (no : Bool) (x : X) (w : World), Is w v x → Gives 137 #[x.v] w (v.o.raw no)
def TellFn (v : V) : Prop := ∀ (no : Bool) (x : X) (w : World), Is w v x → Gives 100 #[x.v] w (v.o.raw no)
theorem raw_1 (v : V) (hk : v.k = 1) (H : TellLf v) : TellR v := by
 intro no x w hx
 have HH := hid fun w' (hb : Below w.heap.size w w') => H no x w' (Is.below hb _ _ hx)
 obtain ⟨xka, xkc, xla, xlc, rfl, -, -, -, -⟩ := hx.open
 have HB0 := bxP w v xka xkc xla xlc
 simp only [X.v] at HH ⊢
 generalize v.o.raw no = T at *
 rw [hk] at HB0 HH ⊢
 clear hx hk H
 generalize v.nm = nm, v.n = n, v.s = s, v.ks.length = kn, v.l.length = ln at *
 go_enter Tryz.func129, Tryz.ntmps129
 go_wp2_with fail
 refine (HH.out _ HB0.out).mono ?_
 rintro e w2 ⟨v2, rfl, ho, hb⟩
 obtain ⟨A2, c2, rfl, -, -⟩ := ho.rd
 have HO := hid (ho.mono HB0.out.size)
 have HB := hid (HB0.out.trans (hb.mono HB0.out.size))
 clear ho hb
 go_wp2_with fail
 go_ret
 exact ⟨_, rfl, HO.out, HB.out⟩
theorem raw_2 (v : V) (hk : v.k = 2) (H : TellLf v) : TellR v := by
 intro no x w hx
 have HH := hid fun w' (hb : Below w.heap.size w w') => H no x w' (Is.below hb _ _ hx)
 obtain ⟨xka, xkc, xla, xlc, rfl, -, -, -, -⟩ := hx.open
 have HB0 := bxP w v xka xkc xla xlc
 simp only [X.v] at HH ⊢
 generalize v.o.raw no = T at *
 rw [hk] at HB0 HH ⊢
 clear hx hk H
 generalize v.nm = nm, v.n = n, v.s = s, v.ks.length = kn, v.l.length = ln at *
 go_enter Tryz.func129, Tryz.ntmps129
 go_wp2_with fail
 refine (HH.out _ HB0.out).mono ?_
 rintro e w2 ⟨v2, rfl, ho, hb⟩
 obtain ⟨A2, c2, rfl, -, -⟩ := ho.rd
 have HO := hid (ho.mono HB0.out.size)
 have HB := hid (HB0.out.trans (hb.mono HB0.out.size))
 clear ho hb
 go_wp2_with fail
 go_ret
 exact ⟨_, rfl, HO.out, HB.out⟩
theorem raw_3 (v : V) (hk : v.k = 3) (H : TellLf v) : TellR v := by
 intro no x w hx
 have HH := hid fun w' (hb : Below w.heap.size w w') => H no x w' (Is.below hb _ _ hx)
 obtain ⟨xka, xkc, xla, xlc, rfl, -, -, -, -⟩ := hx.open
 have HB0 := bxP w v xka xkc xla xlc
 simp only [X.v] at HH ⊢
 generalize v.o.raw no = T at *
 rw [hk] at HB0 HH ⊢
 clear hx hk H
 generalize v.nm = nm, v.n = n, v.s = s, v.ks.length = kn, v.l.length = ln at *
 go_enter Tryz.func129, Tryz.ntmps129
 go_wp2_with fail
 refine (HH.out _ HB0.out).mono ?_
 rintro e w2 ⟨v2, rfl, ho, hb⟩
 obtain ⟨A2, c2, rfl, -, -⟩ := ho.rd
 have HO := hid (ho.mono HB0.out.size)
 have HB := hid (HB0.out.trans (hb.mono HB0.out.size))
 clear ho hb
 go_wp2_with fail
 go_ret
 exact ⟨_, rfl, HO.out, HB.out⟩
theorem raw_4 (v : V) (hk : v.k = 4) (H : TellLf v) : TellR v := by
 intro no x w hx
 have HH := hid fun w' (hb : Below w.heap.size w w') => H no x w' (Is.below hb _ _ hx)
 obtain ⟨xka, xkc, xla, xlc, rfl, -, -, -, -⟩ := hx.open
 have HB0 := bxP w v xka xkc xla xlc
 simp only [X.v] at HH ⊢
 generalize v.o.raw no = T at *
 rw [hk] at HB0 HH ⊢
 clear hx hk H
 generalize v.nm = nm, v.n = n, v.s = s, v.ks.length = kn, v.l.length = ln at *
 go_enter Tryz.func129, Tryz.ntmps129
 go_wp2_with fail
 refine (HH.out _ HB0.out).mono ?_
 rintro e w2 ⟨v2, rfl, ho, hb⟩
 obtain ⟨A2, c2, rfl, -, -⟩ := ho.rd
 have HO := hid (ho.mono HB0.out.size)
 have HB := hid (HB0.out.trans (hb.mono HB0.out.size))
 clear ho hb
 go_wp2_with fail
 go_ret
 exact ⟨_, rfl, HO.out, HB.out⟩
theorem raw_5 (v : V) (hk : v.k = 5) (H : TellLf v) : TellR v := by
 intro no x w hx
 have HH := hid fun w' (hb : Below w.heap.size w w') => H no x w' (Is.below hb _ _ hx)
 obtain ⟨xka, xkc, xla, xlc, rfl, -, -, -, -⟩ := hx.open
 have HB0 := bxP w v xka xkc xla xlc
 simp only [X.v] at HH ⊢
 generalize v.o.raw no = T at *
 rw [hk] at HB0 HH ⊢
 clear hx hk H
 generalize v.nm = nm, v.n = n, v.s = s, v.ks.length = kn, v.l.length = ln at *
 go_enter Tryz.func129, Tryz.ntmps129
 go_wp2_with fail
 refine (HH.out _ HB0.out).mono ?_
 rintro e w2 ⟨v2, rfl, ho, hb⟩
 obtain ⟨A2, c2, rfl, -, -⟩ := ho.rd
 have HO := hid (ho.mono HB0.out.size)
 have HB := hid (HB0.out.trans (hb.mono HB0.out.size))
 clear ho hb
 go_wp2_with fail
 go_ret
 exact ⟨_, rfl, HO.out, HB.out⟩
theorem raw_6 (v : V) (hk : v.k = 6) (H : TellLf v) : TellR v := by
 intro no x w hx
 have HH := hid fun w' (hb : Below w.heap.size w w') => H no x w' (Is.below hb _ _ hx)
 obtain ⟨xka, xkc, xla, xlc, rfl, -, -, -, -⟩ := hx.open
 have HB0 := bxP w v xka xkc xla xlc
 simp only [X.v] at HH ⊢
 generalize v.o.raw no = T at *
 rw [hk] at HB0 HH ⊢
 clear hx hk H
 generalize v.nm = nm, v.n = n, v.s = s, v.ks.length = kn, v.l.length = ln at *
 go_enter Tryz.func129, Tryz.ntmps129
 go_wp2_with fail
 refine (HH.out _ HB0.out).mono ?_
 rintro e w2 ⟨v2, rfl, ho, hb⟩
 obtain ⟨A2, c2, rfl, -, -⟩ := ho.rd
 have HO := hid (ho.mono HB0.out.size)
 have HB := hid (HB0.out.trans (hb.mono HB0.out.size))
 clear ho hb
 go_wp2_with fail
 go_ret
 exact ⟨_, rfl, HO.out, HB.out⟩
theorem raw_8 (v : V) (hk : v.k = 8) (H : TellPr v) : TellR v := by
 intro no x w hx
 have HH := hid fun w' (hb : Below w.heap.size w w') => H no x w' (Is.below hb _ _ hx)
 obtain ⟨xka, xkc, xla, xlc, rfl, -, -, -, -⟩ := hx.open
 have HB0 := bxP w v xka xkc xla xlc
 simp only [X.v] at HH ⊢
 generalize v.o.raw no = T at *
 rw [hk] at HB0 HH ⊢
 clear hx hk H
 generalize v.nm = nm, v.n = n, v.s = s, v.ks.length = kn, v.l.length = ln at *
 go_enter Tryz.func129, Tryz.ntmps129
 go_wp2_with fail
 refine (HH.out _ HB0.out).mono ?_
 rintro e w2 ⟨v2, rfl, ho, hb⟩
 obtain ⟨A2, c2, rfl, -, -⟩ := ho.rd
 have HO := hid (ho.mono HB0.out.size)
 have HB := hid (HB0.out.trans (hb.mono HB0.out.size))
 clear ho hb
 go_wp2_with fail
 go_ret
 exact ⟨_, rfl, HO.out, HB.out⟩
theorem raw_10 (v : V) (hk : v.k = 10) (H : TellFn v) : TellR v := by
 intro no x w hx
 have HH := hid fun w' (hb : Below w.heap.size w w') => H no x w' (Is.below hb _ _ hx)
 obtain ⟨xka, xkc, xla, xlc, rfl, -, -, -, -⟩ := hx.open
 have HB0 := bxP w v xka xkc xla xlc
 simp only [X.v] at HH ⊢
 generalize v.o.raw no = T at *
 rw [hk] at HB0 HH ⊢
 clear hx hk H
 generalize v.nm = nm, v.n = n, v.s = s, v.ks.length = kn, v.l.length = ln at *
 go_enter Tryz.func129, Tryz.ntmps129
 go_wp2_with fail
 refine (HH.out _ HB0.out).mono ?_
 rintro e w2 ⟨v2, rfl, ho, hb⟩
 obtain ⟨A2, c2, rfl, -, -⟩ := ho.rd
 have HO := hid (ho.mono HB0.out.size)
 have HB := hid (HB0.out.trans (hb.mono HB0.out.size))
 clear ho hb
 go_wp2_with fail
 go_ret
 exact ⟨_, rfl, HO.out, HB.out⟩
theorem props_of (v : V) (hf : Fine v) (hk : v.k = 8) (H : ∀ u ∈ v.l, ∀ z ∈ u.l, TellA z) : TellPr v := by
 intro no x w hx
 have HLEN := rlP hf no
 have HT : Hid ([⟨#[123]⟩] ++ (commas (v.l.map fun u => u.o.raw false) ++ [⟨#[125]⟩]) = v.o.raw no) := by
  show _ = _
  rw [o_raw, hk]
  simp [rawN, Function.comp_def]
 have hlb := hf.len.1
 have hcl : (commas (v.l.map fun u => u.o.raw false)).length ≤ 8796093000000 := by
  have h1 := raw_len hf no
  rw [← HT.out] at h1
  simp only [List.length_append] at h1
  omega
 have HU : Hid (∀ u ∈ v.l, (u.s.size ≤ 4194304 ∧ (bl u.s).length % 2 = 0) ∧ (u.o.raw false).length ≤ 8796093000000 ∧ ∃ z, u.l = [z] ∧ TellA z ∧ u.o.raw false = [quo u.s, ⟨#[58]⟩] ++ z.o.at 1 false) := fun u hu => by
  have hfu := hf.kid hu
  have hku : u.k = 9 := by
   have h1 := hf.kids
   rw [kids_8 hk, List.all_eq_true] at h1
   exact of_decide_eq_true (h1 u hu)
  have hs := hfu.tx
  rw [tx_9 hku, decide_eq_true_eq] at hs
  have h2 := hfu.kids
  rw [kids_9 hku] at h2
  obtain ⟨z, hz, -⟩ := are1.1 h2
  refine ⟨⟨hfu.len.2.2.1, by rw [size_list]; exact hs⟩, raw_len hfu false, z, hz, H u hu z (by rw [hz]; simp), ?_⟩
  rw [o_raw, hku, hz]
  rfl
 obtain ⟨xka, xkc, xla, xlc, rfl, -, -, -, hrow⟩ := hx.open
 have HR := hid hrow
 obtain ⟨W0, hW0, HB0, HF⟩ := boxP w v xka xkc xla xlc
 have HW0 := hid hW0
 simp only [X.v] at ⊢
 rw [hk] at HF HW0 ⊢
 obtain ⟨CT, hct⟩ : ∃ T, commas (v.l.map fun u => u.o.raw false) = T := ⟨_, rfl⟩
 rw [hct] at HT hcl
 have HCT := hid hct
 have HCL := hid hcl
 clear hx hf hW0 hk hrow H hct hcl
 generalize v.o.raw no = T at *
 generalize v.l = l, v.nm = nm, v.n = n, v.s = s, v.ks.length = kn at *
 obtain ⟨i0, i1, i2, i3, i4, i5⟩ := (HF.out W0 (Below.refl _ _)).six
 go_enter Tryz.func137, Tryz.ntmps137
 go_wp2_with fail
 rw [HW0.out]
 clear HW0 i0 i1 i2 i3 i4 i5
 go_loopw [3, 5, 6, 7, 11] (fun u _ _ _ i wr => ∃ (j : Nat) (ps : Ps), j ≤ l.length ∧ Hid (ps.length = j) ∧ i = .int .i64 j ∧ Hid (texts ps = (l.take j).map fun u => u.o.raw false) ∧ Hid (OwnR wr w.heap.size u ps) ∧ Hid (Below w.heap.size w wr))
  (fun _ _ _ _ i _ => l.length - (intOf i).toNat)
 case atStart => exact ⟨0, [], Nat.zero_le _, hid rfl, rfl, hid rfl, hid (ownR_nil _ _), HB0⟩
 case round =>
  obtain ⟨j, ps, hj, hpj, rfl, hps, ho, hb⟩ := hrel
  by_cases hlt : j < l.length
  ·obtain ⟨g, o, rfl, hg, y, hy, hv⟩ := HR.out.at_ hlt
   obtain ⟨c0, c1, c2, c3, c4, c5⟩ := hy.below hg hb.out
   have HM : Hid (l[j] ∈ l) := hid (List.getElem_mem hlt)
   have HS : Hid ((l.take (j + 1)).map (fun u => u.o.raw false) = texts ps ++ [l[j].o.raw false]) := by
    show _ = _
    rw [snoc_get l j hlt, List.map_append, hps.out]
    rfl
   obtain ⟨⟨hss, hse⟩, hrl, z, hz, hza, hrw⟩ := HU.out l[j] HM.out
   generalize l[j] = u at *
   obtain ⟨yka, ykc, yla, ylc, rfl, -, -, -, hyr⟩ := hv.open
   have HQ := hid fun w' => refQuote_any u.s w' hss
   rw [quoteRes_even hse] at HQ
   rw [show (⟨(quote (us u.s.data.toList)).toArray⟩ : ByteArray) = quo u.s from rfl] at HQ
   obtain ⟨g2, o2, y2, rfl, hg2, hy2⟩ := kid_at hyr 0 (by rw [hz]; simp)
   have ez : u.l[0]'(by rw [hz]; simp) = z := by simp [hz]
   have HYZ : Hid (∀ w', Below w.heap.size w w' → At w' g2 o2 y2) := fun w' hb => by have := (hy2 w' hb).1; rwa [Nat.zero_mul, Nat.add_zero] at this
   have HA : Hid (∀ w', Below w.heap.size w w' → Gives 99 #[y2.v, .int .i64 1, .bool false] w' (z.o.at 1 false)) := fun w' hb => hza 1 1 false y2 w' rfl (by decide) (by have := (hy2 w' hb).2; rwa [ez] at this)
   have hul : u.l.length = 1 := by rw [hz]; rfl
   have HRW := hid hrw.symm
   have HRL : Hid ((u.o.raw false).length ≤ 8796093020000) := hid (by omega)
   dsimp only at c0 c1 c2 c3 c4 c5
   rw [hul] at c5
   have HBX : Hid (∀ w', Below (wr.heap.size + 1) (wr.alloc (.cells #[.int .i64 u.k, .string u.nm, .int .i64 u.n, .string u.s, .slice yka u.ks.length ykc, .slice (some ⟨g2, o2, none⟩) 1 ylc] 25)) w' → At w' wr.heap.size 0 ⟨u.k, u.nm, u.n, u.s, yka, u.ks.length, ykc, some ⟨g2, o2, none⟩, 1, ylc⟩) := fun w' hb' => (at_alloc' wr ⟨u.k, u.nm, u.n, u.s, yka, u.ks.length, ykc, some ⟨g2, o2, none⟩, 1, ylc⟩).below (Nat.lt_succ_self _) hb'
   have HS0 : Hid (PS wr [] (wr.alloc (.cells #[.int .i64 u.k, .string u.nm, .int .i64 u.n, .string u.s, .slice yka u.ks.length ykc, .slice (some ⟨g2, o2, none⟩) 1 ylc] 25))) := hid (PS.start _ _ (below_alloc' _ _))
   have HPL : Hid (ps.length ≤ 4194304) := hid (by have := hpj.out; omega)
   obtain ⟨B, cu, rfl, hcu, -⟩ := ho.out.form
   obtain ⟨zk, znm, zn, zs, zka, zkn, zkc, zla, zln, zlc⟩ := y2
   simp only [X.v] at HA
   generalize u.o.raw false = yt at *
   generalize z.o.at 1 false = zt at *
   generalize quo u.s = qs at *
   generalize u.k = uk at *
   generalize u.nm = unm at *
   generalize u.n = un at *
   generalize u.s = us_ at *
   generalize u.ks.length = ukn at *
   clear hv hy hcu hss hse hrl hz hza hrw hyr hy2 ez hul hg2
   go_wp2_with fail
   refine (HQ.out _).mono ?_
   rintro e w1 ⟨rfl, hb1⟩
   have HS1 := hid (HS0.out.below hb1)
   have HS2 := hid (HS1.out.lit2 (s := qs) (t := ⟨#[58]⟩))
   have HBW : Hid (Below (wr.heap.size + 1) (wr.alloc (.cells #[.int .i64 uk, .string unm, .int .i64 un, .string us_, .slice yka ukn ykc, .slice (some ⟨g2, o2, none⟩) 1 ylc] 25)) (w1.alloc (.cells #[.string qs, .string ⟨#[58]⟩] 9))) :=
    hid ((hb1.mono (Nat.le_of_eq (World.size_alloc _ _).symm)).alloc (Nat.le_trans (Nat.le_of_eq (World.size_alloc _ _).symm) hb1.size) _)
   obtain ⟨d0, d1, d2, d3, d4, d5⟩ := (HBX.out _ HBW.out).six
   obtain ⟨e0, e1, e2, e3, e4, e5⟩ := (HYZ.out _ (hb.out.trans (HS2.out.b.mono hb.out.size))).six
   clear hb1 c0 c1 c2 c3 c4 c5 HQ
   go_wp2_with fail
   refine (HA.out _ (hb.out.trans (HS2.out.b.mono hb.out.size))).mono ?_
   rintro e w2 ⟨v2, rfl, ho2, hb2⟩
   have HS3 := hid (HS2.out.call hb2 ho2)
   obtain ⟨A2, c2, rfl, -, -⟩ := ho2.rd
   clear ho2 hb2 d0 d1 d2 d3 d4 d5 e0 e1 e2 e3 e4 e5
   go_wp2_with fail
   refine (join_2 HS3.out (by repeat (first | exact .head _ | refine .tail _ ?_)) (by repeat (first | exact .head _ | refine .tail _ ?_)) HRW.out HRL.out rfl).mono ?_
   rintro e w3 ⟨v3, rfl, ho3, hb3⟩
   obtain ⟨A3, c3, rfl, -, -⟩ := ho3.rd
   have HO3 := hid (ho3.mono hb.out.size)
   have HR3 := hid (ho.out.below hb3)
   have HB3 := hid (hb.out.trans (hb3.mono hb.out.size))
   have HBS := hid HB3.out.size
   clear ho3 hb3 HS1 HS2 HS3 HS0 HA HYZ HBX
   go_wp2_with (at_builtin; refine app_slice rfl (.tmp 21) (.tmp 31) (by rfl) w.heap.size _ _ ps yt (by rfl) (by rfl) rfl HR3.out HO3.out HBS.out HPL.out ?_)
   intro v4 w4 h1 h2
   have HO4 := hid h1
   have HB4 := hid (HB3.out.trans h2)
   clear h1 h2 HR3 HO3 HB3 HBS
   go_wp2_with fail
   go_roundw
   case rel => exact ⟨j + 1, _, by omega, hid (by rw [List.length_append, hpj.out]; rfl), by go_num, by show _ = _; rw [HS.out]; simp [texts], HO4, HB4⟩
   case measure => simp [intOf]; omega
  ·obtain rfl : j = l.length := by omega
   rw [List.take_length] at hps
   have HC := hid fun w' (hb' : Below wr.heap.size wr w') => refCommas_any ps _ w.heap.size w' (ho.out.below hb') (by have := hpj.out; omega) (by rw [hps.out, HCT.out]; exact HCL.out)
   rw [hps.out, HCT.out] at HC
   obtain ⟨B, cu, rfl, hcu, -⟩ := ho.out.form
   clear hcu ho
   have hS0 := PS.start wr wr (Below.refl _ _)
   go_wp2_with fail
   refine (one_any _ _).mono ?_
   rintro e v1 ⟨u1, rfl, ho, hb⟩
   have HS1 := hid (hS0.call hb ho)
   obtain ⟨A1, cc1, rfl, -, -⟩ := ho.rd
   clear ho hb
   go_wp2_with fail
   refine (HC.out _ HS1.out.b).mono ?_
   rintro e v2 ⟨u2, rfl, ho, hb2⟩
   have HS2 := hid (HS1.out.call hb2 ho)
   obtain ⟨A2, cc2, rfl, -, -⟩ := ho.rd
   clear ho hb2
   go_wp2_with fail
   refine (one_any _ _).mono ?_
   rintro e v3 ⟨u3, rfl, ho, hb⟩
   have HS3 := hid (HS2.out.call hb ho)
   obtain ⟨A3, cc3, rfl, -, -⟩ := ho.rd
   clear ho hb
   go_wp2_with fail
   refine (join_3 HS3.out (by repeat (first | exact .head _ | refine .tail _ ?_)) (by repeat (first | exact .head _ | refine .tail _ ?_)) (by repeat (first | exact .head _ | refine .tail _ ?_)) HT.out HLEN.out rfl).mono ?_
   rintro e v4 ⟨u4, rfl, ho, hb4⟩
   obtain ⟨A4, cc4, rfl, -, -⟩ := ho.rd
   have HO := hid (ho.mono hb.out.size)
   have HB := hid (hb.out.trans (hb4.mono hb.out.size))
   clear ho hb4
   go_wp2_with fail
   go_ret
   exact ⟨_, rfl, HO.out, HB.out⟩
def TellFc (v : V) : Prop := ∀ (x : X) (w : World), Is w v x → Gives 100 #[x.v] w (func v.nm v.ks (v.l.map V.o))
theorem func_of' (v : V) (hb : v.bulk ≤ 4194304) (hT : (func v.nm v.ks (v.l.map V.o)).length ≤ 8796093000000) (H : ∀ u ∈ v.l, TellS u) : TellFc v := by
 intro x w hx
 obtain ⟨T1, hT1⟩ : ∃ T, ⟨#[102, 117, 110, 99, 116, 105, 111, 110]⟩ :: some1 v.nm = T := ⟨_, rfl⟩
 have HT : Hid (T1 ++ ([⟨#[40]⟩] ++ (commas (v.ks.map fun k => [k]) ++ ([⟨#[41]⟩] ++ block (v.l.map V.o)))) = func v.nm v.ks (v.l.map V.o)) := by
  show _ = _
  rw [← hT1]
  simp [func]
 have hll : v.l.length ≤ 4194304 := by have := length_le_bulks v.l; have := bulk_ge v; omega
 have hkl : v.ks.length ≤ 4194304 := by
  have h1 := length_le_keysBulk v.ks
  have h2 : v.bulk = 1 + v.nm.size + v.s.size + keysBulk v.ks + V.bulks v.l := by cases v; rfl
  omega
 have hlen := hT
 rw [← HT.out] at hlen
 simp only [List.length_append] at hlen
 have hcl : (commas (v.ks.map fun k => [k])).length ≤ 8796093000000 := by omega
 have hsl : (stmts (v.l.map V.o)).length ≤ 8796093000000 := by
  have : (stmts (v.l.map V.o)).length ≤ (block (v.l.map V.o)).length := by unfold block; simp; omega
  omega
 obtain ⟨xka, xkc, xla, xlc, rfl, -, -, hks, hrow⟩ := hx.open
 have HK := hid hks
 have HBR0 := hid fun w' (hb' : Below w.heap.size w w') => refBraces_of v.l xla xlc w' (RowB.below hrow hb') H hll hsl
 obtain ⟨W0, hW0, HB0, HF⟩ := boxP w v xka xkc xla xlc
 have HW0 := hid hW0
 simp only [X.v] at ⊢
 obtain ⟨CT, hct⟩ : ∃ T, commas (v.ks.map fun k => [k]) = T := ⟨_, rfl⟩
 rw [hct] at HT hcl
 have HCT := hid hct
 have HCL := hid hcl
 have HLEN : Hid ((func v.nm v.ks (v.l.map V.o)).length ≤ 8796093020000) := hid (by omega)
 have HT1 := hid hT1
 clear hx hb hW0 hrow hks H hct hcl hsl hlen hT hll hT1
 generalize func v.nm v.ks (v.l.map V.o) = T at *
 generalize block (v.l.map V.o) = BT at *
 generalize v.l.length = ln, v.k = k, v.nm = nm, v.n = n, v.s = s, v.ks = ks at *
 obtain ⟨i0, i1, i2, i3, i4, i5⟩ := (HF.out W0 (Below.refl _ _)).six
 have hz0 : W0.heap.size = w.heap.size + 1 := by rw [← HW0.out]; simp
 have HBX1 := hid (below_alloc' W0 (.cells #[.string ⟨#[102, 117, 110, 99, 116, 105, 111, 110]⟩] 9))
 have HO1 := hid (ownS_new W0 [⟨#[102, 117, 110, 99, 116, 105, 111, 110]⟩] (by simp))
 obtain ⟨W1, hW1⟩ : ∃ W1, W0.alloc (.cells #[.string ⟨#[102, 117, 110, 99, 116, 105, 111, 110]⟩] 9) = W1 := ⟨_, rfl⟩
 have hva : (vals [⟨#[102, 117, 110, 99, 116, 105, 111, 110]⟩]).toArray = #[.string ⟨#[102, 117, 110, 99, 116, 105, 111, 110]⟩] := rfl
 rw [hva, hW1] at HO1
 have hzz : (Value.slice (some ⟨W0.heap.size, 0, none⟩) [(⟨#[102, 117, 110, 99, 116, 105, 111, 110]⟩ : ByteArray)].length [(⟨#[102, 117, 110, 99, 116, 105, 111, 110]⟩ : ByteArray)].length) = .slice (some ⟨w.heap.size + 1, 0, none⟩) 1 1 := by rw [hz0]; rfl
 rw [hzz] at HO1
 rw [hW1] at HBX1
 have HW1 := hid hW1
 clear hW1 hva hzz hz0
 go_enter Tryz.func100, Tryz.ntmps100
 go_upto_region 2 with (fail)
 rw [HW0.out, HW1.out]
 clear HW0 HW1 i0 i1 i2 i3 i4 i5
 obtain ⟨i0, i1, i2, i3, i4, i5⟩ := (HF.out W1 HBX1.out).six
 by_cases hn : nm.size = 0
 ·have he := (toList_nil nm).2 hn
  have HO2 : Hid (OwnS W1 W0.heap.size (.slice (some ⟨w.heap.size + 1, 0, none⟩) 1 1) T1) := by
   have h1 : [⟨#[102, 117, 110, 99, 116, 105, 111, 110]⟩] = T1 := by rw [← HT1.out, some1, if_pos hn]
   rw [← h1]
   exact HO1
  have HCZ := HBX1
  clear hn HT1 HO1 HBX1
  go_wp2_with fail
  generalize W1 = wz at *
  have HBZ := hid (HB0.out.trans (HCZ.out.mono HB0.out.size))
  clear i0 i1 i2 i3 i4 i5
  go_loopw [4, 6, 19] (fun u _ i wr => ∃ (j : Nat) (ps : Ps), j ≤ ks.length ∧ Hid (ps.length = j) ∧ i = .int .i64 j ∧ Hid (texts ps = (ks.take j).map fun k => [k]) ∧ Hid (OwnR wr wz.heap.size u ps) ∧ Hid (Below wz.heap.size wz wr))
   (fun _ _ i _ => ks.length - (intOf i).toNat)
  case atStart => exact ⟨0, [], Nat.zero_le _, hid rfl, rfl, hid rfl, hid (ownR_nil _ _), hid (Below.refl _ _)⟩
  case round =>
   obtain ⟨j, ps, hj, hpj, rfl, hps, ho, hpz⟩ := hrel
   by_cases hlt : j < ks.length
   ·obtain ⟨g, o, rfl, hg, hcj⟩ := HK.out.at_ hlt
    have hcx := ((HBZ.out.trans (hpz.out.mono HBZ.out.size)).cell (p := ⟨g, o + j, none⟩) hg).trans hcj
    have HS : Hid ((ks.take (j + 1)).map (fun k => [k]) = texts ps ++ [[ks[j]]]) := by
     show _ = _
     rw [snoc_get ks j hlt, List.map_append, hps.out]
     rfl
    have HPL : Hid (ps.length ≤ 4194304) := hid (by have := hpj.out; omega)
    obtain ⟨B, cu, rfl, hcu, -⟩ := ho.out.form
    generalize ks[j] = kj at *
    clear hcu hcj hg
    go_wp2_with fail
    refine (one_any _ _).mono ?_
    rintro e w3 ⟨v3, rfl, ho3, hb3⟩
    obtain ⟨A3, c3, rfl, -, -⟩ := ho3.rd
    have HO3 := hid (ho3.mono hpz.out.size)
    have HR3 := hid (ho.out.below hb3)
    have HP3 := hid (hpz.out.trans (hb3.mono hpz.out.size))
    have HBS := hid HP3.out.size
    clear ho3 hb3 hcx
    go_wp2_with (at_builtin; refine app_slice rfl (.tmp 23) (.tmp 26) (by rfl) wz.heap.size _ _ ps [kj] (by rfl) (by rfl) rfl HR3.out HO3.out HBS.out HPL.out ?_)
    intro v4 w4 h1 h2
    have HO4 := hid h1
    have HP4 := hid (HP3.out.trans h2)
    clear h1 h2 HR3 HO3 HP3 HBS
    go_wp2_with fail
    go_roundw
    case rel => exact ⟨j + 1, _, by omega, hid (by rw [List.length_append, hpj.out]; rfl), by go_num, by show _ = _; rw [HS.out]; simp [texts], HO4, HP4⟩
    case measure => simp [intOf]; omega
   ·obtain rfl : j = ks.length := by omega
    rw [List.take_length] at hps
    have HC := hid fun w' (hb' : Below wr.heap.size wr w') => refCommas_any ps _ wz.heap.size w' (ho.out.below hb') (by have := hpj.out; omega) (by rw [hps.out, HCT.out]; exact HCL.out)
    rw [hps.out, HCT.out] at HC
    obtain ⟨B, cu, rfl, hcu, -⟩ := ho.out.form
    have HBR := hid (HBZ.out.trans (hpz.out.mono HBZ.out.size))
    have HCR := hid (HCZ.out.trans (hpz.out.mono HCZ.out.size))
    clear hcu
    obtain ⟨i0, i1, i2, i3, i4, i5⟩ := (HF.out wr HCR.out).six
    go_wp2_with fail
    have hS : PS wr [(_, T1)] wr.drew := ((PS.start wr wr (Below.refl _ _)).add (HO2.out.below hpz.out)).drew
    go_region_held3 (fun w' => w'.cell? ⟨w.heap.size, 0, none⟩ = some (.int .i64 k) ∧ w'.cell? ⟨w.heap.size, 0 + 1, none⟩ = some (.string nm) ∧ w'.cell? ⟨w.heap.size, 0 + 2, none⟩ = some (.int .i64 n) ∧ w'.cell? ⟨w.heap.size, 0 + 3, none⟩ = some (.string s) ∧ w'.cell? ⟨w.heap.size, 0 + 4, none⟩ = some (.slice xka ks.length xkc) ∧ w'.cell? ⟨w.heap.size, 0 + 5, none⟩ = some (.slice xla ln xlc)) (with_reducible first | exact (HF.out _ (HCR.out.trans (hS.b.mono HCR.out.size))).six | exact (HF.out _ (HCR.out.trans ((hS.bal _).mono HCR.out.size))).six)
     ((first
      | (go_at_call 94; (with_reducible refine (one_any _ _).mono ?_); rintro e w2 ⟨v2, rfl, ho, hb⟩; obtain ⟨A2, c2, rfl, -, -⟩ := ho.rd; replace hS := hS.call hb ho; clear ho hb)
      | (go_at_call 127; (with_reducible refine (HC.out _ ?cz).mono ?_); (case cz => exact hS.b); rintro e w2 ⟨v2, rfl, ho, hb⟩; obtain ⟨A2, c2, rfl, -, -⟩ := ho.rd; replace hS := hS.call hb ho; clear ho hb)
      | (go_at_call 96; (with_reducible refine (HBR0.out _ ?cz).mono ?_); (case cz => exact HBR.out.trans (hS.b.mono HBR.out.size)); rintro e w2 ⟨v2, rfl, ho, hb⟩; obtain ⟨A2, c2, rfl, -, -⟩ := ho.rd; replace hS := hS.call hb ho; clear ho hb)
      | (go_at_call 48; (refine (join_5 hS ?c1 ?c2 ?c3 ?c4 ?c5 HT.out HLEN.out ?cg).mono ?_); (case cg => first | rfl | simp); (case c1 => repeat (first | exact .head _ | refine .tail _ ?_)); (case c2 => repeat (first | exact .head _ | refine .tail _ ?_)); (case c3 => repeat (first | exact .head _ | refine .tail _ ?_)); (case c4 => repeat (first | exact .head _ | refine .tail _ ?_)); (case c5 => repeat (first | exact .head _ | refine .tail _ ?_)); rintro e w2 ⟨v2, rfl, ho, hb⟩; obtain ⟨A2, c2, rfl, -, -⟩ := ho.rd; replace hS := PS.start _ _ hb)))
    clear hS
    have HO := hid (ho.mono HBR.out.size)
    have HB := hid (HBR.out.trans (hb.mono HBR.out.size))
    clear ho hb i0 i1 i2 i3 i4 i5
    go_wp2_with fail
    go_ret
    exact ⟨_, rfl, HO.out, HB.out⟩
 ·obtain ⟨he1, he2⟩ := str_some hn
  have hT1' : [⟨#[102, 117, 110, 99, 116, 105, 111, 110]⟩] ++ [nm] = T1 := by rw [← HT1.out, some1, if_neg hn]; rfl
  have HBA := hid (below_alloc' W1 (.cells #[.string nm] 9))
  have HO1a := hid (HO1.out.below HBA.out)
  have HRD : Hid (Rd (W1.alloc (.cells #[.string nm] 9)) (.slice (some ⟨W1.heap.size, 0, none⟩) 1 1) [nm]) := hid (ownS_new W1 [nm] (by simp)).rd
  have HBS : Hid (W0.heap.size ≤ (W1.alloc (.cells #[.string nm] 9)).heap.size) := hid (Nat.le_trans HBX1.out.size HBA.out.size)
  have HBA2 := hid (HBX1.out.trans (HBA.out.mono HBX1.out.size))
  have HT1' := hid hT1'
  clear hn HT1 HO1 HBA hT1'
  go_wp2_with (at_builtin; refine app_strs rfl (.tmp 11) (.tmp 14) (by rfl) W0.heap.size _ _ [⟨#[102, 117, 110, 99, 116, 105, 111, 110]⟩] [nm] (by rfl) (by rfl) HO1a.out HRD.out HBS.out (by simp) ?_)
  intro vz wz h1 h2
  have HCZ := hid (HBA2.out.trans h2)
  have HO2 : Hid (OwnS wz W0.heap.size vz T1) := by
   rw [← HT1'.out]
   exact h1
  obtain ⟨A1, cc1, rfl, -, -⟩ := HO2.out.rd
  clear h1 h2 HO1a HRD HBS HBA2 HT1' i0 i1 i2 i3 i4 i5
  obtain ⟨i0, i1, i2, i3, i4, i5⟩ := (HF.out wz HCZ.out).six
  go_wp2_with fail
  have HBZ := hid (HB0.out.trans (HCZ.out.mono HB0.out.size))
  clear i0 i1 i2 i3 i4 i5
  go_loopw [4, 6, 19] (fun u _ i wr => ∃ (j : Nat) (ps : Ps), j ≤ ks.length ∧ Hid (ps.length = j) ∧ i = .int .i64 j ∧ Hid (texts ps = (ks.take j).map fun k => [k]) ∧ Hid (OwnR wr wz.heap.size u ps) ∧ Hid (Below wz.heap.size wz wr))
   (fun _ _ i _ => ks.length - (intOf i).toNat)
  case atStart => exact ⟨0, [], Nat.zero_le _, hid rfl, rfl, hid rfl, hid (ownR_nil _ _), hid (Below.refl _ _)⟩
  case round =>
   obtain ⟨j, ps, hj, hpj, rfl, hps, ho, hpz⟩ := hrel
   by_cases hlt : j < ks.length
   ·obtain ⟨g, o, rfl, hg, hcj⟩ := HK.out.at_ hlt
    have hcx := ((HBZ.out.trans (hpz.out.mono HBZ.out.size)).cell (p := ⟨g, o + j, none⟩) hg).trans hcj
    have HS : Hid ((ks.take (j + 1)).map (fun k => [k]) = texts ps ++ [[ks[j]]]) := by
     show _ = _
     rw [snoc_get ks j hlt, List.map_append, hps.out]
     rfl
    have HPL : Hid (ps.length ≤ 4194304) := hid (by have := hpj.out; omega)
    obtain ⟨B, cu, rfl, hcu, -⟩ := ho.out.form
    generalize ks[j] = kj at *
    clear hcu hcj hg
    go_wp2_with fail
    refine (one_any _ _).mono ?_
    rintro e w3 ⟨v3, rfl, ho3, hb3⟩
    obtain ⟨A3, c3, rfl, -, -⟩ := ho3.rd
    have HO3 := hid (ho3.mono hpz.out.size)
    have HR3 := hid (ho.out.below hb3)
    have HP3 := hid (hpz.out.trans (hb3.mono hpz.out.size))
    have HBS := hid HP3.out.size
    clear ho3 hb3 hcx
    go_wp2_with (at_builtin; refine app_slice rfl (.tmp 23) (.tmp 26) (by rfl) wz.heap.size _ _ ps [kj] (by rfl) (by rfl) rfl HR3.out HO3.out HBS.out HPL.out ?_)
    intro v4 w4 h1 h2
    have HO4 := hid h1
    have HP4 := hid (HP3.out.trans h2)
    clear h1 h2 HR3 HO3 HP3 HBS
    go_wp2_with fail
    go_roundw
    case rel => exact ⟨j + 1, _, by omega, hid (by rw [List.length_append, hpj.out]; rfl), by go_num, by show _ = _; rw [HS.out]; simp [texts], HO4, HP4⟩
    case measure => simp [intOf]; omega
   ·obtain rfl : j = ks.length := by omega
    rw [List.take_length] at hps
    have HC := hid fun w' (hb' : Below wr.heap.size wr w') => refCommas_any ps _ wz.heap.size w' (ho.out.below hb') (by have := hpj.out; omega) (by rw [hps.out, HCT.out]; exact HCL.out)
    rw [hps.out, HCT.out] at HC
    obtain ⟨B, cu, rfl, hcu, -⟩ := ho.out.form
    have HBR := hid (HBZ.out.trans (hpz.out.mono HBZ.out.size))
    have HCR := hid (HCZ.out.trans (hpz.out.mono HCZ.out.size))
    clear hcu
    obtain ⟨i0, i1, i2, i3, i4, i5⟩ := (HF.out wr HCR.out).six
    go_wp2_with fail
    have hS : PS wr [(_, T1)] wr.drew := ((PS.start wr wr (Below.refl _ _)).add (HO2.out.below hpz.out)).drew
    go_region_held3 (fun w' => w'.cell? ⟨w.heap.size, 0, none⟩ = some (.int .i64 k) ∧ w'.cell? ⟨w.heap.size, 0 + 1, none⟩ = some (.string nm) ∧ w'.cell? ⟨w.heap.size, 0 + 2, none⟩ = some (.int .i64 n) ∧ w'.cell? ⟨w.heap.size, 0 + 3, none⟩ = some (.string s) ∧ w'.cell? ⟨w.heap.size, 0 + 4, none⟩ = some (.slice xka ks.length xkc) ∧ w'.cell? ⟨w.heap.size, 0 + 5, none⟩ = some (.slice xla ln xlc)) (with_reducible first | exact (HF.out _ (HCR.out.trans (hS.b.mono HCR.out.size))).six | exact (HF.out _ (HCR.out.trans ((hS.bal _).mono HCR.out.size))).six)
     ((first
      | (go_at_call 94; (with_reducible refine (one_any _ _).mono ?_); rintro e w2 ⟨v2, rfl, ho, hb⟩; obtain ⟨A2, c2, rfl, -, -⟩ := ho.rd; replace hS := hS.call hb ho; clear ho hb)
      | (go_at_call 127; (with_reducible refine (HC.out _ ?cz).mono ?_); (case cz => exact hS.b); rintro e w2 ⟨v2, rfl, ho, hb⟩; obtain ⟨A2, c2, rfl, -, -⟩ := ho.rd; replace hS := hS.call hb ho; clear ho hb)
      | (go_at_call 96; (with_reducible refine (HBR0.out _ ?cz).mono ?_); (case cz => exact HBR.out.trans (hS.b.mono HBR.out.size)); rintro e w2 ⟨v2, rfl, ho, hb⟩; obtain ⟨A2, c2, rfl, -, -⟩ := ho.rd; replace hS := hS.call hb ho; clear ho hb)
      | (go_at_call 48; (refine (join_5 hS ?c1 ?c2 ?c3 ?c4 ?c5 HT.out HLEN.out ?cg).mono ?_); (case cg => first | rfl | simp); (case c1 => repeat (first | exact .head _ | refine .tail _ ?_)); (case c2 => repeat (first | exact .head _ | refine .tail _ ?_)); (case c3 => repeat (first | exact .head _ | refine .tail _ ?_)); (case c4 => repeat (first | exact .head _ | refine .tail _ ?_)); (case c5 => repeat (first | exact .head _ | refine .tail _ ?_)); rintro e w2 ⟨v2, rfl, ho, hb⟩; obtain ⟨A2, c2, rfl, -, -⟩ := ho.rd; replace hS := PS.start _ _ hb)))
    clear hS
    have HO := hid (ho.mono HBR.out.size)
    have HB := hid (HBR.out.trans (hb.mono HBR.out.size))
    clear ho hb i0 i1 i2 i3 i4 i5
    go_wp2_with fail
    go_ret
    exact ⟨_, rfl, HO.out, HB.out⟩
def TellVs (v : V) : Prop := ∀ (no : Bool) (x : X) (w : World), Is w v x → Gives 93 #[x.v, .bool no] w (v.o.raw no)
theorem vars_of (v : V) (hf : Fine v) (hk : v.k = 22) (H : ∀ u ∈ v.l, ∀ z ∈ u.l, TellA z) : TellVs v := by
 intro no x w hx
 have HLEN := rlP hf no
 have HT : Hid ([⟨#[118, 97, 114]⟩] ++ commas (v.l.map fun u => u.o.raw no) = v.o.raw no) := by
  show _ = _
  rw [o_raw, hk]
  simp [rawN, Function.comp_def]
 have hlb := hf.len.1
 have hcl : (commas (v.l.map fun u => u.o.raw no)).length ≤ 8796093000000 := by
  have h1 := raw_len hf no
  rw [← HT.out] at h1
  simp only [List.length_append] at h1
  omega
 have HU : Hid (∀ u ∈ v.l, (u.o.raw no).length ≤ 8796093000000 ∧ ((u.l = [] ∧ u.o.raw no = [u.nm]) ∨ ∃ z, u.l = [z] ∧ TellA z ∧ u.o.raw no = [u.nm] ++ ([⟨#[61]⟩] ++ z.o.at 1 no))) := fun u hu => by
  have hfu := hf.kid hu
  have hku : u.k = 23 := by
   have h1 := hf.kids
   rw [kids_22 hk, Bool.and_eq_true, List.all_eq_true] at h1
   exact of_decide_eq_true (h1.2 u hu)
  have h2 := hfu.kids
  rw [kids_23 hku] at h2
  refine ⟨raw_len hfu no, ?_⟩
  rcases hz : u.l with _ | ⟨z, _ | ⟨z2, r⟩⟩
  ·refine .inl ⟨rfl, ?_⟩
   rw [o_raw, hku, hz]
   rfl
  ·refine .inr ⟨z, rfl, H u hu z (by rw [hz]; simp), ?_⟩
   rw [o_raw, hku, hz]
   rfl
  ·rw [hz] at h2
   simp [are] at h2
 obtain ⟨xka, xkc, xla, xlc, rfl, -, -, -, hrow⟩ := hx.open
 have HR := hid hrow
 obtain ⟨W0, hW0, HB0, HF⟩ := boxP w v xka xkc xla xlc
 have HW0 := hid hW0
 simp only [X.v] at ⊢
 rw [hk] at HF HW0 ⊢
 obtain ⟨CT, hct⟩ : ∃ T, commas (v.l.map fun u => u.o.raw no) = T := ⟨_, rfl⟩
 rw [hct] at HT hcl
 have HCT := hid hct
 have HCL := hid hcl
 clear hx hf hW0 hk hrow H hct hcl
 generalize v.o.raw no = T at *
 generalize v.l = l, v.nm = nm, v.n = n, v.s = s, v.ks.length = kn at *
 obtain ⟨i0, i1, i2, i3, i4, i5⟩ := (HF.out W0 (Below.refl _ _)).six
 go_enter Tryz.func93, Tryz.ntmps93
 go_wp2_with fail
 rw [HW0.out]
 clear HW0 i0 i1 i2 i3 i4 i5
 go_loopw [5, 7, 8, 12] (fun u _ _ i wr => ∃ (j : Nat) (ps : Ps), j ≤ l.length ∧ Hid (ps.length = j) ∧ i = .int .i64 j ∧ Hid (texts ps = (l.take j).map fun u => u.o.raw no) ∧ Hid (OwnR wr w.heap.size u ps) ∧ Hid (Below w.heap.size w wr))
  (fun _ _ _ i _ => l.length - (intOf i).toNat)
 case atStart => exact ⟨0, [], Nat.zero_le _, hid rfl, rfl, hid rfl, hid (ownR_nil _ _), HB0⟩
 case round =>
  obtain ⟨j, ps, hj, hpj, rfl, hps, ho, hb⟩ := hrel
  by_cases hlt : j < l.length
  ·obtain ⟨g, o, rfl, hg, y, hy, hv⟩ := HR.out.at_ hlt
   obtain ⟨c0, c1, c2, c3, c4, c5⟩ := hy.below hg hb.out
   have HM : Hid (l[j] ∈ l) := hid (List.getElem_mem hlt)
   have HS : Hid ((l.take (j + 1)).map (fun u => u.o.raw no) = texts ps ++ [l[j].o.raw no]) := by
    show _ = _
    rw [snoc_get l j hlt, List.map_append, hps.out]
    rfl
   obtain ⟨hrl, hway⟩ := HU.out l[j] HM.out
   generalize l[j] = u at *
   obtain ⟨yka, ykc, yla, ylc, rfl, -, -, -, hyr⟩ := hv.open
   have HRL : Hid ((u.o.raw no).length ≤ 8796093020000) := hid (by omega)
   dsimp only at c0 c1 c2 c3 c4 c5
   obtain ⟨Wd, hWd⟩ : ∃ W, wr.alloc (.cells #[.int .i64 u.k, .string u.nm, .int .i64 u.n, .string u.s, .slice yka u.ks.length ykc, .slice yla u.l.length ylc] 25) = W := ⟨_, rfl⟩
   have HBX : Hid (∀ w', Below Wd.heap.size Wd w' → At w' wr.heap.size 0 ⟨u.k, u.nm, u.n, u.s, yka, u.ks.length, ykc, yla, u.l.length, ylc⟩) := fun w' hb' => by
    have h0 : At Wd wr.heap.size 0 ⟨u.k, u.nm, u.n, u.s, yka, u.ks.length, ykc, yla, u.l.length, ylc⟩ := by rw [← hWd]; exact at_row (hp_new rfl) rfl rfl rfl rfl rfl rfl
    exact h0.below (B := Wd.heap.size) (by rw [← hWd]; simp) hb'
   have HBD0 : Hid (Below wr.heap.size wr Wd) := by rw [← hWd]; exact below_alloc' _ _
   have HBD := hid (hb.out.trans (HBD0.out.mono hb.out.size))
   have HRD := hid (ho.out.below HBD0.out)
   have HWd := hid hWd
   have HPL : Hid (ps.length ≤ 4194304) := hid (by have := hpj.out; omega)
   have hul : (u.l.length : Int) ≤ 4194304 ∨ True := .inr trivial
   obtain ⟨B, cu, rfl, hcu, -⟩ := ho.out.form
   clear hcu hWd hv hy hul
   rcases hway with ⟨hz, hrw⟩ | ⟨z, hz, hza, hrw⟩
   ·have hlen0 : u.l.length = 0 := by rw [hz]; rfl
    rw [hlen0] at c5 HWd HBX
    have HRW := hid hrw.symm
    clear hz hrw hlen0 hyr hrl
    generalize u.o.raw no = yt at *
    generalize u.k = uk at *
    generalize u.nm = unm at *
    generalize u.n = un at *
    generalize u.s = us_ at *
    generalize u.ks.length = ukn at *
    go_wp2_with fail
    rw [HWd.out]
    refine (one_any _ _).mono ?_
    rintro e w3 ⟨v3, rfl, ho3, hb3⟩
    obtain ⟨A3, c3', rfl, -, -⟩ := ho3.rd
    have HO3 : Hid (OwnS w3 w.heap.size (.slice A3 1 c3') yt) := by
     rw [← HRW.out]
     exact ho3.mono HBD.out.size
    have HR3 := hid (HRD.out.below hb3)
    have HB3 := hid (HBD.out.trans (hb3.mono HBD.out.size))
    obtain ⟨d0, d1, d2, d3, d4, d5⟩ := (HBX.out w3 hb3).six
    clear ho3 hb3 c0 c1 c2 c3 c4 c5 HRW
    have HBS := hid HB3.out.size
    go_wp2_with (at_builtin; refine app_slice rfl (.tmp 33) (.tmp 35) (by rfl) w.heap.size _ _ ps yt (by rfl) (by rfl) rfl HR3.out HO3.out HBS.out HPL.out ?_)
    intro v4 w4 h1 h2
    have HO4 := hid h1
    have HB4 := hid (HB3.out.trans h2)
    clear h1 h2 HR3 HO3 HB3 HBS
    go_wp2_with fail
    go_roundw
    case rel => exact ⟨j + 1, _, by omega, hid (by rw [List.length_append, hpj.out]; rfl), by go_num, by show _ = _; rw [HS.out]; simp [texts], HO4, HB4⟩
    case measure => simp [intOf]; omega
   ·obtain ⟨g2, o2, y2, rfl, hg2, hy2⟩ := kid_at hyr 0 (by rw [hz]; simp)
    have ez : u.l[0]'(by rw [hz]; simp) = z := by simp [hz]
    have HYZ : Hid (∀ w', Below w.heap.size w w' → At w' g2 o2 y2) := fun w' hb => by have := (hy2 w' hb).1; rwa [Nat.zero_mul, Nat.add_zero] at this
    have HA : Hid (∀ w', Below w.heap.size w w' → Gives 99 #[y2.v, .int .i64 1, .bool no] w' (z.o.at 1 no)) := fun w' hb => hza 1 1 no y2 w' rfl (by decide) (by have := (hy2 w' hb).2; rwa [ez] at this)
    have hlen1 : u.l.length = 1 := by rw [hz]; rfl
    rw [hlen1] at c5 HWd HBX
    have HRW := hid hrw.symm
    obtain ⟨zk, znm, zn, zs, zka, zkn, zkc, zla, zln, zlc⟩ := y2
    simp only [X.v] at HA
    clear hz hrw hlen1 hyr hrl hza hy2 ez hg2
    generalize u.o.raw no = yt at *
    generalize z.o.at 1 no = zt at *
    generalize u.k = uk at *
    generalize u.nm = unm at *
    generalize u.n = un at *
    generalize u.s = us_ at *
    generalize u.ks.length = ukn at *
    go_wp2_with fail
    rw [HWd.out]
    refine (one_any _ _).mono ?_
    rintro e w3 ⟨v3, rfl, ho3, hb3⟩
    obtain ⟨A3, c3', rfl, -, -⟩ := ho3.rd
    have HS1 := hid ((PS.start Wd Wd (Below.refl _ _)).call hb3 ho3)
    clear ho3 hb3 c0 c1 c2 c3 c4 c5
    obtain ⟨d0, d1, d2, d3, d4, d5⟩ := (HBX.out w3 HS1.out.b).six
    obtain ⟨e0, e1, e2, e3, e4, e5⟩ := (HYZ.out w3 (HBD.out.trans (HS1.out.b.mono HBD.out.size))).six
    go_wp2_with fail
    have hS := HS1.out.drew
    go_region_held3 (fun w' => (w'.cell? ⟨wr.heap.size, 0, none⟩ = some (.int .i64 uk) ∧ w'.cell? ⟨wr.heap.size, 0 + 1, none⟩ = some (.string unm) ∧ w'.cell? ⟨wr.heap.size, 0 + 2, none⟩ = some (.int .i64 un) ∧ w'.cell? ⟨wr.heap.size, 0 + 3, none⟩ = some (.string us_) ∧ w'.cell? ⟨wr.heap.size, 0 + 4, none⟩ = some (.slice yka ukn ykc) ∧ w'.cell? ⟨wr.heap.size, 0 + 5, none⟩ = some (.slice (some ⟨g2, o2, none⟩) 1 ylc)) ∧ (w'.cell? ⟨g2, o2, none⟩ = some (.int .i64 zk) ∧ w'.cell? ⟨g2, o2 + 1, none⟩ = some (.string znm) ∧ w'.cell? ⟨g2, o2 + 2, none⟩ = some (.int .i64 zn) ∧ w'.cell? ⟨g2, o2 + 3, none⟩ = some (.string zs) ∧ w'.cell? ⟨g2, o2 + 4, none⟩ = some (.slice zka zkn zkc) ∧ w'.cell? ⟨g2, o2 + 5, none⟩ = some (.slice zla zln zlc))) (with_reducible first | exact ⟨(HBX.out _ hS.b).six, (HYZ.out _ (HBD.out.trans (hS.b.mono HBD.out.size))).six⟩ | exact ⟨(HBX.out _ (hS.bal _)).six, (HYZ.out _ (HBD.out.trans ((hS.bal _).mono HBD.out.size))).six⟩)
     ((first
      | (go_at_call 94; (with_reducible refine (one_any _ _).mono ?_); rintro e w2 ⟨v2, rfl, ho, hb⟩; obtain ⟨A2, c2, rfl, -, -⟩ := ho.rd; replace hS := hS.call hb ho; clear ho hb)
      | (go_at_call 99; (with_reducible refine (HA.out _ ?cz).mono ?_); (case cz => exact HBD.out.trans (hS.b.mono HBD.out.size)); rintro e w2 ⟨v2, rfl, ho, hb⟩; obtain ⟨A2, c2, rfl, -, -⟩ := ho.rd; replace hS := hS.call hb ho; clear ho hb)
      | (go_at_call 48; (refine (join_3 hS ?c1 ?c2 ?c3 HRW.out HRL.out ?cg).mono ?_); (case cg => first | rfl | simp); (case c1 => repeat (first | exact .head _ | refine .tail _ ?_)); (case c2 => repeat (first | exact .head _ | refine .tail _ ?_)); (case c3 => repeat (first | exact .head _ | refine .tail _ ?_)); rintro e w2 ⟨v2, rfl, ho, hb⟩; obtain ⟨A2, c2, rfl, -, -⟩ := ho.rd; replace hS := PS.start _ _ hb)))
    clear hS
    have HO3 := hid (ho.mono HBD.out.size)
    have HR3 := hid (HRD.out.below hb)
    have HB3 := hid (HBD.out.trans (hb.mono HBD.out.size))
    clear ho hb HRW HS1 e0 e1 e2 e3 e4 e5
    have HBS := hid HB3.out.size
    go_wp2_with (at_builtin; refine app_slice rfl (.tmp 33) (.tmp 35) (by rfl) w.heap.size _ _ ps yt (by rfl) (by rfl) rfl HR3.out HO3.out HBS.out HPL.out ?_)
    intro v4 w4 h1 h2
    have HO4 := hid h1
    have HB4 := hid (HB3.out.trans h2)
    clear h1 h2 HR3 HO3 HB3 HBS
    go_wp2_with fail
    go_roundw
    case rel => exact ⟨j + 1, _, by omega, hid (by rw [List.length_append, hpj.out]; rfl), by go_num, by show _ = _; rw [HS.out]; simp [texts], HO4, HB4⟩
    case measure => simp [intOf]; omega
  ·obtain rfl : j = l.length := by omega
   rw [List.take_length] at hps
   have HC := hid fun w' (hb' : Below wr.heap.size wr w') => refCommas_any ps _ w.heap.size w' (ho.out.below hb') (by have := hpj.out; omega) (by rw [hps.out, HCT.out]; exact HCL.out)
   rw [hps.out, HCT.out] at HC
   obtain ⟨B, cu, rfl, hcu, -⟩ := ho.out.form
   clear hcu ho
   have hS0 := PS.start wr wr (Below.refl _ _)
   go_wp2_with fail
   refine (one_any _ _).mono ?_
   rintro e v1 ⟨u1, rfl, ho, hb⟩
   have HS1 := hid (hS0.call hb ho)
   obtain ⟨A1, cc1, rfl, -, -⟩ := ho.rd
   clear ho hb
   go_wp2_with fail
   refine (HC.out _ HS1.out.b).mono ?_
   rintro e v2 ⟨u2, rfl, ho, hb2⟩
   have HS2 := hid (HS1.out.call hb2 ho)
   obtain ⟨A2, cc2, rfl, -, -⟩ := ho.rd
   clear ho hb2
   go_wp2_with fail
   refine (join_2 HS2.out (by repeat (first | exact .head _ | refine .tail _ ?_)) (by repeat (first | exact .head _ | refine .tail _ ?_)) HT.out HLEN.out rfl).mono ?_
   rintro e v4 ⟨u4, rfl, ho, hb4⟩
   obtain ⟨A4, cc4, rfl, -, -⟩ := ho.rd
   have HO := hid (ho.mono hb.out.size)
   have HB := hid (hb.out.trans (hb4.mono hb.out.size))
   clear ho hb4
   go_wp2_with fail
   go_ret
   exact ⟨_, rfl, HO.out, HB.out⟩
theorem head_of' (v : V) (hf : Fine v) (s0 : ByteArray) (H : TellA v) (x : X) (w : World) (hx : Is w v x) : Gives 97 #[.string s0, x.v] w (headT s0 v.o) := by
 have HA := hid fun w' (hb : Below w.heap.size w w') => H 0 0 false x w' rfl (by decide) (Is.below hb _ _ hx)
 have HT : Hid ([s0, ⟨#[40]⟩] ++ (v.o.at 0 false ++ [⟨#[41]⟩]) = headT s0 v.o) := hid rfl
 have HLEN : Hid ((headT s0 v.o).length ≤ 8796093020000) := hid (by
  have := at_len hf 0 false
  unfold headT brack
  simp
  omega)
 obtain ⟨xka, xkc, xla, xlc, rfl, -, -, -, -⟩ := hx.open
 obtain ⟨W0, hW0, HB0, HF⟩ := boxP w v xka xkc xla xlc
 have HW0 := hid hW0
 simp only [X.v] at HA ⊢
 clear hx hf hW0 H
 generalize headT s0 v.o = T at *
 generalize v.o.at 0 false = at0 at *
 generalize v.k = k, v.nm = nm, v.n = n, v.s = s, v.ks.length = kn, v.l.length = ln at *
 have HS1 := hid ((PS.start W0 W0 (Below.refl _ _)).lit2 (s := s0) (t := ⟨#[40]⟩))
 obtain ⟨i0, i1, i2, i3, i4, i5⟩ := HF.out W0 (Below.refl _ _)
 obtain ⟨j0, j1, j2, j3, j4, j5⟩ := HF.out _ HS1.out.b
 dsimp only at i0 i1 i2 i3 i4 i5 j0 j1 j2 j3 j4 j5
 go_enter Tryz.func97, Tryz.ntmps97
 go_upto_region 1 with (fail)
 rw [HW0.out]
 clear HW0
 go_wp2_with fail
 refine (HA.out _ (HB0.out.trans (HS1.out.b.mono HB0.out.size))).mono ?_
 rintro e w2 ⟨v2, rfl, ho, hb⟩
 have HS2 := hid (HS1.out.call hb ho)
 obtain ⟨A2, cc2, rfl, -, -⟩ := ho.rd
 clear ho hb i0 i1 i2 i3 i4 i5 j0 j1 j2 j3 j4 j5
 go_wp2_with fail
 refine (one_any _ _).mono ?_
 rintro e v3 ⟨u3, rfl, ho, hb⟩
 have HS3 := hid (HS2.out.call hb ho)
 obtain ⟨A3, cc3, rfl, -, -⟩ := ho.rd
 clear ho hb
 go_wp2_with fail
 refine (join_3 HS3.out (by repeat (first | exact .head _ | refine .tail _ ?_)) (by repeat (first | exact .head _ | refine .tail _ ?_)) (by repeat (first | exact .head _ | refine .tail _ ?_)) HT.out HLEN.out rfl).mono ?_
 rintro e v4 ⟨u4, rfl, ho, hb⟩
 obtain ⟨A4, cc4, rfl, -, -⟩ := ho.rd
 have HO := hid (ho.mono HB0.out.size)
 have HB := hid (HB0.out.trans (hb.mono HB0.out.size))
 clear ho hb
 go_wp2_with fail
 go_ret
 exact ⟨_, rfl, HO.out, HB.out⟩
theorem maybe_42 (v : V) (hk : v.k = 42) (no : Bool) (x : X) (w : World) (hx : Is w v x) : Gives 98 #[x.v, .bool no] w (v.o.part no) := by
 have HT : v.o.part no = [] := by unfold O.part; rw [o_k, if_pos hk]
 obtain ⟨xka, xkc, xla, xlc, rfl, -, -, -, -⟩ := hx.open
 have HB0 := bxP w v xka xkc xla xlc
 simp only [X.v] at ⊢
 rw [HT]
 rw [hk] at HB0 ⊢
 clear hx hk HT
 generalize v.nm = nm, v.n = n, v.s = s, v.ks.length = kn, v.l.length = ln at *
 go_enter Tryz.func98, Tryz.ntmps98
 go_wp2_with fail
 go_ret
 exact ⟨_, rfl, ownS_nil _ _, HB0.out⟩
theorem maybe_22 (v : V) (hk : v.k = 22) (H : TellVs v) (no : Bool) (x : X) (w : World) (hx : Is w v x) : Gives 98 #[x.v, .bool no] w (v.o.part no) := by
 have HT : v.o.part no = v.o.raw no := by unfold O.part; rw [o_k, if_neg (by omega), if_pos hk]
 have HA := hid fun w' (hb : Below w.heap.size w w') => H no x w' (Is.below hb _ _ hx)
 obtain ⟨xka, xkc, xla, xlc, rfl, -, -, -, -⟩ := hx.open
 have HB0 := bxP w v xka xkc xla xlc
 simp only [X.v] at HA ⊢
 rw [HT]
 generalize v.o.raw no = T at *
 rw [hk] at HB0 HA ⊢
 clear hx hk HT H
 generalize v.nm = nm, v.n = n, v.s = s, v.ks.length = kn, v.l.length = ln at *
 go_enter Tryz.func98, Tryz.ntmps98
 go_wp2_with fail
 refine (HA.out _ HB0.out).mono ?_
 rintro e w2 ⟨v2, rfl, ho, hb⟩
 obtain ⟨A2, c2, rfl, -, -⟩ := ho.rd
 have HO := hid (ho.mono HB0.out.size)
 have HB := hid (HB0.out.trans (hb.mono HB0.out.size))
 clear ho hb
 go_wp2_with fail
 go_ret
 exact ⟨_, rfl, HO.out, HB.out⟩
theorem maybe_at (v : V) (hk : ¬ v.k = 42 ∧ ¬ v.k = 22) (H : TellA v) (no : Bool) (x : X) (w : World) (hx : Is w v x) : Gives 98 #[x.v, .bool no] w (v.o.part no) := by
 have HT : v.o.part no = v.o.at 0 no := by unfold O.part; rw [o_k, if_neg hk.1, if_neg hk.2]
 have HA := hid fun w' (hb : Below w.heap.size w w') => H 0 0 no x w' rfl (by decide) (Is.below hb _ _ hx)
 obtain ⟨xka, xkc, xla, xlc, rfl, -, -, -, -⟩ := hx.open
 have HB0 := bxP w v xka xkc xla xlc
 simp only [X.v] at HA ⊢
 rw [HT]
 generalize v.o.at 0 no = T at *
 have hq1 : (v.k == 42) = false := by rw [beq_eq_false_iff_ne]; exact hk.1
 have hq2 : (v.k == 22) = false := by rw [beq_eq_false_iff_ne]; exact hk.2
 clear hx hk HT H
 generalize v.k = k, v.nm = nm, v.n = n, v.s = s, v.ks.length = kn, v.l.length = ln at *
 go_enter Tryz.func98, Tryz.ntmps98
 go_wp2_with fail
 refine (HA.out _ HB0.out).mono ?_
 rintro e w2 ⟨v2, rfl, ho, hb⟩
 obtain ⟨A2, c2, rfl, -, -⟩ := ho.rd
 have HO := hid (ho.mono HB0.out.size)
 have HB := hid (HB0.out.trans (hb.mono HB0.out.size))
 clear ho hb
 go_wp2_with fail
 go_ret
 exact ⟨_, rfl, HO.out, HB.out⟩
theorem bare_of (v : V) (hf : Fine v) (he : isE v = true) (H : TellA v) (x : X) (w : World) (hx : Is w v x) : Gives 95 #[x.v] w (bareT (v.o.at 0 false)) := by
 have HA := hid fun w' (hb : Below w.heap.size w w') => H 0 0 false x w' rfl (by decide) (Is.below hb _ _ hx)
 have hlen := at_len hf 0 false
 obtain ⟨a, r, har⟩ : ∃ a r, v.o.at 0 false = a :: r := by
  rcases h : v.o.at 0 false with _ | ⟨a, r⟩
  ·exact absurd h (at_ne he 0 false)
  ·exact ⟨a, r, rfl⟩
 rw [har] at HA hlen ⊢
 clear har
 obtain ⟨xka, xkc, xla, xlc, rfl, -, -, -, -⟩ := hx.open
 have HB0 := bxP w v xka xkc xla xlc
 simp only [X.v] at HA ⊢
 clear hx hf H he
 generalize v.k = k, v.nm = nm, v.n = n, v.s = s, v.ks.length = kn, v.l.length = ln at *
 have hl0 : (a :: r).length = r.length + 1 := rfl
 rw [hl0] at hlen
 have hli : (0 : Int) < ((r.length + 1 : Nat) : Int) := by omega
 go_enter Tryz.func95, Tryz.ntmps95
 go_wp2_with fail
 refine (HA.out _ HB0.out).mono ?_
 rintro e w2 ⟨v2, rfl, ho, hb⟩
 have HB2 := hid (HB0.out.trans (hb.mono HB0.out.size))
 have HO2 := hid (ho.mono HB0.out.size)
 obtain ⟨A2, c2, rfl, hc2, hst⟩ := ho.rd
 obtain ⟨g, o, rfl, -, hcell⟩ := hst.at_ (i := 0) (by simp)
 rw [Nat.add_zero] at hcell
 have hcell' : w2.cell? ⟨g, o, none⟩ = some (.string a) := hcell
 rw [hl0] at HO2 hc2 ⊢
 obtain ⟨m, hm⟩ : ∃ m, r.length + 1 = m := ⟨_, rfl⟩
 rw [hm] at HO2 hc2 hli hlen ⊢
 have hm0 : 0 < m := by omega
 have HM := hid hm
 clear ho hb hcell hst hl0 hm
 by_cases h1 : a = ⟨#[123]⟩
 ·subst h1
  have HT : Hid ([⟨#[40]⟩] ++ ((⟨#[123]⟩ :: r) ++ [⟨#[41]⟩]) = bareT (⟨#[123]⟩ :: r)) := by
   show _ = _
   unfold bareT
   rw [if_pos (.inl rfl)]
   rfl
  have HLEN : Hid ((([⟨#[40]⟩] : Ts) ++ ((⟨#[123]⟩ :: r) ++ [(⟨#[41]⟩ : ByteArray)])).length ≤ 8796093020000) := hid (by have := HM.out; simp; omega)
  rw [HT.out] at HLEN
  have hS0 := (PS.start w2 w2 (Below.refl _ _)).add HO2.out
  go_wp2_with fail
  refine (one_any _ _).mono ?_
  rintro e w3 ⟨v3, rfl, ho, hb⟩
  have HS1 := hid (hS0.call hb ho)
  obtain ⟨A3, c3, rfl, -, -⟩ := ho.rd
  clear ho hb hS0 hcell'
  go_wp2_with fail
  refine (one_any _ _).mono ?_
  rintro e w4 ⟨v4, rfl, ho, hb⟩
  have HS2 := hid (HS1.out.call hb ho)
  obtain ⟨A4, c4, rfl, -, -⟩ := ho.rd
  clear ho hb
  go_wp2_with fail
  refine (join_3 HS2.out (by repeat (first | exact .head _ | refine .tail _ ?_)) (by repeat (first | exact .head _ | refine .tail _ ?_)) (by repeat (first | exact .head _ | refine .tail _ ?_)) HT.out HLEN.out rfl).mono ?_
  rintro e w5 ⟨v5, rfl, ho, hb⟩
  obtain ⟨A5, c5, rfl, -, -⟩ := ho.rd
  have HO := hid (ho.mono HB2.out.size)
  have HB := hid (HB2.out.trans (hb.mono HB2.out.size))
  clear ho hb
  go_wp2_with fail
  go_ret
  exact ⟨_, rfl, HO.out, HB.out⟩
 ·by_cases h2 : a = ⟨#[102, 117, 110, 99, 116, 105, 111, 110]⟩
  ·subst h2
   have HT : Hid ([⟨#[40]⟩] ++ ((⟨#[102, 117, 110, 99, 116, 105, 111, 110]⟩ :: r) ++ [⟨#[41]⟩]) = bareT (⟨#[102, 117, 110, 99, 116, 105, 111, 110]⟩ :: r)) := by
    show _ = _
    unfold bareT
    rw [if_pos (.inr rfl)]
    rfl
   have HLEN : Hid ((([⟨#[40]⟩] : Ts) ++ ((⟨#[102, 117, 110, 99, 116, 105, 111, 110]⟩ :: r) ++ [(⟨#[41]⟩ : ByteArray)])).length ≤ 8796093020000) := hid (by have := HM.out; simp; omega)
   rw [HT.out] at HLEN
   have hS0 := (PS.start w2 w2 (Below.refl _ _)).add HO2.out
   go_wp2_with fail
   refine (one_any _ _).mono ?_
   rintro e w3 ⟨v3, rfl, ho, hb⟩
   have HS1 := hid (hS0.call hb ho)
   obtain ⟨A3, c3, rfl, -, -⟩ := ho.rd
   clear ho hb hS0 hcell'
   go_wp2_with fail
   refine (one_any _ _).mono ?_
   rintro e w4 ⟨v4, rfl, ho, hb⟩
   have HS2 := hid (HS1.out.call hb ho)
   obtain ⟨A4, c4, rfl, -, -⟩ := ho.rd
   clear ho hb
   go_wp2_with fail
   refine (join_3 HS2.out (by repeat (first | exact .head _ | refine .tail _ ?_)) (by repeat (first | exact .head _ | refine .tail _ ?_)) (by repeat (first | exact .head _ | refine .tail _ ?_)) HT.out HLEN.out rfl).mono ?_
   rintro e w5 ⟨v5, rfl, ho, hb⟩
   obtain ⟨A5, c5, rfl, -, -⟩ := ho.rd
   have HO := hid (ho.mono HB2.out.size)
   have HB := hid (HB2.out.trans (hb.mono HB2.out.size))
   clear ho hb
   go_wp2_with fail
   go_ret
   exact ⟨_, rfl, HO.out, HB.out⟩
  ·have hq1 : (a.toList == [123]) = false := by
    rw [beq_eq_false_iff_ne]
    intro e
    exact h1 (of_bl (by rw [← e]; exact (Lib.toList_data a).symm))
   have hq2 : (a.toList == [102, 117, 110, 99, 116, 105, 111, 110]) = false := by
    rw [beq_eq_false_iff_ne]
    intro e
    exact h2 (of_bl (by rw [← e]; exact (Lib.toList_data a).symm))
   have HT : Hid (bareT (a :: r) = a :: r) := by
    show _ = _
    unfold bareT
    rw [if_neg]
    rintro (h | h)
    ·exact h1 (Option.some.inj h)
    ·exact h2 (Option.some.inj h)
   clear h1 h2
   go_wp2_with fail
   go_ret
   exact ⟨_, rfl, by rw [HT.out]; exact HO2.out, HB2.out⟩
theorem wordT_take (l : List V) (j : Nat) (h : j < l.length) : (l.take (j + 1)).flatMap (fun u => u.o.at 0 false) = (l.take j).flatMap (fun u => u.o.at 0 false) ++ l[j].o.at 0 false := by
 rw [snoc_get l j h, List.flatMap_append]
 simp
theorem word_of (s0 lab : ByteArray) (l : List V) (A : Option Addr) (c : Nat) (w : World) (hr : Row w A l) (H : ∀ u ∈ l, TellA u) (hl : l.length ≤ 1) (hT : ∀ u ∈ l, (u.o.at 0 false).length ≤ 8796093000000) :
  Gives 130 #[.string s0, .string lab, .slice A l.length c] w (s0 :: (some1 lab ++ (l.flatMap (fun u => u.o.at 0 false) ++ [⟨#[59]⟩]))) := by
 have HH := hid H
 have HR := hid hr
 have hfl : (l.flatMap (fun u => u.o.at 0 false)).length ≤ 8796093000000 := by
  rcases l with _ | ⟨u, _ | ⟨u2, r⟩⟩
  ·simp
  ·have := hT u (by simp)
   simpa using this
  ·simp at hl
 obtain ⟨T1, hT1⟩ : ∃ T, s0 :: some1 lab = T := ⟨_, rfl⟩
 have HT : Hid (∀ F, (T1 ++ F) ++ [⟨#[59]⟩] = s0 :: (some1 lab ++ (F ++ [⟨#[59]⟩]))) := fun F => by
  rw [← hT1]
  simp
 have h1l : T1.length ≤ 2 := by
  rw [← hT1]
  unfold some1
  split <;> simp
 have HFT : Hid (∀ j, j ≤ l.length → (T1 ++ (l.take j).flatMap (fun u => u.o.at 0 false)).length ≤ 8796093010000) := fun j hj => by
  have h2 : ((l.take j).flatMap (fun u => u.o.at 0 false)).length ≤ (l.flatMap (fun u => u.o.at 0 false)).length := by
   conv => rhs; rw [← List.take_append_drop j l, List.flatMap_append, List.length_append]
   omega
  rw [List.length_append]
  omega
 have HT1 := hid hT1
 obtain ⟨T, hTT⟩ : ∃ T, s0 :: (some1 lab ++ (l.flatMap (fun u => u.o.at 0 false) ++ [⟨#[59]⟩])) = T := ⟨_, rfl⟩
 rw [hTT]
 have HTT0 := hid hTT
 clear H hr hT hT1 hfl h1l hTT
 have hli : (l.length : Int) ≤ 1 := by omega
 have hlb : l.length ≤ 4194304 := by omega
 unfold Gives
 go_enter Tryz.func130, Tryz.ntmps130
 go_wp2_with fail
 refine (one_any _ _).mono ?_
 rintro e w1 ⟨v1, rfl, ho, hb⟩
 have HB1 := hid hb
 have HO1 := hid ho
 obtain ⟨A1, c1, rfl, -, -⟩ := ho.rd
 clear ho hb
 by_cases hn : lab.size = 0
 ·have he := (toList_nil lab).2 hn
  have HO2 : Hid (OwnS w1 w.heap.size (.slice A1 1 c1) T1) := by
   have h1 : [s0] = T1 := by rw [← HT1.out, some1, if_pos hn]
   rw [← h1]
   exact HO1
  have HBZ := HB1
  clear hn HO1 HB1
  go_wp2_with fail
  generalize w1 = wz at *
  go_loopw [7, 9, 20] (fun u _ i wr => ∃ (j : Nat), j ≤ l.length ∧ i = .int .i64 j ∧ Hid (OwnS wr w.heap.size u (T1 ++ (l.take j).flatMap (fun u => u.o.at 0 false))) ∧ Hid (Below w.heap.size w wr))
   (fun _ _ i _ => l.length - (intOf i).toNat)
  case atStart => exact ⟨0, Nat.zero_le _, rfl, by simpa using HO2, HBZ⟩
  case round =>
   obtain ⟨j, hj, rfl, ho, hb⟩ := hrel
   by_cases hlt : j < l.length
   ·obtain ⟨g, o, rfl, hg, y, hy, hv⟩ := HR.out.at_ hlt
    obtain ⟨c0, c1', c2, c3, c4, c5⟩ := hy.below hg hb.out
    have HA := hid fun w' (hb' : Below w.heap.size w w') => HH.out l[j] (List.getElem_mem hlt) 0 0 false y w' rfl (by decide) (Is.below hb' _ _ hv)
    have HL := hid (HFT.out (j + 1) (by omega))
    obtain ⟨fj, hfj⟩ : ∃ f, T1 ++ (l.take j).flatMap (fun u => u.o.at 0 false) = f := ⟨_, rfl⟩
    have HS : Hid (fj ++ l[j].o.at 0 false = T1 ++ (l.take (j + 1)).flatMap (fun u => u.o.at 0 false)) := by
     show _ = _
     rw [wordT_take l j hlt, ← List.append_assoc, hfj]
    rw [hfj] at ho
    have HL2 : Hid ((T1 ++ (l.take (j + 1)).flatMap (fun u => u.o.at 0 false)).length ≤ 8796093020000) := hid (Nat.le_trans HL.out (by decide))
    have HBA := hid (below_alloc' wr (.cells y.cells 25))
    have HPS : Hid (PS w [(_, fj)] (wr.alloc (.cells y.cells 25))) := hid (((PS.start w wr hb.out).add ho.out).below HBA.out)
    obtain ⟨B, cu, rfl, hcu, -⟩ := ho.out.rd
    obtain ⟨yk, ynm, yn, ys, yka, ykn, ykc, yla, yln, ylc⟩ := y
    simp only [X.v, X.cells] at HA HPS
    dsimp only at c0 c1' c2 c3 c4 c5
    generalize l[j].o.at 0 false = yt at *
    clear hv hy hcu hfj HBA HL
    go_wp2_with fail
    refine (HA.out _ HPS.out.b).mono ?_
    rintro e w3 ⟨v3, rfl, ho3, hb3⟩
    have HP3 := hid (HPS.out.call hb3 ho3)
    obtain ⟨A3, c3', rfl, -, -⟩ := ho3.rd
    clear ho3 hb3 c0 c1' c2 c3 c4 c5 HPS
    go_wp2_with fail
    refine (join_2 HP3.out (by repeat (first | exact .head _ | refine .tail _ ?_)) (by repeat (first | exact .head _ | refine .tail _ ?_)) HS.out HL2.out rfl).mono ?_
    rintro e w4 ⟨v4, rfl, ho4, hb4⟩
    have HO4 := hid ho4
    have HB4 := hid hb4
    clear ho4 hb4 HP3
    go_wp2_with fail
    go_roundw
    case rel => exact ⟨j + 1, by omega, by go_num, HO4, HB4⟩
    case measure => simp [intOf]; omega
   ·obtain rfl : j = l.length := by omega
    have HL := hid (HFT.out l.length (Nat.le_refl _))
    rw [List.take_length] at ho HL
    have HTT : Hid ((T1 ++ l.flatMap (fun u => u.o.at 0 false)) ++ [⟨#[59]⟩] = T) := by show _ = _; rw [HT.out, HTT0.out]
    have HL2 : Hid (((T1 ++ l.flatMap (fun u => u.o.at 0 false)) ++ [(⟨#[59]⟩ : ByteArray)]).length ≤ 8796093020000) := hid (by have := HL.out; rw [List.length_append]; simp only [List.length_cons, List.length_nil]; omega)
    rw [HTT.out] at HL2
    have HPS : Hid (PS w [(_, T1 ++ l.flatMap (fun u => u.o.at 0 false))] wr) := hid ((PS.start w wr hb.out).add ho.out)
    obtain ⟨B, cu, rfl, hcu, -⟩ := ho.out.rd
    generalize T1 ++ l.flatMap (fun u => u.o.at 0 false) = fl at *
    clear hcu ho
    go_wp2_with fail
    refine (one_any _ _).mono ?_
    rintro e w3 ⟨v3, rfl, ho3, hb3⟩
    have HP3 := hid (HPS.out.call hb3 ho3)
    obtain ⟨A3, c3', rfl, -, -⟩ := ho3.rd
    clear ho3 hb3 HPS
    go_wp2_with fail
    refine (join_2 HP3.out (by repeat (first | exact .head _ | refine .tail _ ?_)) (by repeat (first | exact .head _ | refine .tail _ ?_)) HTT.out HL2.out rfl).mono ?_
    rintro e w4 ⟨v4, rfl, ho4, hb4⟩
    obtain ⟨A4, c4, rfl, -, -⟩ := ho4.rd
    have HO4 := hid ho4
    have HB4 := hid hb4
    clear ho4 hb4 HP3
    go_wp2_with fail
    go_ret
    exact ⟨_, rfl, HO4.out, HB4.out⟩
 ·obtain ⟨he1, he2⟩ := str_some hn
  have HT1' : Hid ([s0] ++ [lab] = T1) := by show _ = _; rw [← HT1.out, some1, if_neg hn]; rfl
  have HBA := hid (below_alloc' w1 (.cells #[.string lab] 9))
  have HO1a := hid (HO1.out.below HBA.out)
  have HRD : Hid (Rd (w1.alloc (.cells #[.string lab] 9)) (.slice (some ⟨w1.heap.size, 0, none⟩) 1 1) [lab]) := hid (ownS_new w1 [lab] (by simp)).rd
  have HBS : Hid (w.heap.size ≤ (w1.alloc (.cells #[.string lab] 9)).heap.size) := hid (Nat.le_trans HB1.out.size HBA.out.size)
  have HBA2 := hid (HB1.out.trans (HBA.out.mono HB1.out.size))
  clear hn HO1 HBA
  go_wp2_with (at_builtin; refine app_strs rfl (.tmp 14) (.tmp 16) (by rfl) w.heap.size _ _ [s0] [lab] (by rfl) (by rfl) HO1a.out HRD.out HBS.out (by simp) ?_)
  intro vz wz h1 h2
  have HBZ := hid (HBA2.out.trans h2)
  have HO2 : Hid (OwnS wz w.heap.size vz T1) := by
   rw [← HT1'.out]
   exact h1
  obtain ⟨Az, cz, rfl, -, -⟩ := HO2.out.rd
  clear h1 h2 HO1a HRD HBS HBA2 HT1'
  go_wp2_with fail
  go_loopw [7, 9, 20] (fun u _ i wr => ∃ (j : Nat), j ≤ l.length ∧ i = .int .i64 j ∧ Hid (OwnS wr w.heap.size u (T1 ++ (l.take j).flatMap (fun u => u.o.at 0 false))) ∧ Hid (Below w.heap.size w wr))
   (fun _ _ i _ => l.length - (intOf i).toNat)
  case atStart => exact ⟨0, Nat.zero_le _, rfl, by simpa using HO2, HBZ⟩
  case round =>
   obtain ⟨j, hj, rfl, ho, hb⟩ := hrel
   by_cases hlt : j < l.length
   ·obtain ⟨g, o, rfl, hg, y, hy, hv⟩ := HR.out.at_ hlt
    obtain ⟨c0, c1', c2, c3, c4, c5⟩ := hy.below hg hb.out
    have HA := hid fun w' (hb' : Below w.heap.size w w') => HH.out l[j] (List.getElem_mem hlt) 0 0 false y w' rfl (by decide) (Is.below hb' _ _ hv)
    have HL := hid (HFT.out (j + 1) (by omega))
    obtain ⟨fj, hfj⟩ : ∃ f, T1 ++ (l.take j).flatMap (fun u => u.o.at 0 false) = f := ⟨_, rfl⟩
    have HS : Hid (fj ++ l[j].o.at 0 false = T1 ++ (l.take (j + 1)).flatMap (fun u => u.o.at 0 false)) := by
     show _ = _
     rw [wordT_take l j hlt, ← List.append_assoc, hfj]
    rw [hfj] at ho
    have HL2 : Hid ((T1 ++ (l.take (j + 1)).flatMap (fun u => u.o.at 0 false)).length ≤ 8796093020000) := hid (Nat.le_trans HL.out (by decide))
    have HBA := hid (below_alloc' wr (.cells y.cells 25))
    have HPS : Hid (PS w [(_, fj)] (wr.alloc (.cells y.cells 25))) := hid (((PS.start w wr hb.out).add ho.out).below HBA.out)
    obtain ⟨B, cu, rfl, hcu, -⟩ := ho.out.rd
    obtain ⟨yk, ynm, yn, ys, yka, ykn, ykc, yla, yln, ylc⟩ := y
    simp only [X.v, X.cells] at HA HPS
    dsimp only at c0 c1' c2 c3 c4 c5
    generalize l[j].o.at 0 false = yt at *
    clear hv hy hcu hfj HBA HL
    go_wp2_with fail
    refine (HA.out _ HPS.out.b).mono ?_
    rintro e w3 ⟨v3, rfl, ho3, hb3⟩
    have HP3 := hid (HPS.out.call hb3 ho3)
    obtain ⟨A3, c3', rfl, -, -⟩ := ho3.rd
    clear ho3 hb3 c0 c1' c2 c3 c4 c5 HPS
    go_wp2_with fail
    refine (join_2 HP3.out (by repeat (first | exact .head _ | refine .tail _ ?_)) (by repeat (first | exact .head _ | refine .tail _ ?_)) HS.out HL2.out rfl).mono ?_
    rintro e w4 ⟨v4, rfl, ho4, hb4⟩
    have HO4 := hid ho4
    have HB4 := hid hb4
    clear ho4 hb4 HP3
    go_wp2_with fail
    go_roundw
    case rel => exact ⟨j + 1, by omega, by go_num, HO4, HB4⟩
    case measure => simp [intOf]; omega
   ·obtain rfl : j = l.length := by omega
    have HL := hid (HFT.out l.length (Nat.le_refl _))
    rw [List.take_length] at ho HL
    have HTT : Hid ((T1 ++ l.flatMap (fun u => u.o.at 0 false)) ++ [⟨#[59]⟩] = T) := by show _ = _; rw [HT.out, HTT0.out]
    have HL2 : Hid (((T1 ++ l.flatMap (fun u => u.o.at 0 false)) ++ [(⟨#[59]⟩ : ByteArray)]).length ≤ 8796093020000) := hid (by have := HL.out; rw [List.length_append]; simp only [List.length_cons, List.length_nil]; omega)
    rw [HTT.out] at HL2
    have HPS : Hid (PS w [(_, T1 ++ l.flatMap (fun u => u.o.at 0 false))] wr) := hid ((PS.start w wr hb.out).add ho.out)
    obtain ⟨B, cu, rfl, hcu, -⟩ := ho.out.rd
    generalize T1 ++ l.flatMap (fun u => u.o.at 0 false) = fl at *
    clear hcu ho
    go_wp2_with fail
    refine (one_any _ _).mono ?_
    rintro e w3 ⟨v3, rfl, ho3, hb3⟩
    have HP3 := hid (HPS.out.call hb3 ho3)
    obtain ⟨A3, c3', rfl, -, -⟩ := ho3.rd
    clear ho3 hb3 HPS
    go_wp2_with fail
    refine (join_2 HP3.out (by repeat (first | exact .head _ | refine .tail _ ?_)) (by repeat (first | exact .head _ | refine .tail _ ?_)) HTT.out HL2.out rfl).mono ?_
    rintro e w4 ⟨v4, rfl, ho4, hb4⟩
    obtain ⟨A4, c4, rfl, -, -⟩ := ho4.rd
    have HO4 := hid ho4
    have HB4 := hid hb4
    clear ho4 hb4 HP3
    go_wp2_with fail
    go_ret
    exact ⟨_, rfl, HO4.out, HB4.out⟩
def TellM (v : V) : Prop := ∀ (no : Bool) (x : X) (w : World), Is w v x → Gives 98 #[x.v, .bool no] w (v.o.part no)
def TellB (v : V) : Prop := ∀ (x : X) (w : World), Is w v x → Gives 95 #[x.v] w (bareT (v.o.at 0 false))
def TellRs (v : V) : Prop := ∀ (x : X) (w : World), Is w v x → Gives 101 #[x.v] w v.o.st
end Go.Proofs.YtllpgoaanbiodaaGreatDoor.R
