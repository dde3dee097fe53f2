/-
 HeapGoes: whatever is done, both answer the same.
-/
import Derived.Test.YtcahijpbkjplmaaGreatDoorMGh
import Derived.Test.YtcahijpbkjplmaaGreatDoorMVm
import Derived.Test.YtcahijpbkjplmaaGreatDoorMVn
import Derived.Lib.MinMax
set_option linter.unusedSimpArgs false
namespace Go.Proofs.YtcahijpbkjplmaaGreatDoor.G
open Go.RowKit Go.Shelf Go.Maps Go.Lib Go.Proofs.YtcahijpbkjplmaaGreatDoor
structure LvB (w : World) (b X : Nat) (H : Hs) (w1 : World) (ow : Nat → Option Nat) (L : List OL) (owx : Nat → Option Nat) (R : List Value) : Prop where
 ph : PH w1 b H ow L
 rh : RH w1 X H owx R
 dis : ∀ k, owx k ≠ none → ow k = none
 own : ∀ k, ow k ≠ none → w.heap.size ≤ k
 ownx : ∀ k, owx k ≠ none → w.heap.size ≤ k
 bel : Below w.heap.size w w1
section
variable {w w1 w2 : World} {b X : Nat} {H H1 : Hs} {ow owx : Nat → Option Nat} {L : List OL} {R : List Value}
theorem LvB.low (h : LvB w b X H w1 ow L owx R) (hb : Below w1.heap.size w1 w2) : LvB w b X H w2 ow L owx R := ⟨h.ph.low hb, h.rh.low hb, h.dis, h.own, h.ownx, h.bel.trans (hb.mono h.bel.size)⟩
theorem LvB.off (h : LvB w b X H w1 ow L owx R) {k : Nat} (hk : k < w.heap.size) : ow k = none ∧ owx k = none := by
 constructor
 ·cases e : ow k with
  | none => rfl
  | some r =>
   have := h.own k (by rw [e]; simp)
   omega
 ·cases e : owx k with
  | none => rfl
  | some r =>
   have := h.ownx k (by rw [e]; simp)
   omega
theorem LvB.done (h : LvB w b X H w1 ow L owx R) {e : Ending} (d : DlR w1 b X ow owx H1 e w2) : e = .returned (.bool true) ∧ ∃ ow' L' owx' R', LvB w b X H1 w2 ow' L' owx' R' := by
 obtain ⟨e1, ow', L', owx', R', k⟩ := d
 refine ⟨e1, ow', L', owx', R', k.ph, k.rh, k.dis, fun j hj => ?_, fun j hj => ?_, h.bel.trans (k.fr.mono (fun j (hj : j < w.heap.size) => ⟨Nat.lt_of_lt_of_le hj h.bel.size, (h.off hj).1, (h.off hj).2⟩)).below⟩
 ·rcases k.new j hj with e | e
  ·exact h.own j e
  ·exact Nat.le_trans h.bel.size e
 ·rcases k.newx j hj with e | e
  ·exact h.ownx j e
  ·exact Nat.le_trans h.bel.size e
end
theorem row_mono {w : World} {B C s n : Nat} {T : TypeId} {v : Value} {xs : List Value} (h : w.ownsRow C T s v n xs) (hb : B ≤ C) : w.ownsRow B T s v n xs := ⟨h.1, h.2.imp id fun ⟨g, cap, cur, a, b, c⟩ => ⟨g, cap, cur, a, Nat.le_trans hb b, c⟩⟩
theorem keys_small {H : Hs} (g : Gd H) (v : Vl) : ∀ t ∈ keysR (H.obj v) ++ [LK], t.size ≤ 16777216 := by
 intro t ht
 rw [List.mem_append] at ht
 rcases ht with ht | ht
 ·unfold Hs.obj at ht
  cases e : H.at v with
  | none =>
   rw [e] at ht
   cases ht
  | some i =>
   rw [e] at ht
   have ht : t ∈ keysR H.os[i]? := ht
   cases ho : H.os[i]? with
   | none =>
    rw [ho] at ht
    cases ht
   | some o =>
    rw [ho] at ht
    have ht : t ∈ o.ps.map (·.key) := ht
    obtain ⟨p, hp, rfl⟩ := List.mem_map.1 ht
    exact ((g.og i o ho).s p hp).1
 ·rw [List.mem_singleton] at ht
  subst ht
  decide
set_option maxRecDepth 20000 in
set_option maxHeartbeats 4000000 in
theorem goes_law (m : Int) (l : List Op) (sl : Value) (w : World) (hT : Tab w) (hl : OpsB w w.heap.size sl l) (hsm : ∀ o ∈ l, Sm o) :
  Calls Tryz.prog 3 #[.int .i64 m, sl] w (AnsB w true) := by
 obtain ⟨A, sc, bg, rfl, hbg, hops⟩ := id hl
 have HT := Lib.hid hT
 have HSM := Lib.hid hsm
 have HOPS := Lib.hid hops
 have HBG := Lib.hid hbg
 have HLV := Lib.hid (live_any w hT)
 clear hT hsm hops hbg hl
 go_enter Tryz.func3, Tryz.ntmps3
 go_wp2_with fail
 refine HLV.out.mono ?_
 rintro e wl ⟨rfl, hb0⟩
 have HB0 := Lib.hid hb0
 clear hb0 HLV
 go_wp2_with fail
 refine (new_any m _).mono ?_
 rintro e wn ⟨b, ow, rfl, hp, hown, hb⟩
 have HP := Lib.hid hp
 have HOW := Lib.hid hown
 have HB1 := Lib.hid (HB0.out.trans (hb.mono HB0.out.size))
 have HSZ := Lib.hid (Nat.le_trans HB0.out.size (Nat.le_refl _))
 clear hp hown hb
 go_wp2_with fail
 refine (rnew_any m _).mono ?_
 rintro e wx ⟨X, owx, rfl, hr, hownx, hbx⟩
 have S1 : Hid (LvB w b X (Hs.new m) wx ow [] owx []) := ⟨HP.out.low hbx, hr, fun k hk => by
  cases e : ow k with
  | none => rfl
  | some r =>
   have h1 := HP.out.lt k (by rw [e]; simp)
   have h2 := hownx k hk
   omega, fun k hk => Nat.le_trans HB0.out.size (HOW.out k hk), fun k hk => Nat.le_trans HB1.out.size (hownx k hk), HB1.out.trans (hbx.mono HB1.out.size)⟩
 clear hr hownx hbx HP HOW HB0 HB1 HSZ
 by_cases h2 : 300 < l.length
 ·have h2' : (300 : Int) < (l.length : Int) := by omega
  clear h2
  go_wp2_with fail
  go_ret
  exact ⟨rfl, S1.out.bel⟩
 ·have h2' : ¬ (300 : Int) < (l.length : Int) := by omega
  have h3 : l.length ≤ 300 := by omega
  clear h2
  go_wp2_with fail
  go_loopw [33] (fun i wr => ∃ k : Nat, k ≤ l.length ∧ i = .int .i64 k ∧ Hid (∃ ow L owx R, LvB w b X ((Hs.new m).run' (l.take k)) wr ow L owx R)) (fun i _ => l.length - (intOf i).toNat)
  case atStart => exact ⟨0, Nat.zero_le _, rfl, ow, [], owx, [], S1.out⟩
  case round =>
   obtain ⟨k, hk, rfl, HSE⟩ := hrel
   by_cases hlt : k < l.length
   ·obtain ⟨owr, Lr, owxr, Rr, hs⟩ := HSE.out
    have HS := Lib.hid hs
    clear hs HSE
    obtain ⟨o, HO⟩ : ∃ o, Hid (l[k]? = some o) := ⟨_, List.getElem?_eq_getElem hlt⟩
    have HSO := Lib.hid (HSM.out o (List.mem_of_getElem? HO.out))
    obtain ⟨q, slo, bk, rfl, hbk, hvl, hrow⟩ := HOPS.out k o HO.out
    obtain ⟨zA, zc, rfl, -⟩ := id hvl
    have hrw := hrow.fr (HS.out.bel.block _ HBG.out)
    have HVL := Lib.hid (hvl.fr (HS.out.bel.block _ hbk))
    have HBK := Lib.hid hbk
    obtain ⟨c0, c1, c2, c3, c4, c5, c6, c7, c8, c9, c10, c11, c12, c13, c14, c15⟩ := hrw.all
    clear hrow hrw hvl hbk
    have S0 := Lib.hid (HS.out.low (below_new wr (.cells (opC o (.slice zA o.l.length zc)).toArray 34)))
    have HDO := Lib.hid (dl_any S0.out.ph S0.out.rh S0.out.dis (gd_runs (gd_new m) HSM.out k) o HSO.out.so (HVL.out.fr ((S0.out.bel.block _ HBK.out).trans (HS.out.bel.block _ HBK.out).symm)) ⟨Nat.lt_of_lt_of_le HBK.out S0.out.bel.size, S0.out.off HBK.out⟩ (HT.out.below S0.out.bel) (S0.out.off HT.out.lt) HSO.out.l)
    simp only [opV] at HDO
    go_wp2_with fail
    refine HDO.out.mono ?_
    intro e w2 hdo
    obtain ⟨rfl, ow2, L2, owx2, R2, hs2⟩ := S0.out.done hdo
    have HS2 := Lib.hid hs2
    clear hs2 hdo HDO S0 HS c0 c1 c2 c3 c4 c5 c6 c7 c8 c9 c10 c11 c12 c13 c14 c15
    have HU := Lib.hid (used_any HS2.out.ph)
    have HX := Lib.hid (rused_any HS2.out.rh)
    rw [← run_next HO.out] at HU HX
    have HS3 : Hid (LvB w b X ((Hs.new m).run' (l.take (k + 1))) w2 ow2 L2 owx2 R2) := by rw [run_next HO.out]; exact HS2.out
    clear HS2
    obtain ⟨n1, HN1⟩ : ∃ n1, Hid (((Hs.new m).run' (l.take (k + 1))).n = n1) := ⟨_, rfl⟩
    rw [HN1.out] at HU HX
    go_wp2_with fail
    refine HU.out.mono ?_
    rintro e w3 ⟨rfl, rfl⟩
    go_wp2_with fail
    refine HX.out.mono ?_
    rintro e w3 ⟨rfl, rfl⟩
    go_wp2_with fail
    go_roundw
    case rel => exact ⟨k + 1, hlt, by go_num, ow2, L2, owx2, R2, HS3.out⟩
    case measure => simp [intOf]; omega
   ·obtain rfl : k = l.length := by omega
    obtain ⟨owr, Lr, owxr, Rr, hs⟩ := HSE.out
    have HG := Lib.hid (gd_runs (gd_new m) HSM.out l.length)
    obtain ⟨Hn, HHn⟩ : ∃ Hn, Hid ((Hs.new m).run' (l.take l.length) = Hn) := ⟨_, rfl⟩
    rw [HHn.out] at hs HG
    have HS := Lib.hid hs
    clear hs HSE HHn
    obtain ⟨w9, h9⟩ : ∃ w9, w9 = wr := ⟨_, rfl⟩
    subst h9
    obtain ⟨ov, hov, hrow, -⟩ := HS.out.rh.hb
    obtain ⟨xA, xc, rfl, -, -⟩ := rows_form hrow
    have c0 := hov.cell (k := 0) rfl
    have hol : (Hn.os.length : Int) ≤ 100000 := by have := HG.out.os100; omega
    obtain ⟨mm, hmm⟩ : ∃ mm : Nat, min Hn.os.length 60 = mm := ⟨_, rfl⟩
    have hmi : min (Hn.os.length : Int) 60 = (mm : Int) := by omega
    have hm60 : mm ≤ 60 := by omega
    clear hov hrow hmm
    go_wp2_with fail
    try rw [hmi]
    clear c0
    go_loopw [56] (fun i wr => ∃ k : Nat, k ≤ mm ∧ i = .int .i64 k ∧ Hid (Below w9.heap.size w9 wr)) (fun i _ => mm - (intOf i).toNat)
    case atStart => exact ⟨0, Nat.zero_le _, rfl, Lib.hid (Below.refl _ _)⟩
    case round =>
     obtain ⟨k, hk, rfl, HBR⟩ := hrel
     obtain ⟨w3, h9⟩ : ∃ w3, w3 = wr := ⟨_, rfl⟩
     subst h9
     by_cases hlt : k < mm
     ·have hk60 : (k : Int) < 60 := by omega
      have hkm : (k : Int) < (mm : Int) := by omega
      have hbv := below_new w3 (.cells #[.int .i64 7, .int .i64 ((k : Int) + 1), .string ⟨#[]⟩] 29)
      have HV4 := Lib.hid (Blk.new w3 29 [.int .i64 7, .int .i64 ((k : Int) + 1), .string ⟨#[]⟩])
      have HB4 := Lib.hid (HBR.out.trans (hbv.mono HBR.out.size))
      have HLK := Lib.hid (looks_live (HS.out.ph.low HB4.out) (HS.out.rh.low HB4.out) HG.out (ref k))
      simp only [ref, Vl.v, nil] at HLK
      clear hbv
      go_wp2_with fail
      refine HLK.out.mono ?_
      rintro e w5 ⟨rfl, hb⟩
      have HV5 := Lib.hid (HV4.out.low hb)
      have HB5 := Lib.hid (HB4.out.trans (hb.mono HB4.out.size))
      obtain ⟨d0, d1, d2⟩ := Blk.three (v := ⟨7, (k : Int) + 1, ⟨#[]⟩⟩) HV5.out
      dsimp only at d0 d1 d2
      have H6 := Lib.hid (rd_6 (HS.out.ph.low HB5.out) (HS.out.rh.low HB5.out) HG.out ⟨6, ref k, ⟨0, 0, ⟨#[]⟩⟩, ⟨#[]⟩, ⟨⟨#[]⟩, ⟨0, 0, ⟨#[]⟩⟩, false, false, false⟩, []⟩ (.slice none 0 0) rfl)
      simp only [opV, ref, nil] at H6
      clear hb HV4 HB4 HLK
      go_wp2_with fail
      refine H6.out.mono ?_
      rintro e w6 ⟨rfl, hb⟩
      have HV6 := Lib.hid (HV5.out.low hb)
      have HB6 := Lib.hid (HB5.out.trans (hb.mono HB5.out.size))
      obtain ⟨d0, d1, d2⟩ := Blk.three (v := ⟨7, (k : Int) + 1, ⟨#[]⟩⟩) HV6.out
      dsimp only at d0 d1 d2
      have HK := Lib.hid (rkeys_own (HS.out.rh.low HB6.out) HG.out (ref k))
      have HKS := Lib.hid (keys_small HG.out (ref k))
      have HKN := Lib.hid (HG.out.keys_len (ref k))
      obtain ⟨ks, hks⟩ : ∃ ks, keysR (Hn.obj (ref k)) = ks := ⟨_, rfl⟩
      rw [hks] at HK HKS HKN
      simp only [ref, Vl.v, nil] at HK
      clear hb HV5 HB5 H6 hks
      go_wp2_with fail
      refine HK.out.mono ?_
      rintro e w7 ⟨r, C, rfl, hC1, hC2, hrow, hb⟩
      obtain ⟨rA, rc, rfl⟩ := row_len hrow
      have HROW := Lib.hid hrow
      have HV7 := Lib.hid (HV6.out.low hb)
      have HB7 := Lib.hid (HB6.out.trans (hb.mono HB6.out.size))
      have HC1 := Lib.hid (Nat.le_trans HB6.out.size hC1)
      have HCV := Lib.hid (Nat.lt_of_lt_of_le HV6.out.lt hC1)
      have HC7 := Lib.hid hC2
      clear hb hrow hC1 hC2 HV6 HB6 HK
      go_wp2_with fail
      refine (ulen_any _).mono ?_
      rintro e w8 ⟨rfl, hb⟩
      have hbs := below_new w8 (.cells #[.string LK] 9)
      have hbb := hb.trans (hbs.mono hb.size)
      have HX8 := Lib.hid (Blk.new w8 9 [.string LK])
      have HROW8 : Hid ((w8.alloc (.cells #[.string LK] 9)).ownsRow C 9 1 (.slice rA ks.length rc) ks.length (ks.map Value.string)) := (row_same HROW.out fun j e => hbb.block j (HROW.out.lt j e).2)
      have HV8 := Lib.hid (HV7.out.low hbb)
      have HB8 := Lib.hid (HB7.out.trans (hbb.mono HB7.out.size))
      have HC8 := Lib.hid (Nat.le_trans HC7.out hbb.size)
      have hkn := HKN.out
      clear hb hbs hbb HROW HV7 HB7 HC7 d0 d1 d2
      go_wp2_with (at_builtin; refine list_app2 rfl (.tmp 77) (.tmp 79) 41 9 _ 16 Tryz.underlying41 infoSt rfl (by decide) rfl C (.slice rA ks.length rc) ks.length _ (by rfl) HROW8.out w8.heap.size (.string LK) (by rfl) (HX8.out.cell rfl) rfl hkn HC8.out ?_; intro nv w10 h1 h2 h3; obtain ⟨nA, nc, rfl⟩ := row_len h1; have HROW10 := Lib.hid h1; have HGR := Lib.hid h2; clear h1 h2 h3)
      have HB10 : Hid (Below w9.heap.size w9 w10) := grow_low HB8.out (Nat.le_refl _) (row_mono HROW8.out HC1.out) HGR.out
      have HV10 : Hid (Blk w10 w3.heap.size 29 [.int .i64 7, .int .i64 ((k : Int) + 1), .string ⟨#[]⟩]) := HV8.out.fr (HGR.out.block _ HV8.out.lt fun e => absurd (HROW8.out.lt _ e.symm).1 (Nat.not_le_of_lt HCV.out))
      have HNM : Hid (Nm w10 (.slice nA (ks.length + 1) nc) (ks ++ [LK])) := own_nm HROW10.out (by rw [List.length_append]; rfl) (by rw [List.map_append]; rfl)
      have hnl : (ks ++ [LK]).length = ks.length + 1 := by rw [List.length_append]; rfl
      have hnx : ((ks.length + 1 : Nat) : Int) ≤ 100000000001 := by omega
      obtain ⟨kk, HKK⟩ : ∃ kk, Hid (ks ++ [LK] = kk) := ⟨_, rfl⟩
      rw [HKK.out] at HKS HNM hnl
      clear HROW8 HROW10 HGR HV8 HB8 HC8 HX8 HC1 HCV HKN hkn HKK
      go_wp2_with fail
      go_loopw [82] (fun i wr => ∃ j : Nat, j ≤ ks.length + 1 ∧ i = .int .i64 j ∧ Hid (Below w10.heap.size w10 wr)) (fun i _ => ks.length + 1 - (intOf i).toNat)
      case atStart => exact ⟨0, Nat.zero_le _, rfl, Lib.hid (Below.refl _ _)⟩
      case round =>
       obtain ⟨j, hj, rfl, HBJ⟩ := hrel
       by_cases hjl : j < ks.length + 1
       ·obtain ⟨t, HT1⟩ : ∃ t, Hid (kk[j]? = some t) := ⟨_, List.getElem?_eq_getElem (by rw [hnl]; exact hjl)⟩
        obtain ⟨g, rfl, c1⟩ : ∃ g, nA = some ⟨g, 0, none⟩ ∧ wr.cell? ⟨g, j, none⟩ = some (.string t) := by
         obtain ⟨A', c', e0, e1⟩ := HNM.out.low HBJ.out
         injection e0 with e2 e3 e4
         rcases e1 with e | ⟨g, e1, e5, e6⟩
         ·rw [e] at hnl
          exact absurd hnl.symm (Nat.succ_ne_zero _)
         ·exact ⟨g, e2.trans e1, e6 j _ HT1.out⟩
        have HV11 := Lib.hid (HV10.out.low HBJ.out)
        have HB11 := Lib.hid (HB10.out.trans (HBJ.out.mono HB10.out.size))
        obtain ⟨d0, d1, d2⟩ := Blk.three (v := ⟨7, (k : Int) + 1, ⟨#[]⟩⟩) HV11.out
        dsimp only at d0 d1 d2
        have hji : (j : Int) < (ks.length : Int) + 1 := by omega
        have hjj : (j : Int) < ((ks.length + 1 : Nat) : Int) := by omega
        have H5 := Lib.hid (rd_5 (HS.out.ph.low HB11.out) (HS.out.rh.low HB11.out) HG.out ⟨5, ref k, ⟨0, 0, ⟨#[]⟩⟩, t, ⟨⟨#[]⟩, ⟨0, 0, ⟨#[]⟩⟩, false, false, false⟩, []⟩ (HKS.out t (List.mem_of_getElem? HT1.out)) (.slice none 0 0) rfl)
        simp only [opV, ref, nil] at H5
        go_wp2_with fail
        refine H5.out.mono ?_
        rintro e w12 ⟨rfl, hb⟩
        have HB12 := Lib.hid (HBJ.out.trans (hb.mono HBJ.out.size))
        clear hb H5 d0 d1 d2 HV11 HB11 c1
        go_wp2_with fail
        go_roundw
        case rel => exact ⟨j + 1, hjl, by go_num, HB12⟩
        case measure => simp [intOf]; omega
       ·obtain rfl : j = ks.length + 1 := by omega
        have hjj : ¬ ((ks.length + 1 : Nat) : Int) < (ks.length : Int) + 1 := by omega
        have HB12 := Lib.hid (HB10.out.trans (HBJ.out.mono HB10.out.size))
        go_wp2_with fail
        go_roundw
        case rel => exact ⟨k + 1, hlt, by go_num, HB12⟩
        case measure => simp [intOf]; omega
     ·obtain rfl : k = mm := by omega
      have HB12 := Lib.hid (HS.out.bel.trans (HBR.out.mono HS.out.bel.size))
      go_wp2_with fail
      go_ret
      exact ⟨rfl, HB12.out⟩
end Go.Proofs.YtcahijpbkjplmaaGreatDoor.G
