/-
 A property of the reference, written in place.
 The reference's Put, by contract.
 A property of the reference, written whole; what Define answers.
 The reference's Define, by contract: a property that is not there.
-/
import Derived.Test.YtcahijpbkjplmaaGreatDoorMLj
import Derived.Test.YtcahijpbkjplmaaGreatDoorMZ0
set_option linter.unusedSimpArgs false
namespace Go.Proofs.YtcahijpbkjplmaaGreatDoor.G
open Go.RowKit Go.Shelf Go.Maps Go.Lib Go.Proofs.YtcahijpbkjplmaaGreatDoor
section
variable {w w' w1 w2 : World} {ow ow1 ow2 : Nat → Option Nat} {A i g cap n : Nat} {H H1 H2 Hc : Hs} {R R1 R2 : List Value} {o o' : Ob}
theorem RH.inrow (h : RH w A H ow R) {r : Value} {ps' : List Pr} (ho : H.os[i]? = some o) (hr : R[i]? = some r) (hrow : w1.ownsRow 0 31 7 r ps'.length (ps'.map Pr.cs).flatten)
  (hf : ∀ k q, ow k = some q → q ≠ i + 1 → w1.heap[k]? = w.heap[k]?) (hs : w.heap.size ≤ w1.heap.size) : RH w1 A (H.set i { o with ps := ps' }) ow R := by
 obtain ⟨⟨ov, h1, h2, h3⟩, h4, h5, h6, h7, h8⟩ := h
 have hlen : (H.set i { o with ps := ps' }).os.length = H.os.length := by simp [Hs.set]
 refine ⟨⟨ov, h1.fr (hf A 0 h4 (by omega)), ?_, h3⟩, h4, by rw [hlen]; exact h5, fun k a b => ?_, h7, fun k hk => Nat.lt_of_lt_of_le (h8 k hk) hs⟩
 ·rw [hlen]
  show World.ownsRow _ 0 _ 8 ov H.os.length ((((H.os.set i { o with ps := ps' }).zip R).map objV).flatten)
  have hz : ((H.os.zip R).map objV)[i]? = some (objV ({ o with ps := ps' }, r)) := by
   rw [List.getElem?_map, show (H.os.zip R)[i]? = some (o, r) from List.getElem?_zip_eq_some.2 ⟨ho, hr⟩]
   rfl
  obtain ⟨hzl, hze⟩ := List.getElem?_eq_some_iff.1 hz
  rw [zip_set hr, List.map_set, ← hze, List.set_getElem_self]
  exact row_same h2 fun q e => hf q 0 (h3 q e) (by omega)
 ·have hb : k < H.os.length := by rw [← hlen]; exact b
  by_cases e : i = k
  ·subst e
   have e1 : R[i] = r := (List.getElem?_eq_some_iff.1 hr).2
   have e2 : (H.set i { o with ps := ps' }).os[i].ps = ps' := by
    show ((H.os.set i _)[i]'(by simpa [Hs.set] using b)).ps = _
    rw [List.getElem_set_self]
   rw [e1, e2]
   exact hrow
  ·have e2 : (H.set i { o with ps := ps' }).os[k].ps = H.os[k].ps := by
    show ((H.os.set i _)[k]'(by simpa [Hs.set] using b)).ps = _
    rw [List.getElem_set_ne e]
   rw [e2]
   exact row_same (h6 k a hb) fun q e' => hf q (k + 1) (h7 k a q e') (by omega)
theorem Rg.prop1 (h : Rg w ow A g cap n Hc w1 ow1 R1) {rb rc pl j : Nat} {p p' : Pr} {u : Value} (ho : Hc.os[i]? = some o) (hr : R1[i]? = some (.slice (some ⟨rb, 0, none⟩) o.ps.length rc)) (hp : o.ps[pl]? = some p) (hj : j < 7) (he : Pr.cs p' = (Pr.cs p).set j u) :
  Rg w ow A g cap n (Hc.set i { o with ps := o.ps.set pl p' }) (w1.setCell ⟨rb, pl * 7 + j, none⟩ u) ow1 R1 ∧ Stp w1 ow1 (w1.setCell ⟨rb, pl * 7 + j, none⟩ u) ow1 := by
 obtain ⟨hrow, hown⟩ := h.ph.props ho hr
 have hpl := (List.getElem?_eq_some_iff.1 hp).1
 have hrb : ow1 rb = some (i + 1) := hown rb rfl
 have hrow2 : (w1.setCell ⟨rb, pl * 7 + j, none⟩ u).ownsRow 0 31 7 (.slice (some ⟨rb, 0, none⟩) o.ps.length rc) (o.ps.set pl p').length ((o.ps.set pl p').map Pr.cs).flatten := by
  rw [List.length_set, flat_set Pr.cs 7 prV_len o.ps pl j p p' u hj hp he]
  exact row_set hrow rfl (by omega) u
 have hk : ∀ k, k ≠ rb → (w1.setCell ⟨rb, pl * 7 + j, none⟩ u).heap[k]? = w1.heap[k]? := fun k hk => Below.heap_setCell _ _ _ _ hk
 have hsz : (w1.setCell ⟨rb, pl * 7 + j, none⟩ u).heap.size = w1.heap.size := by simp [World.setCell]
 refine h.keep (h.ph.inrow ho hr hrow2 (fun k q e hq => hk k fun e2 => by rw [e2, hrb] at e; exact hq (Option.some.inj e).symm) (by omega)) (by show (Hc.os.set i _).length = n; rw [List.length_set]; exact h.hl) (fun _ e => .inl e) (fun k _ e => hk k fun e2 => by rw [e2, hrb] at e; cases e) ?_ (by omega) ⟨rfl, rfl, rfl⟩
 refine (World.cell?_of_block (w := w1) (a := ⟨A, 0, none⟩) (hk A fun e => ?_)).trans h.c0
 have := h.ph.wA
 rw [e, hrb] at this
 have := Option.some.inj this
 omega
theorem Rg.propV (h : Rg w ow A g cap n Hc w1 ow1 R1) {rb rc pl : Nat} {p : Pr} {x : Vl} (ho : Hc.os[i]? = some o) (hr : R1[i]? = some (.slice (some ⟨rb, 0, none⟩) o.ps.length rc)) (hp : o.ps[pl]? = some p) :
  Rg w ow A g cap n (Hc.set i { o with ps := o.ps.set pl { p with v := x } }) (((w1.setCell ⟨rb, pl * 7 + 1, none⟩ (.int .i64 x.k)).setCell ⟨rb, pl * 7 + 2, none⟩ (.int .i64 x.n)).setCell ⟨rb, pl * 7 + 3, none⟩ (.string x.s)) ow1 R1 := by
 have hpl := (List.getElem?_eq_some_iff.1 hp).1
 have h1 := (h.prop1 (p' := { p with v := ⟨x.k, p.v.n, p.v.s⟩ }) (j := 1) (u := .int .i64 x.k) ho hr hp (by decide) rfl).1
 have h2 := (h1.prop1 (o := { o with ps := o.ps.set pl { p with v := ⟨x.k, p.v.n, p.v.s⟩ } }) (rc := rc) (p := { p with v := ⟨x.k, p.v.n, p.v.s⟩ }) (p' := { p with v := ⟨x.k, x.n, p.v.s⟩ }) (j := 2) (u := .int .i64 x.n) (set_getO ho) (by rw [hr, List.length_set]) (by rw [List.getElem?_set_self hpl]) (by decide) rfl).1
 have h3 := (h2.prop1 (o := { o with ps := (o.ps.set pl { p with v := ⟨x.k, p.v.n, p.v.s⟩ }).set pl { p with v := ⟨x.k, x.n, p.v.s⟩ } }) (rc := rc) (p := { p with v := ⟨x.k, x.n, p.v.s⟩ }) (p' := { p with v := x }) (j := 3) (u := .string x.s) (set_getO (set_getO ho)) (by rw [hr, List.length_set, List.length_set]) (by rw [List.getElem?_set_self (by rw [List.length_set]; exact hpl)]) (by decide) rfl).1
 rw [set_set2, set_set2] at h3
 simp only [List.set_set] at h3
 exact h3
end
section
variable {w w' w1 w2 : World} {ow ow1 ow2 : Nat → Option Nat} {A i : Nat} {H H1 H2 Hc : Hs} {R R1 R2 : List Value} {o o' : Ob}
section
variable {v x : Vl} {key : ByteArray} {k : Nat} {p : Pr}
theorem put_out (hat : H.at v = none) : H.put ix LK AR v key x = (H, 110) := by
 unfold Hs.put
 simp only [hat]
theorem put_lw (hat : H.at v = some i) (ho : H.os[i]? = some o) (hl : (decide (o.cls = AR) && decide (key = LK)) = true) (h : o.lw = false) : H.put ix LK AR v key x = (H, 110) := by
 unfold Hs.put Ob.isLen
 simp only [hat, ho, hl, h, if_true]
theorem put_len (hat : H.at v = some i) (ho : H.os[i]? = some o) (hl : (decide (o.cls = AR) && decide (key = LK)) = true) (h : o.lw = true) : H.put ix LK AR v key x = (H.set i (o.length ix x).1, (o.length ix x).2) := by
 unfold Hs.put Ob.isLen
 simp only [hat, ho, hl, h, if_true]
 rfl
theorem put_no (hat : H.at v = some i) (ho : H.os[i]? = some o) (hl : (decide (o.cls = AR) && decide (key = LK)) = false) (hf : o.ps.findIdx? (has key) = some k) (hp : o.ps[k]? = some p) (h : p.w = false) : H.put ix LK AR v key x = (H, 110) := by
 unfold Hs.put Ob.isLen
 simp only [hat, ho, hl, hf, hp, h, if_true]
 rfl
theorem put_set (hat : H.at v = some i) (ho : H.os[i]? = some o) (hl : (decide (o.cls = AR) && decide (key = LK)) = false) (hf : o.ps.findIdx? (has key) = some k) (hp : o.ps[k]? = some p) (h : p.w = true) : H.put ix LK AR v key x = (H.set i { o with ps := o.ps.set k { p with v := x } }, 0) := by
 unfold Hs.put Ob.isLen
 simp only [hat, ho, hl, hf, hp, h]
 rfl
theorem put_bar (hat : H.at v = some i) (ho : H.os[i]? = some o) (hl : (decide (o.cls = AR) && decide (key = LK)) = false) (hf : o.ps.findIdx? (has key) = none) (hp : H.find LK AR o.proto key = some p) (h : p.w = false) : H.put ix LK AR v key x = (H, 110) := by
 unfold Hs.put Ob.isLen
 simp only [hat, ho, hl, hf, hp, h, if_true]
 rfl
theorem put_add (hat : H.at v = some i) (ho : H.os[i]? = some o) (hl : (decide (o.cls = AR) && decide (key = LK)) = false) (hf : o.ps.findIdx? (has key) = none) (hp : ∀ p, H.find LK AR o.proto key = some p → p.w = true) : H.put ix LK AR v key x = H.add ix AR i o ⟨key, x, true, true, true⟩ := by
 unfold Hs.put Ob.isLen
 cases hq : H.find LK AR o.proto key with
 | none => simp only [hat, ho, hl, hf, hq]; rfl
 | some p => simp only [hat, ho, hl, hf, hq, hp p hq]; rfl
end
set_option maxRecDepth 8000 in
set_option maxHeartbeats 4000000 in
theorem rput_any (h : RH w A H ow R) (gd : Gd H) (v : Vl) (key : ByteArray) (x : Vl) (hs : key.size ≤ 16777216) :
  Calls Tryz.prog 34 #[pv A, v.v, .string key, x.v] w (RpR w A ow (.int .i64 (H.put ix LK AR v key x).2) (H.put ix LK AR v key x).1) := by
 have hol := gd.os100
 cases hat : H.at v with
 | none =>
  rw [put_out hat]
  refine (rput_none h v key x hol hat).mono ?_
  rintro e w1 ⟨rfl, hb⟩
  exact ⟨rfl, ow, R, Rch.below h hb⟩
 | some i =>
  obtain ⟨o, ho⟩ : ∃ o, H.os[i]? = some o := ⟨H.os[i]'(at_lt hat), List.getElem?_eq_getElem (at_lt hat)⟩
  have hi := at_lt hat
  have hob := obj_some hat ho
  obtain ⟨g, cap, hcap, hrg⟩ := Rg.start h ho
  have hb0 := two_low (w := w) 29 29 v.cs x.cs
  have HB := Lib.hid hb0
  have HR0 := Lib.hid (hrg.low hb0)
  have HV0 := Lib.hid (blk_two' w 29 29 v.cs x.cs).1
  have HX0 := Lib.hid (blk_two' w 29 29 v.cs x.cs).2
  have HO := Lib.hid ho
  have HXO : Hid (ow (w.heap.size + 1) = none) := h.off (Nat.le_succ _)
  have hii : (i : Int) < (H.os.length : Int) := by omega
  have hi0 : ¬ (i : Int) < 0 := by omega
  have HLO : Hid (o.ps.length ≤ 100000) := Nat.le_trans (gd.og i o ho).l gd.n100
  have HT := Lib.hid (rat_any (h.low hb0) v hol)
  rw [hat] at HT
  have HL := Lib.hid fun w' (hb : Below w.heap.size w w') => rislen_any (h.low hb) v key hol
  rw [hob, show (decide (clsR (some o) = AR) && decide (key = LK)) = (decide (o.cls = AR) && decide (key = LK)) from rfl] at HL
  have HPR := Lib.hid fun w' (hb : Below w.heap.size w w') => rprop_any (h.low hb) gd v key hs
  rw [hob] at HPR
  have HFI := Lib.hid fun w' (hb : Below w.heap.size w w') => rfind_any (h.low hb) gd (refO o.proto) key hs
  rw [at_refO gd.ok ho] at HFI
  have HLN := Lib.hid fun w' (hb : Below w.heap.size w w') hc => rlength_any (h.low hb) gd ho hc x
  have HAD := Lib.hid fun w' (hb : Below w.heap.size w w') => radd_any (h.low hb) gd ho ⟨key, x, true, true, true⟩ hs
  obtain ⟨rl, HRL⟩ : ∃ rl, Hid (H.put ix LK AR v key x = rl) := ⟨_, rfl⟩
  have HD1 := Lib.hid fun hl hw => HRL.out.symm.trans (put_lw (x := x) hat ho hl hw)
  have HD2 := Lib.hid fun hl hw => HRL.out.symm.trans (put_len (x := x) hat ho hl hw)
  have HD3 := Lib.hid fun hl k p hf hp hw => HRL.out.symm.trans (put_no (x := x) (k := k) (p := p) hat ho hl hf hp hw)
  have HD4 := Lib.hid fun hl k p hf hp hw => HRL.out.symm.trans (put_set (x := x) (k := k) (p := p) hat ho hl hf hp hw)
  have HD5 := Lib.hid fun hl p hf hp hw => HRL.out.symm.trans (put_bar (x := x) (p := p) hat ho hl hf hp hw)
  have HD6 := Lib.hid fun hl hf hp => HRL.out.symm.trans (put_add (x := x) hat ho hl hf hp)
  rw [HRL.out]
  obtain ⟨r, hr, -⟩ := HR0.out.cell ho
  have HRR := Lib.hid hr
  obtain ⟨d0, d1, d2⟩ := Blk.three HV0.out
  clear h gd hat ho hi hob hrg hb0 hr hcap hol
  obtain ⟨vk, vn, vs⟩ := v
  obtain ⟨xk, xn, xs⟩ := x
  simp only [Vl.v, Vl.cs, Pr.v', atI] at HB HR0 HV0 HX0 HT HL HPR HFI HLN HAD d0 d1 d2 ⊢
  go_enter Tryz.func34, Tryz.ntmps34
  go_wp2_with fail
  refine HT.out.mono ?_
  rintro e w1 ⟨rfl, hb⟩
  have HB1 := Lib.hid (HB.out.trans (hb.mono HB.out.size))
  have HR1 := Lib.hid (HR0.out.low hb)
  have HV1 := Lib.hid (HV0.out.low hb)
  have HX1 := Lib.hid (HX0.out.low hb)
  have HL := HL.out w1 HB1.out
  clear hb d0 d1 d2 HR0 HV0 HX0 HT HB
  obtain ⟨d0, d1, d2⟩ := Blk.three (v := ⟨vk, vn, vs⟩) HV1.out
  dsimp only at d0 d1 d2
  cases hl : (decide (o.cls = AR) && decide (key = LK)) with
  | true =>
   rw [hl] at HL
   have HLF := Lib.hid hl
   have hca : o.cls = AR := by
    rw [Bool.and_eq_true] at hl
    exact of_decide_eq_true hl.1
   have HCA := Lib.hid hca
   clear hl hca
   go_wp2_with fail
   refine HL.mono ?_
   rintro e w2 ⟨rfl, hb⟩
   have HB2 := Lib.hid (HB1.out.trans (hb.mono HB1.out.size))
   have HR2 := Lib.hid (HR1.out.low hb)
   have HX2 := Lib.hid (HX1.out.low hb)
   obtain ⟨hcell, -⟩ := HR2.out.pcell HO.out HRR.out
   have c7 := (hcell 7 _ rfl).1
   have c0 := HR2.out.c0
   clear hb HL hcell d0 d1 d2
   obtain ⟨d0, d1, d2⟩ := Blk.three (v := ⟨xk, xn, xs⟩) HX2.out
   dsimp only at d0 d1 d2
   cases hw : o.lw with
   | false =>
    rw [hw] at c7
    have HE := Lib.hid (HD1.out HLF.out hw)
    clear hw
    go_wp2_with fail
    go_ret
    exact ⟨by rw [HE.out]; rfl, ow, R, by rw [HE.out]; exact HR2.out.out⟩
   | true =>
    rw [hw] at c7
    have HE := Lib.hid (HD2.out HLF.out hw)
    have HLN := HLN.out w2 HB2.out HCA.out
    clear hw
    go_wp2_with fail
    refine HLN.mono ?_
    rintro e w3 ⟨rfl, ow3, R3, hch⟩
    have HCH := Lib.hid (hch.low HB2.out)
    clear hch HLN c7 c0 d0 d1 d2
    go_wp2_with fail
    go_ret
    exact ⟨by rw [HE.out]; rfl, ow3, R3, by rw [HE.out]; exact HCH.out⟩
  | false =>
   rw [hl] at HL
   have HLF := Lib.hid hl
   go_wp2_with fail
   refine HL.mono ?_
   rintro e w2 ⟨rfl, hb⟩
   have HB2 := Lib.hid (HB1.out.trans (hb.mono HB1.out.size))
   have HR2 := Lib.hid (HR1.out.low hb)
   have HV2 := Lib.hid (HV1.out.low hb)
   have HX2 := Lib.hid (HX1.out.low hb)
   have HPR := HPR.out w2 HB2.out
   clear hb HL hl d0 d1 d2 HR1 HV1 HX1 HB1
   obtain ⟨d0, d1, d2⟩ := Blk.three (v := ⟨vk, vn, vs⟩) HV2.out
   dsimp only at d0 d1 d2
   cases hf : o.ps.findIdx? (has key) with
   | none =>
    rw [propR_none hf] at HPR
    have hneg : ¬ (0 : Int) ≤ (-1 : Int) := by decide
    go_wp2_with fail
    refine HPR.mono ?_
    rintro e w3 ⟨rfl, hb⟩
    have HB3 := Lib.hid (HB2.out.trans (hb.mono HB2.out.size))
    have HR3 := Lib.hid (HR2.out.low hb)
    have HX3 := Lib.hid (HX2.out.low hb)
    have HFI := HFI.out w3 HB3.out
    obtain ⟨hcell, -⟩ := HR3.out.pcell HO.out HRR.out
    have c1 := (hcell 1 _ rfl).1
    have c2 := (hcell 2 _ rfl).1
    have c3 := (hcell 3 _ rfl).1
    have c0 := HR3.out.c0
    dsimp only at c1 c2 c3
    clear hb HPR d0 d1 d2 hcell
    cases hq : H.find LK AR o.proto key with
    | none =>
     have HE := Lib.hid (HD6.out HLF.out hf (fun p e => by rw [hq] at e; cases e))
     rw [hq] at HFI
     simp only [ownR, Pr.v', pr0] at HFI
     clear hq hf
     go_wp2_with fail
     refine HFI.mono ?_
     rintro e w4 ⟨rfl, hb⟩
     have HB4 := Lib.hid (HB3.out.trans (hb.mono HB3.out.size))
     have hbn := below_new w4 (.cells #[.string ⟨#[]⟩, .int .i64 0, .int .i64 0, .string ⟨#[]⟩, .bool false, .bool false, .bool false] 31)
     have HX5 := Lib.hid ((HX3.out.low hb).low hbn)
     have HB5 := Lib.hid (HB4.out.trans (hbn.mono HB4.out.size))
     have HAD := HAD.out _ HB5.out
     obtain ⟨d0, d1, d2⟩ := Blk.three (v := ⟨xk, xn, xs⟩) HX5.out
     dsimp only at d0 d1 d2
     clear hb hbn HFI c0 c1 c2 c3
     go_wp2_with fail
     refine HAD.mono ?_
     rintro e w5 ⟨rfl, ow5, R5, hch⟩
     have HCH := Lib.hid (hch.low HB5.out)
     clear hch HAD d0 d1 d2
     go_wp2_with fail
     go_ret
     exact ⟨by rw [HE.out]; rfl, ow5, R5, by rw [HE.out]; exact HCH.out⟩
    | some p =>
     rw [hq] at HFI
     cases hw : p.w with
     | false =>
      have HE := Lib.hid (HD5.out HLF.out p hf hq hw)
      obtain ⟨pk, ⟨pvk, pvn, pvs⟩, pw, pe, pf⟩ := p
      dsimp only at hw
      subst hw
      simp only [ownR, Pr.v'] at HFI
      clear hq hf
      go_wp2_with fail
      refine HFI.mono ?_
      rintro e w4 ⟨rfl, hb⟩
      have HR4 := Lib.hid ((HR3.out.low hb).low (below_new w4 (.cells #[.string pk, .int .i64 pvk, .int .i64 pvn, .string pvs, .bool false, .bool pe, .bool pf] 31)))
      clear hb HFI c0 c1 c2 c3
      go_wp2_with fail
      go_ret
      exact ⟨by rw [HE.out]; rfl, ow, R, by rw [HE.out]; exact HR4.out.out⟩
     | true =>
      have HE := Lib.hid (HD6.out HLF.out hf (fun p' e => by rw [hq] at e; rw [← Option.some.inj e]; exact hw))
      obtain ⟨pk, ⟨pvk, pvn, pvs⟩, pw, pe, pf⟩ := p
      dsimp only at hw
      subst hw
      simp only [ownR, Pr.v'] at HFI
      clear hq hf
      go_wp2_with fail
      refine HFI.mono ?_
      rintro e w4 ⟨rfl, hb⟩
      have HB4 := Lib.hid (HB3.out.trans (hb.mono HB3.out.size))
      have hbn := below_new w4 (.cells #[.string pk, .int .i64 pvk, .int .i64 pvn, .string pvs, .bool true, .bool pe, .bool pf] 31)
      have HX5 := Lib.hid ((HX3.out.low hb).low hbn)
      have HB5 := Lib.hid (HB4.out.trans (hbn.mono HB4.out.size))
      have HAD := HAD.out _ HB5.out
      obtain ⟨d0, d1, d2⟩ := Blk.three (v := ⟨xk, xn, xs⟩) HX5.out
      dsimp only at d0 d1 d2
      clear hb hbn HFI c0 c1 c2 c3
      go_wp2_with fail
      refine HAD.mono ?_
      rintro e w5 ⟨rfl, ow5, R5, hch⟩
      have HCH := Lib.hid (hch.low HB5.out)
      clear hch HAD d0 d1 d2
      go_wp2_with fail
      go_ret
      exact ⟨by rw [HE.out]; rfl, ow5, R5, by rw [HE.out]; exact HCH.out⟩
   | some pl =>
    rw [propR_some hf] at HPR
    have hpl2 := idx_lt_len hf
    obtain ⟨p, hp⟩ : ∃ p, o.ps[pl]? = some p := ⟨_, List.getElem?_eq_getElem hpl2⟩
    have HPL := Lib.hid hpl2
    have HP := Lib.hid hp
    have hk0 : (0 : Int) ≤ (pl : Int) := by omega
    have hk1 : (pl : Int) < (o.ps.length : Int) := by omega
    go_wp2_with fail
    refine HPR.mono ?_
    rintro e w3 ⟨rfl, hb⟩
    have HR3 := Lib.hid (HR2.out.low hb)
    have HX3 := Lib.hid (HX2.out.low hb)
    obtain ⟨hcell, hrow⟩ := HR3.out.pcell HO.out HRR.out
    obtain ⟨rA, rc, hre, hlc2, hcs⟩ := HR3.out.ph.prow HO.out HRR.out
    subst hre
    obtain ⟨rb, rfl, -, hpc⟩ := hcs pl p hp
    have d4 := hpc 4 _ rfl
    have c4 := (hcell 4 _ rfl).1
    have c0 := HR3.out.c0
    clear hb HPR d0 d1 d2 hcs hpc hcell
    cases hw : p.w with
    | false =>
     rw [hw] at d4
     have HE := Lib.hid (HD3.out HLF.out pl p hf hp hw)
     clear hrow hf hp hlc2
     go_wp2_with fail
     go_ret
     exact ⟨by rw [HE.out]; rfl, ow, R, by rw [HE.out]; exact HR3.out.out⟩
    | true =>
     rw [hw] at d4
     have HE := Lib.hid (HD4.out HLF.out pl p hf hp hw)
     have HR5 := Lib.hid (HR3.out.low (below_draw w3))
     have HX5 := Lib.hid (HX3.out.low (below_draw w3))
     have hs5 : (fun w' : World => w'.cell? ⟨A, 0, none⟩ = some (.slice (some ⟨g, 0, none⟩) H.os.length cap) ∧ w'.cell? ⟨g, i * 8 + 4, none⟩ = some (.slice (some ⟨rb, 0, none⟩) o.ps.length rc) ∧ w'.cell? ⟨w.heap.size + 1, 0, none⟩ = some (.int .i64 xk) ∧ w'.cell? ⟨w.heap.size + 1, 1, none⟩ = some (.int .i64 xn) ∧ w'.cell? ⟨w.heap.size + 1, 2, none⟩ = some (.string xs)) w3.drew := ⟨HR5.out.c0, ((HR5.out.pcell HO.out HRR.out).1 4 _ rfl).1, HX5.out.cell (k := 0) rfl, HX5.out.cell (k := 1) rfl, HX5.out.cell (k := 2) rfl⟩
     dsimp only at hs5
     clear hrow hf hp hlc2
     go_wp2_with fail
     clear c0 c4 d4
     refine wp_region_held_drew (S := (fun w' : World => w'.cell? ⟨A, 0, none⟩ = some (.slice (some ⟨g, 0, none⟩) H.os.length cap) ∧ w'.cell? ⟨g, i * 8 + 4, none⟩ = some (.slice (some ⟨rb, 0, none⟩) o.ps.length rc) ∧ w'.cell? ⟨w.heap.size + 1, 0, none⟩ = some (.int .i64 xk) ∧ w'.cell? ⟨w.heap.size + 1, 1, none⟩ = some (.int .i64 xn) ∧ w'.cell? ⟨w.heap.size + 1, 2, none⟩ = some (.string xs))) (by kernel_rfl) (hs5) (fun hHeld0 => ?_)
     generalize w3.drew = w5 at *
     refine tk 0 ?_ ‹_› ?_ ?_; rotate_left; focus (intro w0 hSw; obtain ⟨e0, e1, e2, e3, e4⟩ := hSw; go_simp; try with_reducible rfl)
     refine tk 1 ?_ ‹_› ?_ ?_; rotate_left; focus (intro w0 hSw; obtain ⟨e0, e1, e2, e3, e4⟩ := hSw; go_simp; try with_reducible rfl)
     refine tk 2 ?_ ‹_› ?_ ?_; rotate_left; focus (intro w0 hSw; obtain ⟨e0, e1, e2, e3, e4⟩ := hSw; go_simp; try with_reducible rfl)
     refine tk 3 ?_ ‹_› ?_ ?_; rotate_left; focus (intro w0 hSw; obtain ⟨e0, e1, e2, e3, e4⟩ := hSw; go_simp; try with_reducible rfl)
     refine tk 4 ?_ ‹_› ?_ ?_; rotate_left; focus (intro w0 hSw; obtain ⟨e0, e1, e2, e3, e4⟩ := hSw; go_simp; try with_reducible rfl)
     refine tk 5 ?_ ‹_› ?_ ?_; rotate_left; focus (intro w0 hSw; obtain ⟨e0, e1, e2, e3, e4⟩ := hSw; go_simp; try with_reducible rfl)
     refine tk 6 ?_ ‹_› ?_ ?_; rotate_left; focus (intro w0 hSw; obtain ⟨e0, e1, e2, e3, e4⟩ := hSw; go_simp; try with_reducible rfl)
     refine tk 7 ?_ ‹_› ?_ ?_; rotate_left; focus (intro w0 hSw; obtain ⟨e0, e1, e2, e3, e4⟩ := hSw; go_simp; try with_reducible rfl)
     refine tk 8 ?_ ‹_› ?_ ?_; rotate_left; focus (intro w0 hSw; obtain ⟨e0, e1, e2, e3, e4⟩ := hSw; go_simp; try with_reducible rfl)
     refine tk 9 ?_ ‹_› ?_ ?_; rotate_left; focus (intro w0 hSw; obtain ⟨e0, e1, e2, e3, e4⟩ := hSw; go_simp; try with_reducible rfl)
     refine tk 10 ?_ ‹_› ?_ ?_; rotate_left; focus (intro w0 hSw; obtain ⟨e0, e1, e2, e3, e4⟩ := hSw; go_simp; try with_reducible rfl)
     refine tk 11 ?_ ‹_› ?_ ?_; rotate_left; focus (intro w0 hSw; obtain ⟨e0, e1, e2, e3, e4⟩ := hSw; go_simp; try with_reducible rfl)
     try simp only [PT]
     refine wpAnyH_ready (rs := [12]) (by decide +kernel) (by simp) (AllReadyH.cons rfl (fun K hK => ?_) AllReadyH.nil)
     have hrow := (HR5.out.pcell HO.out HRR.out).2
     obtain ⟨b1, z1⟩ := prop_cell (k := pl) hrow rfl HP.out (j := 1) rfl
     obtain ⟨b2, z2⟩ := prop_cell (k := pl) hrow rfl HP.out (j := 2) rfl
     obtain ⟨b3, z3⟩ := prop_cell (k := pl) hrow rfl HP.out (j := 3) rfl
     have HR6 := Lib.hid (HR5.out.propV (x := ⟨xk, xn, xs⟩) HO.out HRR.out HP.out)
     have HX6 : Hid (Blk (((w5.setCell ⟨rb, pl * 7 + 1, none⟩ (.int .i64 xk)).setCell ⟨rb, pl * 7 + 2, none⟩ (.int .i64 xn)).setCell ⟨rb, pl * 7 + 3, none⟩ (.string xs)) (w.heap.size + 1) 29 [.int .i64 xk, .int .i64 xn, .string xs]) := by
      have hne : w.heap.size + 1 ≠ rb := fun e => by
       have h1 := (HR5.out.ph.props HO.out HRR.out).2 rb rfl
       rw [← e, HXO.out] at h1
       cases h1
      exact ((HX5.out.other (p := ⟨rb, pl * 7 + 1, none⟩) hne _).other (p := ⟨rb, pl * 7 + 2, none⟩) hne _).other (p := ⟨rb, pl * 7 + 3, none⟩) hne _
     have hs6 : (fun w' : World => w'.cell? ⟨A, 0, none⟩ = some (.slice (some ⟨g, 0, none⟩) H.os.length cap) ∧ w'.cell? ⟨g, i * 8 + 4, none⟩ = some (.slice (some ⟨rb, 0, none⟩) o.ps.length rc) ∧ w'.cell? ⟨w.heap.size + 1, 0, none⟩ = some (.int .i64 xk) ∧ w'.cell? ⟨w.heap.size + 1, 1, none⟩ = some (.int .i64 xn) ∧ w'.cell? ⟨w.heap.size + 1, 2, none⟩ = some (.string xs)) (((w5.setCell ⟨rb, pl * 7 + 1, none⟩ (.int .i64 xk)).setCell ⟨rb, pl * 7 + 2, none⟩ (.int .i64 xn)).setCell ⟨rb, pl * 7 + 3, none⟩ (.string xs)) := ⟨HR6.out.c0, ((HR6.out.pcell (set_getO HO.out) HRR.out).1 4 _ rfl).1, HX6.out.cell (k := 0) rfl, HX6.out.cell (k := 1) rfl, HX6.out.cell (k := 2) rfl⟩
     dsimp only at hs6
     clear hrow
     go_simp
     refine hK.out _ _ hs6 (fun hHeld1 => ?_)
     clear hK K hHeld0
     refine wpAnyH_done (by kernel_rfl) ?_ _
     clear hHeld1 hs5 hs6 b1 b2 b3 z1 z2 z3
     go_wp2_with fail
     go_ret
     exact ⟨by rw [HE.out]; rfl, ow, R, by rw [HE.out]; exact HR6.out.out⟩
end
section
variable {w w' w1 w2 : World} {ow ow1 ow2 : Nat → Option Nat} {A i g cap n : Nat} {H H1 H2 Hc : Hs} {R R1 R2 : List Value} {o o' : Ob}
theorem Rg.prop2 {rb rc pl j : Nat} {p q q' : Pr} {u : Value} (ho : Hc.os[i]? = some o) (h : Rg w ow A g cap n (Hc.set i { o with ps := o.ps.set pl q }) w1 ow1 R1) (hr : R1[i]? = some (.slice (some ⟨rb, 0, none⟩) o.ps.length rc)) (hp : o.ps[pl]? = some p) (hj : j < 7) (he : Pr.cs q' = (Pr.cs q).set j u) :
  Rg w ow A g cap n (Hc.set i { o with ps := o.ps.set pl q' }) (w1.setCell ⟨rb, pl * 7 + j, none⟩ u) ow1 R1 := by
 have hpl := (List.getElem?_eq_some_iff.1 hp).1
 have h2 := (h.prop1 (o := { o with ps := o.ps.set pl q }) (rc := rc) (p := q) (p' := q') (j := j) (u := u) (set_getO ho) (by rw [hr, List.length_set]) (by rw [List.getElem?_set_self hpl]) hj he).1
 rw [set_set2] at h2
 simp only [List.set_set] at h2
 exact h2
theorem Rg.propA (h : Rg w ow A g cap n Hc w1 ow1 R1) {rb rc pl : Nat} {p q : Pr} (ho : Hc.os[i]? = some o) (hr : R1[i]? = some (.slice (some ⟨rb, 0, none⟩) o.ps.length rc)) (hp : o.ps[pl]? = some p) :
  Rg w ow A g cap n (Hc.set i { o with ps := o.ps.set pl q }) (((((((w1.setCell ⟨rb, pl * 7 + 0, none⟩ (.string q.key)).setCell ⟨rb, pl * 7 + 1, none⟩ (.int .i64 q.v.k)).setCell ⟨rb, pl * 7 + 2, none⟩ (.int .i64 q.v.n)).setCell ⟨rb, pl * 7 + 3, none⟩ (.string q.v.s)).setCell ⟨rb, pl * 7 + 4, none⟩ (.bool q.w)).setCell ⟨rb, pl * 7 + 5, none⟩ (.bool q.e)).setCell ⟨rb, pl * 7 + 6, none⟩ (.bool q.f)) ow1 R1 := by
 have h0 := (h.prop1 (p' := { p with key := q.key }) (j := 0) (u := .string q.key) ho hr hp (by decide) rfl).1
 have h1 := Rg.prop2 (q' := ⟨q.key, ⟨q.v.k, p.v.n, p.v.s⟩, p.w, p.e, p.f⟩) (j := 1) (u := .int .i64 q.v.k) ho h0 hr hp (by decide) rfl
 have h2 := Rg.prop2 (q' := ⟨q.key, ⟨q.v.k, q.v.n, p.v.s⟩, p.w, p.e, p.f⟩) (j := 2) (u := .int .i64 q.v.n) ho h1 hr hp (by decide) rfl
 have h3 := Rg.prop2 (q' := ⟨q.key, q.v, p.w, p.e, p.f⟩) (j := 3) (u := .string q.v.s) ho h2 hr hp (by decide) rfl
 have h4 := Rg.prop2 (q' := ⟨q.key, q.v, q.w, p.e, p.f⟩) (j := 4) (u := .bool q.w) ho h3 hr hp (by decide) rfl
 have h5 := Rg.prop2 (q' := ⟨q.key, q.v, q.w, q.e, p.f⟩) (j := 5) (u := .bool q.e) ho h4 hr hp (by decide) rfl
 exact Rg.prop2 (q' := q) (j := 6) (u := .bool q.f) ho h5 hr hp (by decide) rfl
section
variable {v : Vl} {p q : Pr} {k : Nat}
theorem def_out (hat : H.at v = none) : H.define ix LK AR v p = (H, 110) := by
 unfold Hs.define
 simp only [hat]
theorem def_bar (hat : H.at v = some i) (ho : H.os[i]? = some o) (hl : (decide (o.cls = AR) && decide (p.key = LK)) = true) (h : p.e = true ∨ p.f = true ∨ (o.lw = false ∧ (p.w = true ∨ p.v ≠ num o.len))) : H.define ix LK AR v p = (H, 110) := by
 unfold Hs.define Ob.isLen
 simp only [hat, ho, hl, if_true]
 rw [if_pos h]
theorem def_len (hat : H.at v = some i) (ho : H.os[i]? = some o) (hl : (decide (o.cls = AR) && decide (p.key = LK)) = true) (h : ¬ (p.e = true ∨ p.f = true ∨ (o.lw = false ∧ (p.w = true ∨ p.v ≠ num o.len)))) :
  H.define ix LK AR v p = (H.set i (if (o.length ix p.v).2 = 0 then { (o.length ix p.v).1 with lw := p.w } else (o.length ix p.v).1), (o.length ix p.v).2) := by
 unfold Hs.define Ob.isLen
 simp only [hat, ho, hl, if_true]
 rw [if_neg h]
theorem def_add (hat : H.at v = some i) (ho : H.os[i]? = some o) (hl : (decide (o.cls = AR) && decide (p.key = LK)) = false) (hf : o.ps.findIdx? (has p.key) = none) : H.define ix LK AR v p = H.add ix AR i o p := by
 unfold Hs.define Ob.isLen
 simp only [hat, ho, hl, hf]
 rfl
theorem def_no (hat : H.at v = some i) (ho : H.os[i]? = some o) (hl : (decide (o.cls = AR) && decide (p.key = LK)) = false) (hf : o.ps.findIdx? (has p.key) = some k) (hq : o.ps[k]? = some q) (h : q.f = false ∧ (p.f = true ∨ p.e ≠ q.e ∨ (q.w = false ∧ (p.w = true ∨ p.v ≠ q.v)))) : H.define ix LK AR v p = (H, 110) := by
 unfold Hs.define Ob.isLen
 simp only [hat, ho, hl, hf, hq]
 rw [if_pos h]
 rfl
theorem def_set (hat : H.at v = some i) (ho : H.os[i]? = some o) (hl : (decide (o.cls = AR) && decide (p.key = LK)) = false) (hf : o.ps.findIdx? (has p.key) = some k) (hq : o.ps[k]? = some q) (h : ¬ (q.f = false ∧ (p.f = true ∨ p.e ≠ q.e ∨ (q.w = false ∧ (p.w = true ∨ p.v ≠ q.v))))) : H.define ix LK AR v p = (H.set i { o with ps := o.ps.set k p }, 0) := by
 unfold Hs.define Ob.isLen
 simp only [hat, ho, hl, hf, hq]
 rw [if_neg h]
 rfl
end
end
section
variable {w w' w1 w2 : World} {ow ow1 ow2 : Nat → Option Nat} {A i : Nat} {H H1 H2 Hc : Hs} {R R1 R2 : List Value} {o o' : Ob}
set_option maxRecDepth 8000 in
set_option maxHeartbeats 4000000 in
theorem rdef_add (h : RH w A H ow R) (gd : Gd H) (v : Vl) (p : Pr) (hs : p.key.size ≤ 16777216) (hat : H.at v = some i) (ho : H.os[i]? = some o) (hl : (decide (o.cls = AR) && decide (p.key = LK)) = false) (hf : o.ps.findIdx? (has p.key) = none) :
  Calls Tryz.prog 35 #[pv A, v.v, p.v'] w (RpR w A ow (.int .i64 (H.define ix LK AR v p).2) (H.define ix LK AR v p).1) := by
 have hol := gd.os100
 have hi := at_lt hat
 have hob := obj_some hat ho
 obtain ⟨g, cap, hcap, hrg⟩ := Rg.start h ho
 have hb0 := two_low (w := w) 29 31 v.cs p.cs
 have HB := Lib.hid hb0
 have HR0 := Lib.hid (hrg.low hb0)
 have HV0 := Lib.hid (blk_two' w 29 31 v.cs p.cs).1
 have HX0 := Lib.hid (blk_two' w 29 31 v.cs p.cs).2
 have HO := Lib.hid ho
 have HXO : Hid (ow (w.heap.size + 1) = none) := h.off (Nat.le_succ _)
 have hii : (i : Int) < (H.os.length : Int) := by omega
 have hi0 : ¬ (i : Int) < 0 := by omega
 have HLO : Hid (o.ps.length ≤ 100000) := Nat.le_trans (gd.og i o ho).l gd.n100
 have HT := Lib.hid (rat_any (h.low hb0) v hol)
 rw [hat] at HT
 have HL := Lib.hid fun w' (hb : Below w.heap.size w w') => rislen_any (h.low hb) v p.key hol
 rw [hob, show (decide (clsR (some o) = AR) && decide (p.key = LK)) = (decide (o.cls = AR) && decide (p.key = LK)) from rfl] at HL
 rw [hl] at HL
 have HPR := Lib.hid fun w' (hb : Below w.heap.size w w') => rprop_any (h.low hb) gd v p.key hs
 rw [hob] at HPR
 rw [propR_none hf] at HPR
 have HAD := Lib.hid fun w' (hb : Below w.heap.size w w') => radd_any (h.low hb) gd ho p hs
 obtain ⟨rl, HRL⟩ : ∃ rl, Hid (H.define ix LK AR v p = rl) := ⟨_, rfl⟩
 have HE := Lib.hid (HRL.out.symm.trans (def_add hat ho hl hf))
 rw [HRL.out]
 obtain ⟨r, hr, -⟩ := HR0.out.cell ho
 have HRR := Lib.hid hr
 obtain ⟨d0, d1, d2⟩ := Blk.three HV0.out
 clear h gd hat ho hi hob hrg hb0 hr hcap hol hs hl
 obtain ⟨vk, vn, vs⟩ := v
 obtain ⟨key, ⟨xk, xn, xs⟩, pw, pe, pf⟩ := p
 simp only [Vl.v, Vl.cs, Pr.v', Pr.cs, atI] at HB HR0 HV0 HX0 HT HL HPR HAD d0 d1 d2 ⊢
 go_enter Tryz.func35, Tryz.ntmps35
 go_wp2_with fail
 refine HT.out.mono ?_
 rintro e w1 ⟨rfl, hb⟩
 have HB1 := Lib.hid (HB.out.trans (hb.mono HB.out.size))
 have HR1 := Lib.hid (HR0.out.low hb)
 have HV1 := Lib.hid (HV0.out.low hb)
 have HX1 := Lib.hid (HX0.out.low hb)
 have HL := HL.out w1 HB1.out
 clear hb d0 d1 d2 HR0 HV0 HX0 HT HB
 obtain ⟨d0, d1, d2⟩ := Blk.three (v := ⟨vk, vn, vs⟩) HV1.out
 dsimp only at d0 d1 d2
 have k0 := HX1.out.cell (k := 0) (v := .string key) rfl
 go_wp2_with fail
 refine HL.mono ?_
 rintro e w2 ⟨rfl, hb⟩
 have HB2 := Lib.hid (HB1.out.trans (hb.mono HB1.out.size))
 have HR2 := Lib.hid (HR1.out.low hb)
 have HV2 := Lib.hid (HV1.out.low hb)
 have HX2 := Lib.hid (HX1.out.low hb)
 clear hb HL d0 d1 d2 k0 HR1 HV1 HX1 HB1
 have HPR := HPR.out w2 HB2.out
 obtain ⟨d0, d1, d2⟩ := Blk.three (v := ⟨vk, vn, vs⟩) HV2.out
 dsimp only at d0 d1 d2
 have k0 := HX2.out.cell (k := 0) (v := .string key) rfl
 go_wp2_with fail
 refine HPR.mono ?_
 rintro e w3 ⟨rfl, hb⟩
 have HB3 := Lib.hid (HB2.out.trans (hb.mono HB2.out.size))
 have HX3 := Lib.hid (HX2.out.low hb)
 have HAD := HAD.out w3 HB3.out
 have k0 := HX3.out.cell (k := 0) (v := .string key) rfl
 have k1 := HX3.out.cell (k := 1) (v := .int .i64 xk) rfl
 have k2 := HX3.out.cell (k := 2) (v := .int .i64 xn) rfl
 have k3 := HX3.out.cell (k := 3) (v := .string xs) rfl
 have k4 := HX3.out.cell (k := 4) (v := .bool pw) rfl
 have k5 := HX3.out.cell (k := 5) (v := .bool pe) rfl
 have k6 := HX3.out.cell (k := 6) (v := .bool pf) rfl
 clear hb HPR d0 d1 d2 hf
 go_wp2_with fail
 refine HAD.mono ?_
 rintro e w4 ⟨rfl, ow4, R4, hch⟩
 have HCH := Lib.hid (hch.low HB3.out)
 clear hch HAD k0 k1 k2 k3 k4 k5 k6
 go_wp2_with fail
 go_ret
 exact ⟨by rw [HE.out]; rfl, ow4, R4, by rw [HE.out]; exact HCH.out⟩
end
end Go.Proofs.YtcahijpbkjplmaaGreatDoor.G
