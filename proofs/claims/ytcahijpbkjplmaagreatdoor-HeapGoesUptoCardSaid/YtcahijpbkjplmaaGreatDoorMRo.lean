/-
 Define, Put, by contract.
 Put, by contract.
-/
import Derived.Test.YtcahijpbkjplmaaGreatDoorMRm
import Derived.Test.YtcahijpbkjplmaaGreatDoorMZ0
set_option linter.unusedSimpArgs false
namespace Go.Proofs.YtcahijpbkjplmaaGreatDoor.G
open Go.RowKit Go.Shelf Go.Maps Go.Lib Go.Proofs.YtcahijpbkjplmaaGreatDoor
section
variable {w w1 w2 : World} {ow ow1 ow2 : Nat → Option Nat} {i A : Nat} {H H1 H2 : Hs} {L L1 L2 : List OL} {o o1 : Ob} {x : OL} {p : Pr}
theorem Hch.ofLen (h : PH w A H ow L) (hx : L[i]? = some x) (ho : H.os[i]? = some o) {r : Ob × Int} {e : Ending} (hr : LenR w ow i H.n (ppv L o.proto) x.b r e w1) (hp : r.1.proto = o.proto) : e = .returned (.int .i64 r.2) ∧ ∃ ow' L', Hch w A ow L (H.set i r.1) w1 ow' L' := by
 obtain ⟨he, ow', x', hc⟩ := hr
 have hi := (List.getElem?_eq_some_iff.1 hx)
 exact ⟨he, ow', L.set i x', h.chg hi.1 (by rw [hi.2]) ho hc hp⟩
theorem rmI_proto (y : Nat) : ∀ (f : Nat) (o : Ob), (rmI ix y f o).1.proto = o.proto
 | 0, _ => rfl
 | f + 1, o => by
  rw [rmI]
  split
  ·rfl
  ·split
   ·exact rmI_proto y f _
   ·rfl
theorem cutGo_proto (n : Nat) : ∀ (f : Nat) (o : Ob), (cutGo ix n f o).1.proto = o.proto
 | 0, _ => rfl
 | f + 1, o => by
  rw [cutGo]
  split
  ·rfl
  ·split
   ·exact cutGo_proto n f _
   ·rfl
theorem length_proto (o : Ob) (v : Vl) : (o.length ix v).1.proto = o.proto := by
 unfold Ob.length
 split
 ·rfl
 ·split
  ·exact cutGo_proto _ _ _
  ·rfl
theorem dlen_proto (o : Ob) (p : Pr) : (o.dlen p).1.proto = o.proto := by
 unfold Ob.dlen
 split
 ·rfl
 ·dsimp only
  split
  ·exact length_proto o _
  ·exact length_proto o _
theorem Hs.define_is (H : Hs) (v : Vl) (p : Pr) (e1 : H.at v = some i) (e3 : H.os[i]? = some o) : H.define ix LK AR v p = (if o.isLen LK AR p.key then (H.set i (o.dlen p).1, (o.dlen p).2) else match o.ps.findIdx? (has p.key) with
  | none => H.add ix AR i o p
  | some k => match o.ps[k]? with
   | none => (H, 110)
   | some q => if p.bars q = true then (H, 110) else (H.set i { o with ps := o.ps.set k p }, 0)) := by
 unfold Hs.define
 rw [e1]
 dsimp only
 rw [e3]
 dsimp only
 by_cases hl : o.isLen LK AR p.key = true
 ·rw [if_pos hl, if_pos hl]
  unfold Ob.dlen
  split
  ·rw [set_same e3]
  ·rfl
 ·rw [if_neg hl, if_neg hl]
  cases o.ps.findIdx? (has p.key) with
  | none => rfl
  | some k =>
   dsimp only
   cases o.ps[k]? with
   | none => rfl
   | some q =>
    dsimp only
    unfold Pr.bars
    simp only [decide_eq_true_eq]
set_option maxRecDepth 8000 in
set_option maxHeartbeats 1000000 in
theorem define_any (h : PH w A H ow L) (g : Gd H) (v : Vl) (p : Pr) (hs : Sp p) :
  Calls Tryz.prog 22 #[pv A, v.v, p.v'] w (HpR w A ow L (.int .i64 (H.define ix LK AR v p).2) (H.define ix LK AR v p).1) := by
 have hb0 := two_low (w := w) 29 31 (Vl.cs v) (Pr.cs p)
 have h0 := h.low hb0
 have HF := Lib.hid (find_any h0 v g.os100)
 have HB := Lib.hid hb0
 have HP := Lib.hid h0
 have HR0 : Hid (Blk ((w.alloc (.cells (Vl.cs v).toArray 29)).alloc (.cells (Pr.cs p).toArray 31)) (w.heap.size + 1) 31 p.cs) := by
  obtain ⟨W0, e, h1, h2, -⟩ := two_new w 29 31 v.cs p.cs
  rw [← e] at h2
  exact h2
 obtain ⟨r, HR⟩ : ∃ r, Hid (H.define ix LK AR v p = r) := ⟨_, rfl⟩
 rw [HR.out]
 clear hb0
 rcases h0.obj (v := v) with ⟨e1, e2⟩ | ⟨i, x, o, e1, e2, e3, e5, e4, h5⟩
 ·have HV : Hid (H.define ix LK AR v p = (H, 110)) := by show Hs.define ix LK AR H v p = _; unfold Hs.define; rw [e1]
  rw [e1] at HF
  clear e1 e2 h0 h g
  obtain ⟨vk, vn, vs⟩ := v
  obtain ⟨pk, ⟨pvk, pvn, pvs⟩, pw, pe, pf⟩ := p
  simp only [Vl.v, Vl.cs, Pr.v', Pr.cs, ppv] at HF HB HP ⊢
  go_enter Tryz.func22, Tryz.ntmps22
  go_wp2_with fail
  refine HF.out.mono ?_
  rintro e w1 ⟨rfl, hb⟩
  go_wp2_with fail
  refine bodyPost_ret (results_tmp rfl _ _ _) rfl ?_
  rw [← HR.out, HV.out]
  exact ⟨rfl, ow, L, (Hch.below HP.out hb).low HB.out⟩
 ·rw [e1, e4] at HF
  have HG := Lib.hid (g.obj e3)
  have HGD := Lib.hid g
  have HN := Lib.hid g.n100
  have H5 := Lib.hid h5
  have HO := Lib.hid e3
  have HX := Lib.hid e5
  have HE := Lib.hid (Hs.define_is H v p e1 e3)
  have HKS : Hid (p.key.size ≤ maxLen) := by have := hs.1; show p.key.size ≤ maxLen; unfold maxLen; omega
  have HS := Lib.hid hs
  clear e1 e2 e3 e4 h0 h g h5 e5 hs
  obtain ⟨vk, vn, vs⟩ := v
  obtain ⟨pk, ⟨pvk, pvn, pvs⟩, pw, pe, pf⟩ := p
  simp only [Vl.v, Vl.cs, Pr.v', Pr.cs] at HF HB HP H5 HR0 ⊢
  dsimp only at HKS HE
  go_enter Tryz.func22, Tryz.ntmps22
  go_wp2_with fail
  refine HF.out.mono ?_
  rintro e w1 ⟨rfl, hb⟩
  have h6 := H5.out.low HP.out.lt hb
  have HP1 := Lib.hid (HP.out.low hb)
  have H6 := Lib.hid h6
  have HB1 := Lib.hid (HB.out.trans (hb.mono HB.out.size))
  have HW1 := Lib.hid (HR0.out.low hb)
  have HI := Lib.hid (isLength_any h6 pk)
  clear h6 hb HF H5 HP HB HR0
  obtain ⟨d0, d1, d2, d3, d4, d5, d6⟩ := Blk.seven (p := ⟨pk, ⟨pvk, pvn, pvs⟩, pw, pe, pf⟩) HW1.out
  dsimp only at d0 d1 d2 d3 d4 d5 d6
  go_wp2_with fail
  refine HI.out.mono ?_
  rintro e w2 ⟨rfl, rfl⟩
  clear HI
  cases hl : o.isLen LK AR pk with
  | true =>
   have HV := Lib.hid (HE.out.trans (if_pos hl))
   have hcls : o.cls = AR := by
    unfold Ob.isLen at hl
    simp only [Bool.and_eq_true, decide_eq_true_eq] at hl
    exact hl.1
   have HD := Lib.hid (defineLength_any H6.out HP1.out.lt ⟨pk, ⟨pvk, pvn, pvs⟩, pw, pe, pf⟩ hcls HG.out.1 HG.out.2.1 HN.out HG.out.2.2.1 (HG.out.2.2.2.1 hcls).1 (HG.out.2.2.2.1 hcls).2)
   simp only [Pr.v'] at HD
   clear HE
   go_wp2_with fail
   refine HD.out.mono ?_
   rintro e w3 hr
   obtain ⟨rfl, HH⟩ := Hch.ofLen HP1.out HX.out HO.out hr (dlen_proto o _)
   have HH2 := Lib.hid HH
   clear hr HH HD d0 d1 d2 d3 d4 d5 d6
   go_wp2_with fail
   refine bodyPost_ret (results_tmp rfl _ _ _) rfl ?_
   rw [← HR.out, HV.out]
   obtain ⟨ow', L', hh⟩ := HH2.out
   exact ⟨rfl, ow', L', hh.low HB1.out⟩
  | false =>
   have HV := Lib.hid (HE.out.trans (if_neg (by rw [hl]; exact Bool.false_ne_true)))
   clear HE
   have HP2 : Hid (PH w1.drew A H ow L) := HP1.out.low (below_draw _)
   have H62 := Lib.hid (H6.out.low HP1.out.lt (below_draw _))
   have HW2 := Lib.hid (HW1.out.fr (w' := w1.drew) rfl)
   have HB2 : Hid (Below w.heap.size w w1.drew) := HB1.out.drew
   have hs2 : (fun w' : World => w'.cell? ⟨x.b, 4, none⟩ = some (.map (some x.pm)) ∧ w'.cell? ⟨w.heap.size + 1, 0, none⟩ = some (.string pk) ∧ MapS w' x.pm H.n (.pointer none) (fnd x.pb o.ps)) w1.drew := ⟨H62.out.ob.cell (k := 4) rfl, HW2.out.cell (k := 0) rfl, H62.out.mp⟩
   clear HP1 H6 HW1 HB1 d0 d1 d2 d3 d4 d5 d6
   go_wp2_with fail
   refine wp_region_held_drew (S := (fun w' : World => w'.cell? ⟨x.b, 4, none⟩ = some (.map (some x.pm)) ∧ w'.cell? ⟨w.heap.size + 1, 0, none⟩ = some (.string pk) ∧ MapS w' x.pm H.n (.pointer none) (fnd x.pb o.ps))) (by kernel_rfl) (hs2) (fun hHeld0 => ?_)
   generalize w1.drew = w2 at *
   refine tk 0 ?_ ‹_› ?_ ?_; rotate_left; focus (intro w0 hSw; obtain ⟨e4, e0, hm⟩ := hSw; have hlk := hm.look Tryz.underlying78 (zeroP _) HKS.out; go_simp; try with_reducible rfl)
   refine tk 1 ?_ ‹_› ?_ ?_; rotate_left; focus (intro w0 hSw; obtain ⟨e4, e0, hm⟩ := hSw; have hlk := hm.look Tryz.underlying78 (zeroP _) HKS.out; go_simp; try with_reducible rfl)
   refine tk 2 ?_ ‹_› ?_ ?_; rotate_left; focus (intro w0 hSw; obtain ⟨e4, e0, hm⟩ := hSw; have hlk := hm.look Tryz.underlying78 (zeroP _) HKS.out; go_simp; try with_reducible rfl)
   refine tk 3 ?_ ‹_› ?_ ?_; rotate_left; focus (intro w0 hSw; obtain ⟨e4, e0, hm⟩ := hSw; have hlk := hm.look Tryz.underlying78 (zeroP _) HKS.out; go_simp; try with_reducible rfl)
   refine tk 4 ?_ ‹_› ?_ ?_; rotate_left; focus (intro w0 hSw; obtain ⟨e4, e0, hm⟩ := hSw; have hlk := hm.look Tryz.underlying78 (zeroP _) HKS.out; go_simp; try with_reducible rfl)
   refine tk 5 ?_ ‹_› ?_ ?_; rotate_left; focus (intro w0 hSw; obtain ⟨e4, e0, hm⟩ := hSw; have hlk := hm.look Tryz.underlying78 (zeroP _) HKS.out; go_simp; try with_reducible rfl)
   refine tk 6 ?_ ‹_› ?_ ?_; rotate_left; focus (intro w0 hSw; obtain ⟨e4, e0, hm⟩ := hSw; have hlk := hm.look Tryz.underlying78 (zeroP _) HKS.out; go_simp; try with_reducible rfl)
   refine tk 7 ?_ ‹_› ?_ ?_; rotate_left; focus (intro w0 hSw; obtain ⟨e4, e0, hm⟩ := hSw; have hlk := hm.look Tryz.underlying78 (zeroP _) HKS.out; go_simp; try with_reducible rfl)
   try simp only [PT]
   refine wpAnyH_done (by kernel_rfl) ?_ _
   clear hHeld0 hs2
   obtain ⟨d0, d1, d2, d3, d4, d5, d6⟩ := Blk.seven (p := ⟨pk, ⟨pvk, pvn, pvs⟩, pw, pe, pf⟩) HW2.out
   dsimp only at d0 d1 d2 d3 d4 d5 d6
   cases hf : o.ps.findIdx? (has pk) with
   | none =>
    rw [fnd_no hf]
    have HV2 := HV.out
    rw [hf] at HV2
    dsimp only at HV2
    have HV3 := Lib.hid HV2
    have HA := Lib.hid (add_any HP2.out HGD.out HX.out HO.out ⟨pk, ⟨pvk, pvn, pvs⟩, pw, pe, pf⟩ HS.out hf)
    simp only [Pr.v'] at HA
    clear HV HV2 hf
    go_wp2_with fail
    refine HA.out.mono ?_
    rintro e w3 ⟨rfl, ow', L', hc⟩
    have HC := Lib.hid hc
    clear hc HA d0 d1 d2 d3 d4 d5 d6
    go_wp2_with fail
    refine bodyPost_ret (results_tmp rfl _ _ _) rfl ?_
    rw [← HR.out, HV3.out]
    exact ⟨rfl, ow', L', HC.out.low HB2.out⟩
   | some k =>
    obtain ⟨b, q, hb1, hp, hpk, hfn⟩ := fnd_at H62.out.pl hf
    rw [hfn]
    have HV2 := HV.out
    rw [hf] at HV2
    dsimp only at HV2
    rw [hp] at HV2
    dsimp only at HV2
    have hk1 : k < x.pb.length := (List.getElem?_eq_some_iff.1 hb1).1
    have hk2 : k < o.ps.length := (List.getElem?_eq_some_iff.1 hp).1
    have hblk := H62.out.pr k hk1 hk2
    rw [(List.getElem?_eq_some_iff.1 hb1).2, (List.getElem?_eq_some_iff.1 hp).2] at hblk
    have HD := Lib.hid (pdef_any hblk ⟨pk, ⟨pvk, pvn, pvs⟩, pw, pe, pf⟩ HS.out)
    simp only [Pr.v'] at HD
    have HV3 : Hid (H.define ix LK AR ⟨vk, vn, vs⟩ ⟨pk, ⟨pvk, pvn, pvs⟩, pw, pe, pf⟩ = (H.set i { o with ps := o.ps.set k (if Pr.bars ⟨pk, ⟨pvk, pvn, pvs⟩, pw, pe, pf⟩ q = true then q else ⟨pk, ⟨pvk, pvn, pvs⟩, pw, pe, pf⟩) }, (if Pr.bars ⟨pk, ⟨pvk, pvn, pvs⟩, pw, pe, pf⟩ q = true then 110 else 0))) := by
     show Hs.define ix LK AR H _ _ = _
     rw [HV2]
     by_cases hb : Pr.bars ⟨pk, ⟨pvk, pvn, pvs⟩, pw, pe, pf⟩ q = true
     ·rw [if_pos hb, if_pos hb, if_pos hb]
      have : ({ o with ps := o.ps.set k q } : Ob) = o := by rw [set_id hp]
      rw [this, set_same HO.out]
     ·rw [if_neg hb, if_neg hb, if_neg hb]
    have HSP : Hid (∀ w3, Blk w3 b 81 (propC (if Pr.bars ⟨pk, ⟨pvk, pvn, pvs⟩, pw, pe, pf⟩ q = true then q else ⟨pk, ⟨pvk, pvn, pvs⟩, pw, pe, pf⟩) (av (nd x.b x.pb k)) (av (nd x.b x.pb (k + 2)))) → Fr (fun k => k < w2.heap.size ∧ k ≠ b) w2 w3 → Chg w2 ow i H.n (ppv L o.proto) x.b { o with ps := o.ps.set k (if Pr.bars ⟨pk, ⟨pvk, pvn, pvs⟩, pw, pe, pf⟩ q = true then q else ⟨pk, ⟨pvk, pvn, pvs⟩, pw, pe, pf⟩) } w3 ow x) := fun w3 h1 h2 => H62.out.setp HP2.out.lt hb1 hp (by by_cases hb : Pr.bars ⟨pk, ⟨pvk, pvn, pvs⟩, pw, pe, pf⟩ q = true; (rw [if_pos hb]); (rw [if_neg hb]; exact hpk.symm)) h1 h2
    obtain ⟨nq, HNQ⟩ : ∃ nq, Hid ((if Pr.bars ⟨pk, ⟨pvk, pvn, pvs⟩, pw, pe, pf⟩ q = true then q else ⟨pk, ⟨pvk, pvn, pvs⟩, pw, pe, pf⟩) = nq) := ⟨_, rfl⟩
    obtain ⟨ne, HNE⟩ : ∃ ne : Int, Hid ((if Pr.bars ⟨pk, ⟨pvk, pvn, pvs⟩, pw, pe, pf⟩ q = true then (110 : Int) else 0) = ne) := ⟨_, rfl⟩
    rw [HNQ.out, HNE.out] at HD HV3
    rw [HNQ.out] at HSP
    clear HV HV2 hblk hk1 hk2 hb1 hp hfn hf HNQ HNE
    go_wp2_with fail
    refine HD.out.mono ?_
    rintro e w3 ⟨rfl, h1, h2⟩
    have HC := Lib.hid (HSP.out _ h1 h2)
    clear h1 h2 HD HSP d0 d1 d2 d3 d4 d5 d6
    go_wp2_with fail
    refine bodyPost_ret (results_tmp rfl _ _ _) rfl ?_
    rw [← HR.out, HV3.out]
    have hi := (List.getElem?_eq_some_iff.1 HX.out)
    exact ⟨rfl, ow, L.set i x, (HP2.out.chg hi.1 (by rw [hi.2]) HO.out HC.out rfl).low HB2.out⟩
end
section
variable {w w1 w2 : World} {ow ow1 ow2 : Nat → Option Nat} {i A : Nat} {H H1 H2 : Hs} {L L1 L2 : List OL} {o o1 : Ob} {x : OL} {p : Pr}
def Ob.plen (o : Ob) (x : Vl) : Ob × Int := if o.lw = false then (o, 110) else o.length ix x
theorem plen_proto (o : Ob) (v : Vl) : (o.plen v).1.proto = o.proto := by
 unfold Ob.plen
 split
 ·rfl
 ·exact length_proto o v
theorem Hs.put_is (H : Hs) (v : Vl) (key : ByteArray) (x : Vl) (e1 : H.at v = some i) (e3 : H.os[i]? = some o) : H.put ix LK AR v key x = (if o.isLen LK AR key then (H.set i (o.plen x).1, (o.plen x).2) else match o.ps.findIdx? (has key) with
  | some k => match o.ps[k]? with
   | none => (H, 110)
   | some p => (H.set i { o with ps := o.ps.set k (if p.w = false then p else { p with v := x }) }, if p.w = false then 110 else 0)
  | none => match H.find LK AR o.proto key with
   | some p => if p.w = false then (H, 110) else H.add ix AR i o ⟨key, x, true, true, true⟩
   | none => H.add ix AR i o ⟨key, x, true, true, true⟩) := by
 unfold Hs.put
 rw [e1]
 dsimp only
 rw [e3]
 dsimp only
 by_cases hl : o.isLen LK AR key = true
 ·rw [if_pos hl, if_pos hl]
  unfold Ob.plen
  split
  ·rw [set_same e3]
  ·rfl
 ·rw [if_neg hl, if_neg hl]
  cases o.ps.findIdx? (has key) with
  | none => rfl
  | some k =>
   dsimp only
   cases hp : o.ps[k]? with
   | none => rfl
   | some q =>
    dsimp only
    by_cases hw : q.w = false
    ·rw [if_pos hw, if_pos hw, if_pos hw]
     have : ({ o with ps := o.ps.set k q } : Ob) = o := by rw [set_id hp]
     rw [this, set_same e3]
    ·rw [if_neg hw, if_neg hw, if_neg hw]
set_option maxRecDepth 8000 in
set_option maxHeartbeats 1000000 in
theorem put_any (h : PH w A H ow L) (g : Gd H) (v : Vl) (key : ByteArray) (hk : key.size ≤ 16777216) (vx : Vl) (hs : Sv vx) :
  Calls Tryz.prog 28 #[pv A, v.v, .string key, vx.v] w (HpR w A ow L (.int .i64 (H.put ix LK AR v key vx).2) (H.put ix LK AR v key vx).1) := by
 have hb0 := two_low (w := w) 29 29 (Vl.cs v) (Vl.cs vx)
 have h0 := h.low hb0
 have HF := Lib.hid (find_any h0 v g.os100)
 have HB := Lib.hid hb0
 have HP := Lib.hid h0
 have HR0 : Hid (Blk ((w.alloc (.cells (Vl.cs v).toArray 29)).alloc (.cells (Vl.cs vx).toArray 29)) w.heap.size 29 v.cs ∧ Blk ((w.alloc (.cells (Vl.cs v).toArray 29)).alloc (.cells (Vl.cs vx).toArray 29)) (w.heap.size + 1) 29 vx.cs) := by
  obtain ⟨W0, e, h1, h2, -⟩ := two_new w 29 29 v.cs vx.cs
  rw [← e] at h1 h2
  exact ⟨h1, h2⟩
 obtain ⟨r, HR⟩ : ∃ r, Hid (H.put ix LK AR v key vx = r) := ⟨_, rfl⟩
 rw [HR.out]
 clear hb0
 rcases h0.obj (v := v) with ⟨e1, e2⟩ | ⟨i, x, o, e1, e2, e3, e5, e4, h5⟩
 ·have HV : Hid (H.put ix LK AR v key vx = (H, 110)) := by show Hs.put ix LK AR H v key vx = _; unfold Hs.put; rw [e1]
  rw [e1] at HF
  clear e1 e2 h0 h g
  obtain ⟨vk, vn, vs⟩ := v
  obtain ⟨xk, xn, xs⟩ := vx
  simp only [Vl.v, Vl.cs, ppv] at HF HB HP ⊢
  go_enter Tryz.func28, Tryz.ntmps28
  go_wp2_with fail
  refine HF.out.mono ?_
  rintro e w1 ⟨rfl, hb⟩
  go_wp2_with fail
  refine bodyPost_ret (results_tmp rfl _ _ _) rfl ?_
  rw [← HR.out, HV.out]
  exact ⟨rfl, ow, L, (Hch.below HP.out hb).low HB.out⟩
 ·rw [e1, e4] at HF
  have HG := Lib.hid (g.obj e3)
  have HGD := Lib.hid g
  have HN := Lib.hid g.n100
  have H5 := Lib.hid h5
  have HO := Lib.hid e3
  have HX := Lib.hid e5
  have HE := Lib.hid (Hs.put_is H v key vx e1 e3)
  have HKS : Hid (key.size ≤ maxLen) := by show key.size ≤ maxLen; unfold maxLen; omega
  have HFS : Hid (∀ w', PH w' A H ow L → Calls Tryz.prog 60 #[pv A, v.v, .string key] w' fun e w'' => e = .returned (ownR (H.find LK AR (some i) key)) ∧ Below w'.heap.size w' w'') := fun w' h' => by
   have := first_any h' g v key HKS.out
   rw [e1] at this
   exact this
  have HFP := Lib.hid (find_some (LK := LK) (AR := AR) g.ok e3 key)
  have HSX := Lib.hid hs
  have HSK := Lib.hid hk
  clear e1 e2 e3 e4 h0 h g h5 e5 hs hk
  obtain ⟨vk, vn, vs⟩ := v
  obtain ⟨xk, xn, xs⟩ := vx
  simp only [Vl.v, Vl.cs] at HF HB HP H5 HR0 HFS ⊢
  go_enter Tryz.func28, Tryz.ntmps28
  go_wp2_with fail
  refine HF.out.mono ?_
  rintro e w1 ⟨rfl, hb⟩
  have h6 := H5.out.low HP.out.lt hb
  have HP1 := Lib.hid (HP.out.low hb)
  have H6 := Lib.hid h6
  have HB1 := Lib.hid (HB.out.trans (hb.mono HB.out.size))
  have HW1 := Lib.hid (HR0.out.1.low hb)
  have HW2 := Lib.hid (HR0.out.2.low hb)
  have HI := Lib.hid (isLength_any h6 key)
  clear h6 hb HF H5 HP HB HR0
  obtain ⟨d0, d1, d2⟩ := Blk.three (v := ⟨vk, vn, vs⟩) HW1.out
  obtain ⟨f0, f1, f2⟩ := Blk.three (v := ⟨xk, xn, xs⟩) HW2.out
  dsimp only at d0 d1 d2 f0 f1 f2
  go_wp2_with fail
  refine HI.out.mono ?_
  rintro e w2 ⟨rfl, rfl⟩
  clear HI
  cases hl : o.isLen LK AR key with
  | true =>
   have HV := Lib.hid (HE.out.trans (if_pos hl))
   have hcls : o.cls = AR := by
    unfold Ob.isLen at hl
    simp only [Bool.and_eq_true, decide_eq_true_eq] at hl
    exact hl.1
   have HD := Lib.hid (putLength_any H6.out HP1.out.lt ⟨xk, xn, xs⟩ hcls HG.out.1 HG.out.2.1 HN.out HG.out.2.2.1 (HG.out.2.2.2.1 hcls).1 (HG.out.2.2.2.1 hcls).2)
   change Hid (Calls _ _ _ _ (LenR w1 ow i H.n (ppv L o.proto) x.b (o.plen ⟨xk, xn, xs⟩))) at HD
   simp only [Vl.v] at HD
   clear HE
   go_wp2_with fail
   refine HD.out.mono ?_
   rintro e w3 hr
   obtain ⟨rfl, HH⟩ := Hch.ofLen HP1.out HX.out HO.out hr (plen_proto o _)
   have HH2 := Lib.hid HH
   clear hr HH HD d0 d1 d2 f0 f1 f2
   go_wp2_with fail
   refine bodyPost_ret (results_tmp rfl _ _ _) rfl ?_
   rw [← HR.out, HV.out]
   obtain ⟨ow', L', hh⟩ := HH2.out
   exact ⟨rfl, ow', L', hh.low HB1.out⟩
  | false =>
   have HV := Lib.hid (HE.out.trans (if_neg (by rw [hl]; exact Bool.false_ne_true)))
   clear HE
   have c4 := H6.out.ob.cell (k := 4) rfl
   have hlk := H6.out.mp.look Tryz.underlying78 (zeroP _) HKS.out
   cases hf : o.ps.findIdx? (has key) with
   | some k =>
    obtain ⟨b, q, hb1, hp, hpk, hfn⟩ := fnd_at H6.out.pl hf
    rw [hfn] at hlk
    have HV2 := HV.out
    rw [hf] at HV2
    dsimp only at HV2
    rw [hp] at HV2
    dsimp only at HV2
    have HV3 := Lib.hid HV2
    have hk1 : k < x.pb.length := (List.getElem?_eq_some_iff.1 hb1).1
    have hk2 : k < o.ps.length := (List.getElem?_eq_some_iff.1 hp).1
    have hblk := H6.out.pr k hk1 hk2
    rw [(List.getElem?_eq_some_iff.1 hb1).2, (List.getElem?_eq_some_iff.1 hp).2] at hblk
    have HD := Lib.hid (pput_any hblk ⟨xk, xn, xs⟩ (by have := HSX.out; unfold Sv at this; omega))
    simp only [Vl.v] at HD
    have HSP : Hid (∀ w3, Blk w3 b 81 (propC (if q.w = false then q else { q with v := ⟨xk, xn, xs⟩ }) (av (nd x.b x.pb k)) (av (nd x.b x.pb (k + 2)))) → Fr (fun k => k < w1.heap.size ∧ k ≠ b) w1 w3 → Chg w1 ow i H.n (ppv L o.proto) x.b { o with ps := o.ps.set k (if q.w = false then q else { q with v := ⟨xk, xn, xs⟩ }) } w3 ow x) := fun w3 h1 h2 => H6.out.setp HP1.out.lt hb1 hp (by by_cases hb : q.w = false; (rw [if_pos hb]); (rw [if_neg hb])) h1 h2
    obtain ⟨nq, HNQ⟩ : ∃ nq, Hid ((if q.w = false then q else { q with v := ⟨xk, xn, xs⟩ }) = nq) := ⟨_, rfl⟩
    obtain ⟨ne, HNE⟩ : ∃ ne : Int, Hid ((if q.w = false then (110 : Int) else 0) = ne) := ⟨_, rfl⟩
    rw [HNQ.out, HNE.out] at HD HV3
    rw [HNQ.out] at HSP
    clear HV HV2 hblk hk1 hk2 hb1 hp hfn hf HNQ HNE
    go_wp2_with fail
    refine HD.out.mono ?_
    rintro e w3 ⟨rfl, h1, h2⟩
    have HC := Lib.hid (HSP.out _ h1 h2)
    clear h1 h2 HD HSP d0 d1 d2 f0 f1 f2 c4 hlk
    go_wp2_with fail
    refine bodyPost_ret (results_tmp rfl _ _ _) rfl ?_
    rw [← HR.out, HV3.out]
    have hi := (List.getElem?_eq_some_iff.1 HX.out)
    exact ⟨rfl, ow, L.set i x, (HP1.out.chg hi.1 (by rw [hi.2]) HO.out HC.out rfl).low HB1.out⟩
   | none =>
    rw [fnd_no hf] at hlk
    have HV2 := HV.out
    rw [hf] at HV2
    dsimp only at HV2
    have hown : o.own LK AR key = none := by
     unfold Ob.own
     rw [hl, if_neg Bool.false_ne_true, find_of_idx, hf]
     rfl
    have hfp := HFP.out
    rw [hown, Option.none_or] at hfp
    have HFZ := Lib.hid (HFS.out _ HP1.out)
    rw [hfp] at HFZ
    have HF2 := Lib.hid hf
    have HADD : Hid (∀ w', PH w' A H ow L → Calls Tryz.prog 57 #[pv A, pv x.b, Pr.v' ⟨key, ⟨xk, xn, xs⟩, true, true, true⟩] w' (AddR w' A ow L (H.add ix AR i o ⟨key, ⟨xk, xn, xs⟩, true, true, true⟩))) := fun w' h' => add_any h' HGD.out HX.out HO.out ⟨key, ⟨xk, xn, xs⟩, true, true, true⟩ ⟨HSK.out, HSX.out⟩ hf
    have HPL := Lib.hid (plain_any key ⟨xk, xn, xs⟩)
    simp only [Vl.v, Pr.v'] at HADD HPL
    clear hown hfp HFP HFS HV hf
    cases hq : H.find LK AR o.proto key with
    | none =>
     rw [hq] at HV2 HFZ
     have HV3 := Lib.hid HV2
     clear HV2 hq
     simp only [ownR, pr0, Pr.v'] at HFZ
     go_wp2_with fail
     refine HFZ.out.mono ?_
     rintro e w3 ⟨rfl, hb3⟩
     have HP3 := Lib.hid (HP1.out.low hb3)
     have HB3 := Lib.hid (HB1.out.trans (hb3.mono HB1.out.size))
     have HW3 := Lib.hid (HW2.out.low hb3)
     obtain ⟨f0, f1, f2⟩ := Blk.three (v := ⟨xk, xn, xs⟩) HW3.out
     dsimp only at f0 f1 f2
     clear hb3 d0 d1 d2 c4 hlk HFZ
     have hlt : w.heap.size + 1 < w3.heap.size := HW3.out.lt
     have hne : w.heap.size + 1 ≠ w3.heap.size := Nat.ne_of_lt hlt
     have g0 : (w3.alloc (.cells #[.string ⟨#[]⟩, .int .i64 0, .int .i64 0, .string ⟨#[]⟩, .bool false, .bool false, .bool false] 31)).cell? ⟨w.heap.size + 1, 0, none⟩ = some (.int .i64 xk) := (HW3.out.low (below_new w3 _)).cell (k := 0) rfl
     have g1 : (w3.alloc (.cells #[.string ⟨#[]⟩, .int .i64 0, .int .i64 0, .string ⟨#[]⟩, .bool false, .bool false, .bool false] 31)).cell? ⟨w.heap.size + 1, 1, none⟩ = some (.int .i64 xn) := (HW3.out.low (below_new w3 _)).cell (k := 1) rfl
     have g2 : (w3.alloc (.cells #[.string ⟨#[]⟩, .int .i64 0, .int .i64 0, .string ⟨#[]⟩, .bool false, .bool false, .bool false] 31)).cell? ⟨w.heap.size + 1, 2, none⟩ = some (.string xs) := (HW3.out.low (below_new w3 _)).cell (k := 2) rfl
     go_wp2_with fail
     refine (HPL.out _).mono ?_
     rintro e w4 ⟨rfl, hb4⟩
     have HP4 := Lib.hid ((HP3.out.low (below_new w3 (.cells #[.string ⟨#[]⟩, .int .i64 0, .int .i64 0, .string ⟨#[]⟩, .bool false, .bool false, .bool false] 31))).low hb4)
     have HB4 := Lib.hid ((HB3.out.trans ((below_new w3 (.cells #[.string ⟨#[]⟩, .int .i64 0, .int .i64 0, .string ⟨#[]⟩, .bool false, .bool false, .bool false] 31)).mono HB3.out.size)).trans (hb4.mono (Nat.le_trans HB3.out.size (below_new w3 (.cells #[.string ⟨#[]⟩, .int .i64 0, .int .i64 0, .string ⟨#[]⟩, .bool false, .bool false, .bool false] 31)).size)))
     clear hb4 g0 g1 g2 f0 f1 f2 hlt hne
     go_wp2_with fail
     refine (HADD.out _ HP4.out).mono ?_
     rintro e w5 ⟨rfl, ow', L', hc⟩
     have HC := Lib.hid hc
     clear hc
     go_wp2_with fail
     refine bodyPost_ret (results_tmp rfl _ _ _) rfl ?_
     rw [← HR.out, HV3.out]
     exact ⟨rfl, ow', L', HC.out.low HB4.out⟩
    | some q =>
     rw [hq] at HV2 HFZ
     dsimp only at HV2
     obtain ⟨qk, ⟨qvk, qvn, qvs⟩, qw, qe, qf⟩ := q
     simp only [ownR, Pr.v'] at HFZ
     cases qw with
     | false =>
      have HV3 := Lib.hid (HV2.trans (if_pos rfl))
      clear HV2 hq
      go_wp2_with fail
      refine HFZ.out.mono ?_
      rintro e w3 ⟨rfl, hb3⟩
      have HP3 := Lib.hid (HP1.out.low hb3)
      have HB3 := Lib.hid (HB1.out.trans (hb3.mono HB1.out.size))
      clear hb3 d0 d1 d2 f0 f1 f2 c4 hlk HFZ
      go_wp2_with fail
      refine bodyPost_ret (results_tmp rfl _ _ _) rfl ?_
      rw [← HR.out, HV3.out]
      have hb4 := below_new w3 (.cells #[.string qk, .int .i64 qvk, .int .i64 qvn, .string qvs, .bool false, .bool qe, .bool qf] 31)
      exact ⟨rfl, ow, L, (Hch.self (HP3.out.low hb4)).low (HB3.out.trans (hb4.mono HB3.out.size))⟩
     | true =>
      have HV3 := Lib.hid (HV2.trans (if_neg (by simp)))
      clear HV2 hq
      go_wp2_with fail
      refine HFZ.out.mono ?_
      rintro e w3 ⟨rfl, hb3⟩
      have HP3 := Lib.hid (HP1.out.low hb3)
      have HB3 := Lib.hid (HB1.out.trans (hb3.mono HB1.out.size))
      have HW3 := Lib.hid (HW2.out.low hb3)
      obtain ⟨f0, f1, f2⟩ := Blk.three (v := ⟨xk, xn, xs⟩) HW3.out
      dsimp only at f0 f1 f2
      clear hb3 d0 d1 d2 c4 hlk HFZ
      have hlt : w.heap.size + 1 < w3.heap.size := HW3.out.lt
      have hne : w.heap.size + 1 ≠ w3.heap.size := Nat.ne_of_lt hlt
      have g0 : (w3.alloc (.cells #[.string qk, .int .i64 qvk, .int .i64 qvn, .string qvs, .bool true, .bool qe, .bool qf] 31)).cell? ⟨w.heap.size + 1, 0, none⟩ = some (.int .i64 xk) := (HW3.out.low (below_new w3 _)).cell (k := 0) rfl
      have g1 : (w3.alloc (.cells #[.string qk, .int .i64 qvk, .int .i64 qvn, .string qvs, .bool true, .bool qe, .bool qf] 31)).cell? ⟨w.heap.size + 1, 1, none⟩ = some (.int .i64 xn) := (HW3.out.low (below_new w3 _)).cell (k := 1) rfl
      have g2 : (w3.alloc (.cells #[.string qk, .int .i64 qvk, .int .i64 qvn, .string qvs, .bool true, .bool qe, .bool qf] 31)).cell? ⟨w.heap.size + 1, 2, none⟩ = some (.string xs) := (HW3.out.low (below_new w3 _)).cell (k := 2) rfl
      go_wp2_with fail
      refine (HPL.out _).mono ?_
      rintro e w4 ⟨rfl, hb4⟩
      have HP4 := Lib.hid ((HP3.out.low (below_new w3 (.cells #[.string qk, .int .i64 qvk, .int .i64 qvn, .string qvs, .bool true, .bool qe, .bool qf] 31))).low hb4)
      have HB4 := Lib.hid ((HB3.out.trans ((below_new w3 (.cells #[.string qk, .int .i64 qvk, .int .i64 qvn, .string qvs, .bool true, .bool qe, .bool qf] 31)).mono HB3.out.size)).trans (hb4.mono (Nat.le_trans HB3.out.size (below_new w3 (.cells #[.string qk, .int .i64 qvk, .int .i64 qvn, .string qvs, .bool true, .bool qe, .bool qf] 31)).size)))
      clear hb4 g0 g1 g2 f0 f1 f2 hlt hne
      go_wp2_with fail
      refine (HADD.out _ HP4.out).mono ?_
      rintro e w5 ⟨rfl, ow', L', hc⟩
      have HC := Lib.hid hc
      clear hc
      go_wp2_with fail
      refine bodyPost_ret (results_tmp rfl _ _ _) rfl ?_
      rw [← HR.out, HV3.out]
      exact ⟨rfl, ow', L', HC.out.low HB4.out⟩
end
end Go.Proofs.YtcahijpbkjplmaaGreatDoor.G
