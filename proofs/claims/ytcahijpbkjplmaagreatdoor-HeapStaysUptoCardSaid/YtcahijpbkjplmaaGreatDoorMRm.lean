/-
  Close, Delete, Define, Put, by contract. (gen_rm.py)
-/
import Derived.Test.YtcahijpbkjplmaaGreatDoorMRl
import Derived.Test.YtcahijpbkjplmaaGreatDoorMQd
namespace Go.Proofs.YtcahijpbkjplmaaGreatDoor.G
open Go.RowKit Go.Shelf Go.Maps Go.Lib Go.Proofs.YtcahijpbkjplmaaGreatDoor

section
variable {w w1 w2 : World} {ow ow1 ow2 : Nat → Option Nat} {i A : Nat} {H H1 H2 : Hs} {L L1 L2 : List OL} {o o1 : Ob} {x : OL} {p : Pr}
theorem fnd_at {pb : List Nat} {ps : List Pr} {key : ByteArray} {k : Nat} (hl : pb.length = ps.length) (h : ps.findIdx? (has key) = some k) : ∃ b p, pb[k]? = some b ∧ ps[k]? = some p ∧ p.key = key ∧ fnd pb ps key = pv b := by
  obtain ⟨p, hp, hk⟩ := find_idx h
  have hk' : k < pb.length := by rw [hl]; exact (List.getElem?_eq_some_iff.1 hp).1
  refine ⟨pb[k], p, List.getElem?_eq_getElem hk', hp, hk, ?_⟩
  unfold fnd
  rw [h]
  dsimp only
  rw [List.getElem?_eq_getElem hk']
theorem fnd_no {pb : List Nat} {ps : List Pr} {key : ByteArray} (h : ps.findIdx? (has key) = none) : fnd pb ps key = .pointer none := by
  unfold fnd
  rw [h]
theorem set_same {o : Ob} (h : H.os[i]? = some o) : H.set i o = H := by
  unfold Hs.set
  rw [set_id h]
/-- what is known of an object of a heap in form -/
theorem Gd.obj (g : Gd H) (ho : H.os[i]? = some o) : (∀ p ∈ o.ps, p.key.size ≤ 16777216) ∧ (o.ps.map (·.key)).Nodup ∧ o.ps.length ≤ 100000 ∧ (o.cls = AR → o.len ≤ 1000 ∧ ∀ p ∈ o.ps, ∀ z, ix p.key = some z → z < o.len) ∧ (∀ p ∈ o.ps, ∀ y, o.ixA ix AR p.key = some y → y < 1000) := by
  have h := g.og i o ho
  refine ⟨fun p hp => (h.s p hp).1, g.ok.nd i o ho, Nat.le_trans h.l g.n100, h.a, fun p hp y hy => ?_⟩
  unfold Ob.ixA at hy
  split at hy
  · rename_i hc
    have h1 := (h.a hc).2 p hp y hy
    have h2 := (h.a hc).1
    omega
  · cases hy
/-- a call that leaves a heap -/
def HpR (w : World) (A : Nat) (ow : Nat → Option Nat) (L : List OL) (v : Value) (H' : Hs) (e : Ending) (w' : World) : Prop := e = .returned v ∧ ∃ ow' L', Hch w A ow L H' w' ow' L'
set_option maxRecDepth 8000 in
theorem close_any (h : PH w A H ow L) (g : Gd H) (v : Vl) :
    Calls Tryz.prog 18 #[pv A, v.v] w (HpR w A ow L (.bool (H.close v).2) (H.close v).1) := by
  have h0 := h.low (below_new w (.cells v.cs.toArray 29))
  have HF := Lib.hid (find_any h0 v g.os100)
  have HB := Lib.hid (below_new w (.cells v.cs.toArray 29))
  have HP := Lib.hid h0
  obtain ⟨r, HR⟩ : ∃ r, Hid (H.close v = r) := ⟨_, rfl⟩
  rw [HR.out]
  rcases h0.obj (v := v) with ⟨e1, e2⟩ | ⟨i, x, o, e1, e2, e3, e5, e4, h5⟩
  · have HV : Hid (H.close v = (H, false)) := by show H.close v = _; unfold Hs.close; rw [e1]
    rw [e1] at HF
    clear e1 e2 h0 h g
    obtain ⟨vk, vn, vs⟩ := v
    simp only [Vl.v, Vl.cs, ppv] at HF HB HP ⊢
    go_enter Tryz.func18, Tryz.ntmps18
    go_wp2_with fail
    refine HF.out.mono ?_
    rintro e w1 ⟨rfl, hb⟩
    go_wp2_with fail
    refine bodyPost_ret (results_tmp rfl _ _ _) rfl ?_
    rw [← HR.out, HV.out]
    exact ⟨rfl, ow, L, (Hch.below HP.out hb).low HB.out⟩
  · have HV : Hid (H.close v = (H.set i { o with closed := true }, true)) := by show H.close v = _; unfold Hs.close; rw [e1]; dsimp only; rw [e3]
    rw [e1, e4] at HF
    have H5 := Lib.hid h5
    have HO := Lib.hid e3
    have HX := Lib.hid e5
    clear e1 e2 e3 e4 h0 h g h5 e5
    obtain ⟨vk, vn, vs⟩ := v
    simp only [Vl.v, Vl.cs] at HF HB HP H5 ⊢
    go_enter Tryz.func18, Tryz.ntmps18
    go_wp2_with fail
    refine HF.out.mono ?_
    rintro e w1 ⟨rfl, hb⟩
    have h6 := H5.out.low HP.out.lt hb
    have c3 := h6.ob.cell (k := 3) rfl
    have z3 := h6.ob.fz 3
    have HP1 := Lib.hid (HP.out.low hb)
    have H6 := Lib.hid h6
    have HB1 := Lib.hid (HB.out.trans (hb.mono HB.out.size))
    clear h6 hb HF H5 HP
    go_wp2_with fail
    refine bodyPost_ret (results_tmp rfl _ _ _) rfl ?_
    rw [← HR.out, HV.out]
    have hi := (List.getElem?_eq_some_iff.1 HX.out)
    have hc := (Chg.self H6.out HP1.out.lt).put (j := 3) (u := .bool true) (o' := { o with closed := true }) rfl rfl rfl
    exact ⟨rfl, ow, L.set i x, (HP1.out.chg hi.1 (by rw [hi.2]) HO.out hc rfl).low HB1.out⟩
set_option maxRecDepth 8000 in
theorem delete_any (h : PH w A H ow L) (g : Gd H) (v : Vl) (key : ByteArray) (hs : key.size ≤ 16777216) :
    Calls Tryz.prog 36 #[pv A, v.v, .string key] w (HpR w A ow L (.int .i64 (H.delete LK AR v key).2) (H.delete LK AR v key).1) := by
  have h0 := h.low (below_new w (.cells v.cs.toArray 29))
  have HF := Lib.hid (find_any h0 v g.os100)
  have HB := Lib.hid (below_new w (.cells v.cs.toArray 29))
  have HP := Lib.hid h0
  obtain ⟨r, HR⟩ : ∃ r, Hid (H.delete LK AR v key = r) := ⟨_, rfl⟩
  rw [HR.out]
  rcases h0.obj (v := v) with ⟨e1, e2⟩ | ⟨i, x, o, e1, e2, e3, e5, e4, h5⟩
  · have HV : Hid (H.delete LK AR v key = (H, 110)) := by show Hs.delete LK AR H v key = _; unfold Hs.delete; rw [e1]
    rw [e1] at HF
    clear e1 e2 h0 h g
    obtain ⟨vk, vn, vs⟩ := v
    simp only [Vl.v, Vl.cs, ppv] at HF HB HP ⊢
    go_enter Tryz.func36, Tryz.ntmps36
    go_wp2_with fail
    refine HF.out.mono ?_
    rintro e w1 ⟨rfl, hb⟩
    go_wp2_with fail
    refine bodyPost_ret (results_tmp rfl _ _ _) rfl ?_
    rw [← HR.out, HV.out]
    exact ⟨rfl, ow, L, (Hch.below HP.out hb).low HB.out⟩
  · rw [e1, e4] at HF
    have HG := Lib.hid (g.obj e3)
    have HN := Lib.hid g.n100
    have H5 := Lib.hid h5
    have HO := Lib.hid e3
    have HX := Lib.hid e5
    have HE : Hid (H.delete LK AR v key = ((if o.isLen LK AR key then (H, 110) else match o.ps.findIdx? (has key) with
        | none => (H, 0)
        | some k => match o.ps[k]? with
          | none => (H, 110)
          | some q => if q.f = false then (H, 110) else (H.set i { o with ps := o.ps.eraseIdx k }, 0)) : Hs × Int)) := by show Hs.delete LK AR H v key = _; unfold Hs.delete; rw [e1]; dsimp only; rw [e3]; rfl
    have HKS : Hid (key.size ≤ maxLen) := by show key.size ≤ maxLen; unfold maxLen; omega
    have HS := Lib.hid hs
    clear e1 e2 e3 e4 h0 h g h5 e5 hs
    obtain ⟨vk, vn, vs⟩ := v
    simp only [Vl.v, Vl.cs] at HF HB HP H5 ⊢
    go_enter Tryz.func36, Tryz.ntmps36
    go_wp2_with fail
    refine HF.out.mono ?_
    rintro e w1 ⟨rfl, hb⟩
    have h6 := H5.out.low HP.out.lt hb
    have HP1 := Lib.hid (HP.out.low hb)
    have H6 := Lib.hid h6
    have HB1 := Lib.hid (HB.out.trans (hb.mono HB.out.size))
    have HI := Lib.hid (isLength_any h6 key)
    clear h6 hb HF H5 HP
    go_wp2_with fail
    refine HI.out.mono ?_
    rintro e w2 ⟨rfl, rfl⟩
    clear HI
    cases hl : o.isLen LK AR key with
    | true =>
      have HV := Lib.hid (HE.out.trans (if_pos hl))
      clear HE
      go_wp2_with fail
      refine bodyPost_ret (results_tmp rfl _ _ _) rfl ?_
      rw [← HR.out, HV.out]
      exact ⟨rfl, ow, L, (Hch.self HP1.out).low HB1.out⟩
    | false =>
      have HV := Lib.hid (HE.out.trans (if_neg (by rw [hl]; exact Bool.false_ne_true)))
      clear HE
      have c4 := H6.out.ob.cell (k := 4) rfl
      have hlk := H6.out.mp.look Tryz.underlying78 (zeroP _) HKS.out
      cases hf : o.ps.findIdx? (has key) with
      | none =>
        rw [fnd_no hf] at hlk
        rw [hf] at HV
        dsimp only at HV
        go_wp2_with fail
        refine bodyPost_ret (results_tmp rfl _ _ _) rfl ?_
        rw [← HR.out, HV.out]
        exact ⟨rfl, ow, L, (Hch.self HP1.out).low HB1.out⟩
      | some k =>
        obtain ⟨b, p, hb1, hp, hpk, hfn⟩ := fnd_at H6.out.pl hf
        rw [hfn] at hlk
        have HV2 := HV.out
        rw [hf] at HV2
        dsimp only at HV2
        rw [hp] at HV2
        dsimp only at HV2
        have hk1 : k < x.pb.length := (List.getElem?_eq_some_iff.1 hb1).1
        have hk2 : k < o.ps.length := (List.getElem?_eq_some_iff.1 hp).1
        have hblk := H6.out.pr k hk1 hk2
        rw [(List.getElem?_eq_some_iff.1 hb1).2, (List.getElem?_eq_some_iff.1 hp).2] at hblk
        have c6 : w1.cell? ⟨b, 6, none⟩ = some (.bool p.f) := hblk.cell (k := 6) rfl
        have hmem : p ∈ o.ps := List.mem_of_getElem? hp
        cases hpf : p.f with
        | false =>
          rw [if_pos hpf] at HV2
          have HV3 := Lib.hid HV2
          rw [hpf] at c6
          clear HV HV2 hblk hk1 hk2 hb1 hp hfn hf hmem
          go_wp2_with fail
          refine bodyPost_ret (results_tmp rfl _ _ _) rfl ?_
          rw [← HR.out, HV3.out]
          exact ⟨rfl, ow, L, (Hch.self HP1.out).low HB1.out⟩
        | true =>
          rw [if_neg (by rw [hpf]; simp)] at HV2
          have HV3 := Lib.hid HV2
          rw [hpf] at c6
          have HRM := Lib.hid (remove_any H6.out HP1.out.lt hp hb1 (by rw [hpk]; exact HS.out) HG.out.2.1 HN.out HG.out.2.2.1 (HG.out.2.2.2.2 p hmem))
          clear HV HV2 hblk hk1 hk2 hb1 hp hfn hf hmem
          go_wp2_with fail
          refine HRM.out.mono ?_
          rintro e w3 ⟨rfl, ow', x', -, hc⟩
          have HC := Lib.hid hc
          clear hc HRM hlk c4 c6
          go_wp2_with fail
          refine bodyPost_ret (results_tmp rfl _ _ _) rfl ?_
          rw [← HR.out, HV3.out]
          have hi := (List.getElem?_eq_some_iff.1 HX.out)
          exact ⟨rfl, ow', L.set i x', (HP1.out.chg hi.1 (by rw [hi.2]) HO.out HC.out rfl).low HB1.out⟩
end
end Go.Proofs.YtcahijpbkjplmaaGreatDoor.G
