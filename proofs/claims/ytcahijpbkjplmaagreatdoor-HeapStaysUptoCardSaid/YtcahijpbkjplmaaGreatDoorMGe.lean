/-
  HeapProtos: what an object has not itself it has from its prototype. (gen_ge.py)
-/
import Derived.Test.YtcahijpbkjplmaaGreatDoorMGc
namespace Go.Proofs.YtcahijpbkjplmaaGreatDoor.G
open Go.RowKit Go.Shelf Go.Maps Go.Lib Go.Proofs.YtcahijpbkjplmaaGreatDoor

theorem OpsB.mono {w : World} {B B' : Nat} {sl : Value} {l : List Op} (h : OpsB w B sl l) (hB : B ≤ B') : OpsB w B' sl l := by
  obtain ⟨A, c, g, h1, h2, h3⟩ := h
  refine ⟨A, c, g, h1, Nat.lt_of_lt_of_le h2 hB, fun j o ho => ?_⟩
  obtain ⟨q, slo, bk, h4, h5, h6⟩ := h3 j o ho
  exact ⟨q, slo, bk, h4, Nat.lt_of_lt_of_le h5 hB, h6⟩
theorem LvS.from {w w1 w2 : World} {b : Nat} {H : Hs} {ow : Nat → Option Nat} {L : List OL} (h : LvS w1 b H w2 ow L) (hb : Below w.heap.size w w1) : LvS w b H w2 ow L :=
  ⟨h.ph, fun k hk => Nat.le_trans hb.size (h.own k hk), hb.trans (h.bel.mono hb.size)⟩
theorem at_null (h : Hs) : h.at null = none := at_none (by rintro ⟨h, -⟩; exact absurd h (by decide))
theorem own_first {h : Hs} (k : Ok h) {v : Vl} {key : ByteArray} {p : Pr} (e : h.ownV v key = some p) : h.find LK AR (h.at v) key = some p := by
  unfold Hs.ownV Hs.obj at e
  cases ha : h.at v with
  | none =>
    rw [ha] at e
    cases e
  | some i =>
    rw [ha] at e
    change (h.os[i]?).bind _ = _ at e
    cases ho : h.os[i]? with
    | none =>
      rw [ho] at e
      cases e
    | some o =>
      rw [ho] at e
      change o.own LK AR key = _ at e
      rw [find_some LK AR k ho, e]
      rfl
theorem own_next {h : Hs} (k : Ok h) {v : Vl} {key : ByteArray} (e : h.ownV v key = none) : h.find LK AR (h.at v) key = h.find LK AR (h.at (protoR (h.obj v))) key := by
  unfold Hs.ownV at e
  cases ha : h.at v with
  | none =>
    rw [obj_none ha]
    show _ = h.find LK AR (h.at null) key
    rw [at_null]
  | some i =>
    have hi := at_lt ha
    have ho : h.os[i]? = some h.os[i] := List.getElem?_eq_getElem hi
    have hob : h.obj v = some h.os[i] := by unfold Hs.obj; rw [ha]; exact ho
    rw [hob] at e ⊢
    change h.os[i].own LK AR key = _ at e
    rw [find_some LK AR k ho, e]
    show h.find LK AR h.os[i].proto key = h.find LK AR (h.at (refO h.os[i].proto)) key
    cases hp : h.os[i].proto with
    | none => rw [show refO none = null from rfl, at_null]
    | some p =>
      have := k.pw i _ ho p hp
      rw [show refO (some p) = ref p from rfl, at_ref (by omega)]
set_option linter.unusedSimpArgs false in
set_option maxRecDepth 20000 in
set_option maxHeartbeats 4000000 in
theorem protos_law (m : Int) (l : List Op) (sl : Value) (v : Vl) (key : ByteArray) (w : World) (hT : Tab w) (hl : OpsB w w.heap.size sl l) (hsm : ∀ o ∈ l, Sm o) (hks : key.size ≤ 16777216) :
    Calls Tryz.prog 7 #[.int .i64 m, sl, v.v, .string key] w (AnsB w true) := by
  have hb0 := below_new w (.cells v.cs.toArray 29)
  have HB0 := Lib.hid hb0
  have HV0 := Lib.hid (Blk.new w 29 v.cs)
  have HLV := Lib.hid (live_any _ (hT.below hb0))
  have HM := Lib.hid fun wl (hb : Below (w.alloc (.cells v.cs.toArray 29)).heap.size (w.alloc (.cells v.cs.toArray 29)) wl) => made_any m l sl wl ((hT.below hb0).below hb) (((hl.low hb0).low (hb.mono hb0.size)).mono (Nat.le_trans hb0.size hb.size)) hsm
  have HG := Lib.hid (by have := gd_runs (gd_new m) hsm l.length; rw [List.take_length] at this; exact this : Gd ((Hs.new m).run' l))
  obtain ⟨sA, sc, bg, hsl, -, -⟩ := hl
  have hkm : key.size ≤ maxLen := by unfold maxLen; omega
  have HK := Lib.hid hkm
  clear hT hsm hb0 hkm hks
  rw [hsl] at HM ⊢
  clear hsl
  unfold MadeR at HM
  generalize (Hs.new m).run' l = H at *
  have HO := Lib.hid fun w1 b ow L (s : LvS (w.alloc (.cells v.cs.toArray 29)) b H w1 ow L) => Own_any s.ph HG.out v key HK.out
  have HGT := Lib.hid fun w1 b ow L (s : LvS (w.alloc (.cells v.cs.toArray 29)) b H w1 ow L) => get_any s.ph HG.out v key HK.out
  have HPR := Lib.hid fun w1 b ow L (s : LvS (w.alloc (.cells v.cs.toArray 29)) b H w1 ow L) => proto_any s.ph HG.out v
  have HGP := Lib.hid fun w1 b ow L (s : LvS (w.alloc (.cells v.cs.toArray 29)) b H w1 ow L) => get_any s.ph HG.out (protoR (H.obj v)) key HK.out
  cases hown : H.ownV v key with
  | some p =>
    have HF : Hid (H.find LK AR (H.at v) key = some p) := own_first HG.out.ok hown
    have HOW := Lib.hid hown
    clear hown HPR HGP
    rw [HOW.out] at HO
    rw [HF.out] at HGT
    clear HOW HF HG HK
    obtain ⟨qk, ⟨qvk, qvn, qvs⟩, qw, qe, qf⟩ := p
    obtain ⟨vk, vn, vs⟩ := v
    simp only [Vl.v, Vl.cs, Pr.v', ownR, getR] at HB0 HV0 HLV HM HO HGT ⊢
    go_enter Tryz.func7, Tryz.ntmps7
    go_wp2_with fail
    refine HLV.out.mono ?_
    rintro e wl ⟨rfl, hbl⟩
    have HBL := Lib.hid hbl
    have HM1 := Lib.hid (HM.out wl hbl)
    clear hbl HLV HM
    go_wp2_with fail
    refine HM1.out.mono ?_
    rintro e w1 hmade
    rcases hmade with ⟨h2, rfl, hb⟩ | ⟨-, b, ow, L, rfl, hs⟩
    · have h2' : (200 : Int) < (l.length : Int) := by omega
      have HBE := Lib.hid (HB0.out.trans ((HBL.out.trans (hb.mono HBL.out.size)).mono HB0.out.size))
      clear h2 hb
      go_wp2_with fail
      go_ret
      exact ⟨rfl, HBE.out⟩
    · have S1 := Lib.hid (hs.from HBL.out)
      have HV1 := Lib.hid ((HV0.out.low HBL.out).low hs.bel)
      clear hs HM1 HBL
      have hcc := HO.out _ _ _ _ S1.out
      obtain ⟨d0, d1, d2⟩ := Blk.three (v := ⟨vk, vn, vs⟩) HV1.out
      dsimp only at d0 d1 d2
      clear HO
      go_wp2_with fail
      refine hcc.mono ?_
      rintro e w2 ⟨rfl, hb⟩
      have S2 := Lib.hid (S1.out.low hb)
      have HV2 := Lib.hid (HV1.out.low hb)
      clear hb d0 d1 d2 hcc S1 HV1
      have hb2 := below_new w2 (.cells #[.string qk, .int .i64 qvk, .int .i64 qvn, .string qvs, .bool qw, .bool qe, .bool qf] 31)
      have S2a := Lib.hid (S2.out.low hb2)
      have HV2a := Lib.hid (HV2.out.low hb2)
      have HN2 := Lib.hid (Blk.new w2 31 [.string qk, .int .i64 qvk, .int .i64 qvn, .string qvs, .bool qw, .bool qe, .bool qf])
      have hcc := HGT.out _ _ _ _ S2a.out
      obtain ⟨d0, d1, d2⟩ := Blk.three (v := ⟨vk, vn, vs⟩) HV2a.out
      dsimp only at d0 d1 d2
      clear HGT hb2 S2 HV2
      go_wp2_with fail
      refine hcc.mono ?_
      rintro e w3 ⟨rfl, hb⟩
      have hb3 := below_new w3 (.cells #[.int .i64 qvk, .int .i64 qvn, .string qvs] 29)
      have S3 := Lib.hid ((S2a.out.low hb).low hb3)
      have HN3 := Lib.hid ((HN2.out.low hb).low hb3)
      obtain ⟨f0, f1, f2, f3, f4, f5, f6⟩ := Blk.seven (p := ⟨qk, ⟨qvk, qvn, qvs⟩, qw, qe, qf⟩) HN3.out
      dsimp only at f0 f1 f2 f3 f4 f5 f6
      clear hb hb3 d0 d1 d2 hcc HN2 HN3 S2a HV2a
      go_wp2_with fail
      go_ret
      exact ⟨rfl, HB0.out.trans (S3.out.bel.mono HB0.out.size)⟩
  | none =>
    have HF : Hid (H.find LK AR (H.at v) key = H.find LK AR (H.at (protoR (H.obj v))) key) := own_next HG.out.ok hown
    have HOW := Lib.hid hown
    clear hown
    rw [HOW.out] at HO
    rw [HF.out] at HGT
    clear HOW HF
    obtain ⟨x, bx, hx⟩ := getR_is (H.find LK AR (H.at (protoR (H.obj v))) key)
    rw [hx] at HGT HGP
    clear hx HG HK
    generalize protoR (H.obj v) = pr at *
    obtain ⟨xk, xn, xs⟩ := x
    obtain ⟨rk, rn, rs⟩ := pr
    obtain ⟨vk, vn, vs⟩ := v
    simp only [Vl.v, Vl.cs, Pr.v', ownR, pr0] at HB0 HV0 HLV HM HO HGT HPR HGP ⊢
    go_enter Tryz.func7, Tryz.ntmps7
    go_wp2_with fail
    refine HLV.out.mono ?_
    rintro e wl ⟨rfl, hbl⟩
    have HBL := Lib.hid hbl
    have HM1 := Lib.hid (HM.out wl hbl)
    clear hbl HLV HM
    go_wp2_with fail
    refine HM1.out.mono ?_
    rintro e w1 hmade
    rcases hmade with ⟨h2, rfl, hb⟩ | ⟨-, b, ow, L, rfl, hs⟩
    · have h2' : (200 : Int) < (l.length : Int) := by omega
      have HBE := Lib.hid (HB0.out.trans ((HBL.out.trans (hb.mono HBL.out.size)).mono HB0.out.size))
      clear h2 hb
      go_wp2_with fail
      go_ret
      exact ⟨rfl, HBE.out⟩
    · have S1 := Lib.hid (hs.from HBL.out)
      have HV1 := Lib.hid ((HV0.out.low HBL.out).low hs.bel)
      clear hs HM1 HBL
      have hcc := HO.out _ _ _ _ S1.out
      obtain ⟨d0, d1, d2⟩ := Blk.three (v := ⟨vk, vn, vs⟩) HV1.out
      dsimp only at d0 d1 d2
      clear HO
      go_wp2_with fail
      refine hcc.mono ?_
      rintro e w2 ⟨rfl, hb⟩
      have hb2 := below_new w2 (.cells #[.string ⟨#[]⟩, .int .i64 0, .int .i64 0, .string ⟨#[]⟩, .bool false, .bool false, .bool false] 31)
      have S2 := Lib.hid ((S1.out.low hb).low hb2)
      have HV2 := Lib.hid ((HV1.out.low hb).low hb2)
      clear hb hb2 d0 d1 d2 hcc S1 HV1
      have hcc := HGT.out _ _ _ _ S2.out
      obtain ⟨d0, d1, d2⟩ := Blk.three (v := ⟨vk, vn, vs⟩) HV2.out
      dsimp only at d0 d1 d2
      clear HGT
      go_wp2_with fail
      refine hcc.mono ?_
      rintro e w3 ⟨rfl, hb⟩
      have hb3 := below_new w3 (.cells #[.int .i64 xk, .int .i64 xn, .string xs] 29)
      have S3 := Lib.hid ((S2.out.low hb).low hb3)
      have HV3 := Lib.hid ((HV2.out.low hb).low hb3)
      have HX3 := Lib.hid (Blk.new w3 29 [.int .i64 xk, .int .i64 xn, .string xs])
      clear hb hb3 d0 d1 d2 hcc S2 HV2
      have hcc := HPR.out _ _ _ _ S3.out
      obtain ⟨d0, d1, d2⟩ := Blk.three (v := ⟨vk, vn, vs⟩) HV3.out
      dsimp only at d0 d1 d2
      clear HPR
      go_wp2_with fail
      refine hcc.mono ?_
      rintro e w4 ⟨rfl, hb⟩
      have S4 := Lib.hid (S3.out.low hb)
      have HX4 := Lib.hid (HX3.out.low hb)
      clear hb d0 d1 d2 hcc S3 HV3 HX3
      have hcc := HGP.out _ _ _ _ S4.out
      clear HGP
      go_wp2_with fail
      refine hcc.mono ?_
      rintro e w5 ⟨rfl, hb⟩
      have hb5 := below_new w5 (.cells #[.int .i64 xk, .int .i64 xn, .string xs] 29)
      have S5 := Lib.hid ((S4.out.low hb).low hb5)
      have HX5 := Lib.hid ((HX4.out.low hb).low hb5)
      obtain ⟨f0, f1, f2⟩ := Blk.three (v := ⟨xk, xn, xs⟩) HX5.out
      dsimp only at f0 f1 f2
      clear hb hb5 hcc S4 HX4 HX5
      go_wp2_with fail
      go_ret
      exact ⟨rfl, HB0.out.trans (S5.out.bel.mono HB0.out.size)⟩
end Go.Proofs.YtcahijpbkjplmaaGreatDoor.G
