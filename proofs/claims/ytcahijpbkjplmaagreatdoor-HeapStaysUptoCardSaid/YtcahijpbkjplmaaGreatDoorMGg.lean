/-
  HeapStays: what may not be written, and is not free, stays. (gen_gg.py)
-/
import Derived.Test.YtcahijpbkjplmaaGreatDoorMGe
namespace Go.Proofs.YtcahijpbkjplmaaGreatDoor.G
open Go.RowKit Go.Shelf Go.Maps Go.Lib Go.Proofs.YtcahijpbkjplmaaGreatDoor

theorem stays_own {h : Hs} {v : Vl} {key : ByteArray} {x : Vl} (hkey : key ≠ LK) (h0 : (h.define ix LK AR v ⟨key, x, false, false, false⟩).2 = 0) (more : List Op) : ((h.define ix LK AR v ⟨key, x, false, false, false⟩).1.run' more).ownV v key = some ⟨key, x, false, false, false⟩ := by
  obtain ⟨i, o, e1, e2, e3⟩ := define_there ix LK AR (h := h) (v := v) (p := ⟨key, x, false, false, false⟩) hkey h0
  obtain ⟨o', f1, f2, f3⟩ := stays_run ix dx LK AR hdx e1 e2 e3 more
  have hob : ((h.define ix LK AR v ⟨key, x, false, false, false⟩).1.run' more).obj v = some o' := by
    unfold Hs.obj
    show (Hs.at (Hs.run ix dx LK AR _ more) v).bind _ = _
    rw [f1]
    exact f2
  unfold Hs.ownV
  rw [hob]
  show o'.own LK AR key = _
  rw [own_find LK AR hkey]
  exact f3
set_option linter.unusedSimpArgs false in
set_option maxRecDepth 20000 in
set_option maxHeartbeats 4000000 in
theorem stays_law (m : Int) (l more : List Op) (sl sl2 : Value) (v x : Vl) (key : ByteArray) (w : World) (hT : Tab w) (hl : OpsB w w.heap.size sl l) (hsm : ∀ o ∈ l, Sm o) (hl2 : OpsB w w.heap.size sl2 more) (hsm2 : ∀ o ∈ more, Sm o) (hks : key.size ≤ 16777216) (hxs : Sv x) :
    Calls Tryz.prog 5 #[.int .i64 m, sl, v.v, .string key, x.v, sl2] w (AnsB w true) := by
  have hb0 := two_low (w := w) 29 29 v.cs x.cs
  have HB0 := Lib.hid hb0
  have HV0 := Lib.hid (blk_two w 29 29 v.cs x.cs).1
  have HX0 := Lib.hid (blk_two w 29 29 v.cs x.cs).2
  have HT := Lib.hid (hT.below hb0)
  have HOL := Lib.hid ((hl.low hb0).mono hb0.size)
  have HOM := (hl2.low hb0).mono hb0.size
  have HSM1 := Lib.hid hsm
  have HSM := Lib.hid hsm2
  have HG := Lib.hid (by have := gd_runs (gd_new m) hsm l.length; rw [List.take_length] at this; exact this : Gd ((Hs.new m).run' l))
  obtain ⟨sA1, sc1, bg1, hsl1, -, -⟩ := hl
  have hkm : key.size ≤ maxLen := by unfold maxLen; omega
  have HK := Lib.hid hkm
  have HD := Lib.hid fun (w1 : World) b ow L (hp : PH w1 b ((Hs.new m).run' l) ow L) => define_any hp HG.out v ⟨key, x, false, false, false⟩ ⟨hks, hxs⟩
  have HG2 := Lib.hid (gd_define HG.out v (p := ⟨key, x, false, false, false⟩) ⟨hks, hxs⟩)
  have HSO := Lib.hid fun (hkey : key ≠ LK) h0 => stays_own (h := (Hs.new m).run' l) (v := v) (x := x) hkey h0 more
  obtain ⟨H1, er, hr⟩ : ∃ H1 er, ((Hs.new m).run' l).define ix LK AR v ⟨key, x, false, false, false⟩ = (H1, er) := ⟨_, _, rfl⟩
  rw [hr] at HD HG2 HSO
  dsimp only at HD HG2 HSO
  have HM := Lib.hid fun wl (hb : Below ((w.alloc (.cells v.cs.toArray 29)).alloc (.cells x.cs.toArray 29)).heap.size ((w.alloc (.cells v.cs.toArray 29)).alloc (.cells x.cs.toArray 29)) wl) => made_any m l sl wl (HT.out.below hb) ((HOL.out.low hb).mono hb.size) HSM1.out
  clear HOL HSM1
  unfold MadeR at HM
  generalize (Hs.new m).run' l = H at *
  clear hT hsm hsm2 hb0 hkm hks hxs hr hl2
  rw [hsl1] at HM ⊢
  clear hsl1
  have HLV := Lib.hid (live_any _ HT.out)
  obtain ⟨sA2, sc2, bg2, rfl, hbg, hops⟩ := HOM
  have HBG := Lib.hid hbg
  have HOPS := Lib.hid hops
  clear hbg hops
  have HLK := Lib.hid (toList_eq_is key LK)
  have HUL := Lib.hid ulen_any
  obtain ⟨vk, vn, vs⟩ := v
  obtain ⟨xk, xn, xs⟩ := x
  simp only [Vl.v, Vl.cs, Pr.v'] at HB0 HV0 HX0 HT HM HD HLV HBG HOPS ⊢
  go_enter Tryz.func5, Tryz.ntmps5
  go_wp2_with fail
  generalize hW : (w.alloc (.cells #[.int .i64 vk, .int .i64 vn, .string vs] 29)).alloc (.cells #[.int .i64 xk, .int .i64 xn, .string xs] 29) = W0 at *
  clear hW
  refine HLV.out.mono ?_
  rintro e wl ⟨rfl, hbl⟩
  have HBL := Lib.hid hbl
  have HM1 := Lib.hid (HM.out wl hbl)
  clear hbl HLV HM
  go_wp2_with fail
  refine HM1.out.mono ?_
  rintro e w1 hmade
  rcases hmade with ⟨h2, rfl, hb⟩ | ⟨-, b, ow, L, rfl, hs⟩
  · have HBE := Lib.hid (HB0.out.trans ((HBL.out.trans (hb.mono HBL.out.size)).mono HB0.out.size))
    clear h2 hb
    go_wp2_with fail
    go_ret
    exact ⟨rfl, HBE.out⟩
  · have S1 := Lib.hid (hs.from HBL.out)
    have HV1 := Lib.hid ((HV0.out.low HBL.out).low hs.bel)
    have HX1 := Lib.hid ((HX0.out.low HBL.out).low hs.bel)
    clear hs HM1 HBL
    by_cases h2 : 100 < more.length
    · have h2' : (100 : Int) < (more.length : Int) := by omega
      clear h2
      go_wp2_with fail
      go_ret
      exact ⟨rfl, HB0.out.trans (S1.out.bel.mono HB0.out.size)⟩
    · have h2' : ¬ (100 : Int) < (more.length : Int) := by omega
      have h3 : more.length ≤ 100 := by omega
      clear h2
      by_cases hkey : key = LK
      · have hkk := HLK.out.trans (decide_eq_true hkey)
        clear hkey
        go_wp2_with fail
        refine (HUL.out _).mono ?_
        rintro e w2 ⟨rfl, hb⟩
        have S2 := Lib.hid (S1.out.low hb)
        clear hb
        go_wp2_with fail
        go_ret
        exact ⟨rfl, HB0.out.trans (S2.out.bel.mono HB0.out.size)⟩
      · have hkk := HLK.out.trans (decide_eq_false hkey)
        have HOWN := Lib.hid (HSO.out hkey)
        clear hkey HSO
        go_wp2_with fail
        refine (HUL.out _).mono ?_
        rintro e w2 ⟨rfl, hb⟩
        have S2 := Lib.hid (S1.out.low hb)
        have HV2 := Lib.hid (HV1.out.low hb)
        have HX2 := Lib.hid (HX1.out.low hb)
        have hcc := HD.out _ _ _ _ S2.out.ph
        obtain ⟨d0, d1, d2⟩ := Blk.three (v := ⟨vk, vn, vs⟩) HV2.out
        obtain ⟨f0, f1, f2⟩ := Blk.three (v := ⟨xk, xn, xs⟩) HX2.out
        dsimp only at d0 d1 d2 f0 f1 f2
        clear hb S1 HV1 HX1 HD
        go_wp2_with fail
        refine hcc.mono ?_
        rintro e w3 ⟨rfl, ow3, L3, hch⟩
        have S3 := Lib.hid (S2.out.next hch)
        have HV3 : Hid (Blk w3 w.heap.size 29 [.int .i64 vk, .int .i64 vn, .string vs]) := HV0.out.fr (S3.out.bel.block _ HV0.out.lt)
        clear hch d0 d1 d2 f0 f1 f2 HV2 HX2 S2 hcc
        by_cases her : er = 0
        · subst her
          have HOW := Lib.hid (HOWN.out rfl)
          clear HOWN
          go_wp2_with fail
          go_loopw [46] (fun i wr => ∃ k : Nat, k ≤ more.length ∧ i = .int .i64 k ∧ Hid (∃ ow L, LvS W0 b (H1.run' (more.take k)) wr ow L)) (fun i _ => more.length - (intOf i).toNat)
          case atStart => exact ⟨0, Nat.zero_le _, rfl, ow3, L3, S3.out⟩
          case round =>
            obtain ⟨k, hk, rfl, HSE⟩ := hrel
            by_cases hlt : k < more.length
            · obtain ⟨owr, Lr, hs⟩ := HSE.out
              have HS := Lib.hid hs
              have HWB : Hid (owr wr.heap.size = none) := HS.out.fresh
              clear hs HSE
              obtain ⟨o, HO⟩ : ∃ o, Hid (more[k]? = some o) := ⟨_, List.getElem?_eq_getElem hlt⟩
              have HSO := Lib.hid (HSM.out o (List.mem_of_getElem? HO.out))
              obtain ⟨q, slo, bk, rfl, hbk, hvl, hrow⟩ := HOPS.out k o HO.out
              obtain ⟨zA, zc, rfl, -⟩ := id hvl
              have hrw := hrow.fr (HS.out.bel.block _ HBG.out)
              have HVL := Lib.hid (hvl.fr (HS.out.bel.block _ hbk))
              have HBK := Lib.hid hbk
              obtain ⟨c0, c1, c2, c3, c4, c5, c6, c7, c8, c9, c10, c11, c12, c13, c14, c15⟩ := hrw.all
              clear hrow hrw hvl hbk
              have hb0 := (below_new wr (.cells (opC o (.slice zA o.l.length zc)).toArray 34)).drew
              have S0 := Lib.hid (HS.out.low hb0)
              have hs0 : Blk (wr.alloc (.cells (opC o (.slice zA o.l.length zc)).toArray 34)).drew wr.heap.size 34 (opC o (.slice zA o.l.length zc)) := (Blk.new wr 34 (opC o (.slice zA o.l.length zc))).fr rfl
              have HBW0 := Lib.hid hb0
              clear hb0
              go_wp2_with fail
              refine wp_region_held_drew (S := (fun w' : World => Blk w' wr.heap.size 34 (opC o (.slice zA o.l.length zc)))) (by kernel_rfl) (hs0) (fun hHeld0 => ?_)
              generalize World.drew _ = w0 at *
              (refine wpAnyH_take (i := 0) (v := ?_) rfl (by kernel_rfl) (by decide +kernel) (by decide +kernel) (fun _ _ _ h => h) (Or.inl ⟨by rfl, ?_⟩) (by assumption) ?_; rotate_left; (focus (intro w0 hSw; obtain ⟨e0, e1, e2, e3, e4, e5, e6, e7, e8, e9, e10, e11, e12, e13, e14, e15⟩ := blk_all hSw; go_simp; (try with_reducible rfl); done)))
              (refine wpAnyH_take (i := 2) (v := ?_) rfl (by kernel_rfl) (by decide +kernel) (by decide +kernel) (fun _ _ _ h => h) (Or.inl ⟨by rfl, ?_⟩) (by assumption) ?_; rotate_left; (focus (intro w0 hSw; obtain ⟨e0, e1, e2, e3, e4, e5, e6, e7, e8, e9, e10, e11, e12, e13, e14, e15⟩ := blk_all hSw; go_simp; (try with_reducible rfl); done)))
              try simp only [List.getElem_toArray, List.getElem_cons_zero, List.getElem_cons_succ, Act.put, List.setIfInBounds_toArray, List.set_cons_zero, List.set_cons_succ]
              refine wpAnyH_ready (rs := [1]) (by decide +kernel) (by simp) (AllReadyH.cons rfl (fun K hK => ?_) AllReadyH.nil)
              go_simp
              refine (rnew_any 0 _).mono ?_
              rintro e w1 ⟨X, owx, rfl, hrh, hfr, hb⟩
              have S1 := Lib.hid (S0.out.low hb)
              have hs1 := hs0.low hb
              have HDR := Lib.hid (dr_new S0.out.ph hrh hfr)
              have HBW1 := Lib.hid (HBW0.out.trans (hb.mono HBW0.out.size))
              clear hrh hfr hb hs0 S0 HBW0
              refine hK.out _ _ hs1 (fun hHeld1 => ?_)
              clear hK K hHeld0 c0 c1 c2 c3 c4 c5 c6 c7 c8 c9 c10 c11 c12 c13 c14 c15 
              try simp only [List.getElem_toArray, List.getElem_cons_zero, List.getElem_cons_succ, Act.put, List.setIfInBounds_toArray, List.set_cons_zero, List.set_cons_succ]
              refine wpAnyH_ready (rs := [3]) (by decide +kernel) (by simp) (AllReadyH.cons rfl (fun K hK => ?_) AllReadyH.nil)
              have HDO := do_any S1.out.ph (gd_runs HG2.out HSM.out k) HDR.out o HSO.out.so (HVL.out.fr ((S1.out.bel.block _ HBK.out).trans (HS.out.bel.block _ HBK.out).symm)) ⟨Nat.lt_of_lt_of_le HBK.out S1.out.bel.size, S1.out.off HBK.out⟩ (HT.out.below S1.out.bel) (S1.out.off HT.out.lt) HSO.out.l
              simp only [opV] at HDO
              go_simp
              refine HDO.mono ?_
              intro e w2 hdo
              obtain ⟨c, rfl, ow2, L2, hs2, hkp⟩ := S1.out.done hdo
              have HKP := Lib.hid hkp
              have HS2 := Lib.hid hs2
              have hsb : Blk w2 wr.heap.size 34 (opC o (.slice zA o.l.length zc)) := hs1.fr (hkp _ hs1.lt HWB.out).2
              clear hs2 hkp HDO hdo hs1 S1 HDR
              refine hK.out _ _ hsb (fun hHeld2 => ?_)
              clear hK K hHeld1 
              try simp only [List.getElem_toArray, List.getElem_cons_zero, List.getElem_cons_succ, Act.put, List.setIfInBounds_toArray, List.set_cons_zero, List.set_cons_succ]
              refine wpAnyH_done (by kernel_rfl) ?_ _
              clear hHeld2 hsb
              go_wp2_with fail
              go_roundw
              case rel => exact ⟨k + 1, hlt, by go_num, ow2, L2, by rw [run_next HO.out]; exact HS2.out⟩
              case measure => simp [intOf]; omega
            · obtain rfl : k = more.length := by omega
              obtain ⟨owr, Lr, hs⟩ := HSE.out
              rw [List.take_length] at hs
              have HS := Lib.hid hs
              have hgd := gd_runs HG2.out HSM.out more.length
              rw [List.take_length] at hgd
              have hcc := Own_any HS.out.ph hgd ⟨vk, vn, vs⟩ key HK.out
              rw [HOW.out] at hcc
              simp only [Vl.v, ownR, Pr.v'] at hcc
              obtain ⟨d0, d1, d2⟩ := Blk.three (v := ⟨vk, vn, vs⟩) (HV0.out.fr (HS.out.bel.block _ HV0.out.lt))
              dsimp only at d0 d1 d2
              clear hs HSE hgd
              go_wp2_with fail
              refine hcc.mono ?_
              rintro e w5 ⟨rfl, hb⟩
              have S5 := Lib.hid (HS.out.low hb)
              have hb5 := below_new w5 (.cells #[.string key, .int .i64 xk, .int .i64 xn, .string xs, .bool false, .bool false, .bool false] 31)
              have S6 := Lib.hid (S5.out.low hb5)
              obtain ⟨f0, f1, f2⟩ := Blk.three (v := ⟨xk, xn, xs⟩) (HX0.out.fr (S6.out.bel.block _ HX0.out.lt))
              dsimp only at f0 f1 f2
              clear hb hb5 d0 d1 d2 hcc S5 HS
              go_wp2_with fail
              go_ret
              exact ⟨rfl, HB0.out.trans (S6.out.bel.mono HB0.out.size)⟩
        · have her' : (er != 0) = true := by rw [bne_iff_ne]; exact her
          have her2 : (er == 0) = false := by rw [beq_eq_false_iff_ne]; exact her
          clear HOWN
          go_wp2_with fail
          go_ret
          exact ⟨rfl, HB0.out.trans (S3.out.bel.mono HB0.out.size)⟩
end Go.Proofs.YtcahijpbkjplmaaGreatDoor.G
