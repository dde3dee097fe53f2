/-
  HeapCells: cells are taken for good. (gen_gd.py)
-/
import Derived.Test.YtcahijpbkjplmaaGreatDoorMGc
import Derived.Lib.MinMax
namespace Go.Proofs.YtcahijpbkjplmaaGreatDoor.G
open Go.RowKit Go.Shelf Go.Maps Go.Lib Go.Proofs.YtcahijpbkjplmaaGreatDoor

theorem cells_next {h : Hs} {l : List Op} (g : ∀ k, Gd (h.run' (l.take k))) {k : Nat} {o : Op} (ho : l[k]? = some o) : (h.run' (l.take k)).n ≤ (h.run' (l.take (k + 1))).n := by
  rw [run_next ho]
  exact (cells_step ix dx LK AR hdx o (g k).ok.le).1
theorem cells_most (m : Int) : ∀ (l : List Op) (k : Nat), ((Hs.new m).run' (l.take k)).most = (Hs.new m).most := fun l k => (to_run ix dx LK AR hdx (l.take k) (Hs.new m)).1
set_option linter.unusedSimpArgs false in
set_option maxRecDepth 20000 in
set_option maxHeartbeats 4000000 in
theorem cells_law (m : Int) (l : List Op) (sl : Value) (w : World) (hT : Tab w) (hl : OpsB w w.heap.size sl l) (hsm : ∀ o ∈ l, Sm o) :
    Calls Tryz.prog 6 #[.int .i64 m, sl] w (AnsB w true) := by
  obtain ⟨A, sc, bg, rfl, hbg, hops⟩ := id hl
  have HT := Lib.hid hT
  have HSM := Lib.hid hsm
  have HOPS := Lib.hid hops
  have HBG := Lib.hid hbg
  have HLV := Lib.hid (live_any w hT)
  clear hT hsm hops hbg hl
  go_enter Tryz.func6, Tryz.ntmps6
  go_wp2_with fail
  refine HLV.out.mono ?_
  rintro e wl ⟨rfl, hb0⟩
  have HB0 := Lib.hid hb0
  clear hb0 HLV
  go_wp2_with fail
  refine (new_any m _).mono ?_
  rintro e wn ⟨b, ow, rfl, hp, hown, hb⟩
  have S1 : Hid (LvS w b (Hs.new m) wn ow []) := ⟨hp, fun k hk => Nat.le_trans HB0.out.size (hown k hk), HB0.out.trans (hb.mono HB0.out.size)⟩
  clear hp hown hb HB0
  by_cases h2 : 200 < l.length
  · have h2' : (200 : Int) < (l.length : Int) := by omega
    clear h2
    go_wp2_with fail
    go_ret
    exact ⟨rfl, S1.out.bel⟩
  · have h2' : ¬ (200 : Int) < (l.length : Int) := by omega
    have h3 : l.length ≤ 200 := by omega
    clear h2
    go_wp2_with fail
    go_loopw [7, 27] (fun u i wr => ∃ k : Nat, k ≤ l.length ∧ u = .int .i64 (((Hs.new m).run' (l.take k)).n : Int) ∧ i = .int .i64 k ∧ Hid (∃ ow L, LvS w b ((Hs.new m).run' (l.take k)) wr ow L)) (fun _ i _ => l.length - (intOf i).toNat)
    case atStart => exact ⟨0, Nat.zero_le _, rfl, rfl, ow, [], S1.out⟩
    case round =>
      obtain ⟨k, hk, rfl, rfl, HSE⟩ := hrel
      by_cases hlt : k < l.length
      · obtain ⟨owr, Lr, hs⟩ := HSE.out
        have HS := Lib.hid hs
        have HWB : Hid (owr wr.heap.size = none) := HS.out.fresh
        clear hs HSE
        obtain ⟨o, HO⟩ : ∃ o, Hid (l[k]? = some o) := ⟨_, List.getElem?_eq_getElem hlt⟩
        have HSO := Lib.hid (HSM.out o (List.mem_of_getElem? HO.out))
        obtain ⟨q, slo, bk, rfl, hbk, hvl, hrow⟩ := HOPS.out k o HO.out
        obtain ⟨zA, zc, rfl, -⟩ := id hvl
        have hrw := hrow.fr (HS.out.bel.block _ HBG.out)
        have HVL := Lib.hid (hvl.fr (HS.out.bel.block _ hbk))
        have HBK := Lib.hid hbk
        obtain ⟨c0, c1, c2, c3, c4, c5, c6, c7, c8, c9, c10, c11, c12, c13, c14, c15⟩ := hrw.all
        clear hrow hrw hvl hbk
        have hb0 := (below_new wr (.cells (opC o (.slice zA o.l.length zc)).toArray 34)).drew
        have S0 := Lib.hid (HS.out.low hb0)
        have hs0 : Blk (wr.alloc (.cells (opC o (.slice zA o.l.length zc)).toArray 34)).drew wr.heap.size 34 (opC o (.slice zA o.l.length zc)) := (Blk.new wr 34 (opC o (.slice zA o.l.length zc))).fr rfl
        have HBW0 := Lib.hid hb0
        clear hb0
        go_wp2_with fail
        refine wp_region_held_drew (S := (fun w' : World => Blk w' wr.heap.size 34 (opC o (.slice zA o.l.length zc)))) (by kernel_rfl) (hs0) (fun hHeld0 => ?_)
        generalize World.drew _ = w0 at *
        (refine wpAnyH_take (i := 0) (v := ?_) rfl (by kernel_rfl) (by decide +kernel) (by decide +kernel) (fun _ _ _ h => h) (Or.inl ⟨by rfl, ?_⟩) (by assumption) ?_; rotate_left; (focus (intro w0 hSw; obtain ⟨e0, e1, e2, e3, e4, e5, e6, e7, e8, e9, e10, e11, e12, e13, e14, e15⟩ := blk_all hSw; go_simp; (try with_reducible rfl); done)))
        (refine wpAnyH_take (i := 2) (v := ?_) rfl (by kernel_rfl) (by decide +kernel) (by decide +kernel) (fun _ _ _ h => h) (Or.inl ⟨by rfl, ?_⟩) (by assumption) ?_; rotate_left; (focus (intro w0 hSw; obtain ⟨e0, e1, e2, e3, e4, e5, e6, e7, e8, e9, e10, e11, e12, e13, e14, e15⟩ := blk_all hSw; go_simp; (try with_reducible rfl); done)))
        try simp only [List.getElem_toArray, List.getElem_cons_zero, List.getElem_cons_succ, Act.put, List.setIfInBounds_toArray, List.set_cons_zero, List.set_cons_succ]
        refine wpAnyH_ready (rs := [1]) (by decide +kernel) (by simp) (AllReadyH.cons rfl (fun K hK => ?_) AllReadyH.nil)
        go_simp
        refine (rnew_any 0 _).mono ?_
        rintro e w1 ⟨X, owx, rfl, hrh, hfr, hb⟩
        have S1 := Lib.hid (S0.out.low hb)
        have hs1 := hs0.low hb
        have HDR := Lib.hid (dr_new S0.out.ph hrh hfr)
        have HBW1 := Lib.hid (HBW0.out.trans (hb.mono HBW0.out.size))
        clear hrh hfr hb hs0 S0 HBW0
        refine hK.out _ _ hs1 (fun hHeld1 => ?_)
        clear hK K hHeld0 c0 c1 c2 c3 c4 c5 c6 c7 c8 c9 c10 c11 c12 c13 c14 c15 
        try simp only [List.getElem_toArray, List.getElem_cons_zero, List.getElem_cons_succ, Act.put, List.setIfInBounds_toArray, List.set_cons_zero, List.set_cons_succ]
        refine wpAnyH_ready (rs := [3]) (by decide +kernel) (by simp) (AllReadyH.cons rfl (fun K hK => ?_) AllReadyH.nil)
        have HDO := do_any S1.out.ph (gd_runs (gd_new m) HSM.out k) HDR.out o HSO.out.so (HVL.out.fr ((S1.out.bel.block _ HBK.out).trans (HS.out.bel.block _ HBK.out).symm)) ⟨Nat.lt_of_lt_of_le HBK.out S1.out.bel.size, S1.out.off HBK.out⟩ (HT.out.below S1.out.bel) (S1.out.off HT.out.lt) HSO.out.l
        simp only [opV] at HDO
        go_simp
        refine HDO.mono ?_
        intro e w2 hdo
        obtain ⟨c, rfl, ow2, L2, hs2, hkp⟩ := S1.out.done hdo
        have HKP := Lib.hid hkp
        have HS2 := Lib.hid hs2
        have hsb : Blk w2 wr.heap.size 34 (opC o (.slice zA o.l.length zc)) := hs1.fr (hkp _ hs1.lt HWB.out).2
        clear hs2 hkp HDO hdo hs1 S1 HDR
        refine hK.out _ _ hsb (fun hHeld2 => ?_)
        clear hK K hHeld1 
        try simp only [List.getElem_toArray, List.getElem_cons_zero, List.getElem_cons_succ, Act.put, List.setIfInBounds_toArray, List.set_cons_zero, List.set_cons_succ]
        refine wpAnyH_done (by kernel_rfl) ?_ _
        clear hHeld2 hsb
        have hn1 := cells_next (gd_runs (gd_new m) HSM.out) HO.out
        have hn2 := (gd_runs (gd_new m) HSM.out (k + 1)).ok.le
        rw [cells_most] at hn2
        have hn3 := most_new m
        have HU := Lib.hid (used_any HS2.out.ph)
        rw [← run_next HO.out] at HU
        have HS3 : Hid (LvS w b ((Hs.new m).run' (l.take (k + 1))) w2 ow2 L2) := by rw [run_next HO.out]; exact HS2.out
        clear HS2
        obtain ⟨n0, HN0⟩ : ∃ n0, Hid (((Hs.new m).run' (l.take k)).n = n0) := ⟨_, rfl⟩
        obtain ⟨n1, HN1⟩ : ∃ n1, Hid (((Hs.new m).run' (l.take (k + 1))).n = n1) := ⟨_, rfl⟩
        rw [HN1.out] at hn1 hn2 HU
        rw [HN0.out] at hn1
        have q1 : ¬ (n1 : Int) < (n0 : Int) := by omega
        have q2 : ¬ max m 0 < (n1 : Int) := by omega
        clear hn1 hn2 hn3
        rw [HN0.out]
        go_wp2_with fail
        refine HU.out.mono ?_
        rintro e w3 ⟨rfl, rfl⟩
        go_wp2_with fail
        refine HU.out.mono ?_
        rintro e w3 ⟨rfl, rfl⟩
        go_wp2_with fail
        refine HU.out.mono ?_
        rintro e w3 ⟨rfl, rfl⟩
        go_wp2_with fail
        go_roundw
        case rel => exact ⟨k + 1, hlt, by rw [HN1.out], by go_num, ow2, L2, HS3.out⟩
        case measure => simp [intOf]; omega
      · obtain rfl : k = l.length := by omega
        obtain ⟨owr, Lr, hs⟩ := HSE.out
        have HS := Lib.hid hs
        clear hs HSE
        go_wp2_with fail
        go_ret
        exact ⟨rfl, HS.out.bel⟩
end Go.Proofs.YtcahijpbkjplmaaGreatDoor.G
