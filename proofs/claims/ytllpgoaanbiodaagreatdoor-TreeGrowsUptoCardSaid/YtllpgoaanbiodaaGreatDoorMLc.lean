/-
  TreeBlocks, walked.
-/
import Derived.Test.YtllpgoaanbiodaaGreatDoorMLb
import Derived.Test.YtllpgoaanbiodaaGreatDoorMPk
namespace Go.Proofs.YtllpgoaanbiodaaGreatDoor.R
open Go.RowKit Go.Proofs.YtllpgoaanbiodaaGreatDoor Go.Proofs.YtllpgoaanbiodaaGreatDoor.T

theorem blk_is {w : World} {g : Nat} {A : Option Addr} {c : Nat} {v : V} {xa : Option Addr} (h : w.heap[g]? = some (.cells #[.int .i64 25, .string ⟨#[]⟩, .int .i64 0, .string ⟨#[]⟩, .slice none 0 0, .slice A v.l.length c] 25)) (hc : v.l.length ≤ c) (hr : Row w A v.l) (hx : xa = some ⟨g, 0, none⟩) :
    Is w (prgV [blkV v.l]) ⟨41, ⟨#[]⟩, 0, ⟨#[]⟩, none, 0, 0, xa, 1, 1⟩ := by
  subst hx
  refine row_is (k := 41) (nm := ⟨#[]⟩) rfl (Nat.le_refl _) (Array.getElem?_eq_some_iff.1 h).1 ⟨⟨⟨25, ⟨#[]⟩, 0, ⟨#[]⟩, none, 0, 0, A, v.l.length, c⟩, at_row h rfl rfl rfl rfl rfl rfl, ?_⟩, trivial⟩
  rw [isB_iff]
  exact ⟨⟨rfl, rfl, rfl, rfl⟩, ⟨rfl, Nat.le_refl _, .inl rfl⟩, rfl, hc, hr⟩
set_option maxRecDepth 20000 in
set_option maxHeartbeats 2000000 in
theorem blocks_law (v : V) (x : X) (w : World) (hx : Is w v x) (hb : v.bulk ≤ 1048576) (hT : Tab w) : Calls Tryz.prog 9 #[x.v] w fun e w' => e = .returned (.bool true) ∧ Below w.heap.size w w' := by
  have HLV := Lib.hid fun w' (h : Below w.heap.size w w') => live_any w' (hT.below h)
  have HTX := Lib.hid fun u (y : X) w' (h : Is w' u y) (hv : u.bulk ≤ 4194304) (h2 : Below w.heap.size w w') => text_any u y w' h hv (hT.below h2)
  have HX := Lib.hid hx
  have HBK := Lib.hid hb
  have HBB := Lib.hid (blk_bulk v)
  obtain ⟨xka, xkc, xla, xlc, rfl, -, hlc, -, hrow⟩ := hx.open
  have HRW := Lib.hid hrow
  have HLC := Lib.hid hlc
  obtain ⟨W0, hW0⟩ : ∃ W0, w.alloc (.cells #[.int .i64 v.k, .string v.nm, .int .i64 v.n, .string v.s, .slice xka v.ks.length xkc, .slice xla v.l.length xlc] 25) = W0 := ⟨_, rfl⟩
  have HB0 : Hid (Below w.heap.size w W0) := by rw [← hW0]; exact below_alloc _ _
  have HF : Hid (∀ w', Below W0.heap.size W0 w' → At w' w.heap.size 0 ⟨v.k, v.nm, v.n, v.s, xka, v.ks.length, xkc, xla, v.l.length, xlc⟩) := fun w' hb => by
    have h0 : At W0 w.heap.size 0 ⟨v.k, v.nm, v.n, v.s, xka, v.ks.length, xkc, xla, v.l.length, xlc⟩ := by rw [← hW0]; exact at_row (hp_new rfl) rfl rfl rfl rfl rfl rfl
    exact h0.below (B := W0.heap.size) (by rw [← hW0]; simp) hb
  have HW0 := Lib.hid hW0
  simp only [X.v]
  clear hx hrow hlc hT hb hW0
  go_enter Tryz.func9, Tryz.ntmps9
  go_wp2_with fail
  rw [HW0.out]
  clear HW0
  refine (HLV.out _ HB0.out).mono ?_
  rintro e w1 ⟨rfl, hb1⟩
  have HB1 := Lib.hid hb1
  clear hb1
  obtain ⟨c0, c1, c2, c3, c4, c5⟩ := HF.out _ HB1.out
  dsimp only at c0 c1 c2 c3 c4 c5
  have HBW1 := Lib.hid (HB0.out.trans (HB1.out.mono HB0.out.size))
  go_wp2_with fail
  have ht := HTX.out v _ _ (IsB.to HBW1.out HBW1.out.size _ _ HX.out) (by have := HBK.out; omega) HBW1.out
  simp only [X.v] at ht
  rw [tres_eq] at ht
  refine ht.mono ?_
  rintro e w2 ⟨rfl, hb2⟩
  have HB2 := Lib.hid (HB1.out.trans (hb2.mono HB1.out.size))
  clear ht hb2 HB1 HBW1 c0 c1 c2 c3 c4 c5
  obtain ⟨c0, c1, c2, c3, c4, c5⟩ := HF.out _ HB2.out
  dsimp only at c0 c1 c2 c3 c4 c5
  have HBW2 := Lib.hid (HB0.out.trans (HB2.out.mono HB0.out.size))
  by_cases hte : v.te = 0
  · have HTE := Lib.hid hte
    have HK := Lib.hid (chk0 (te_zero.1 hte).1).1
    rw [hte]
    rw [HK.out] at c0
    clear hte
    have hts := tx_size HTE.out
    have HTS := Lib.hid hts
    clear hts
    go_wp2_with fail
    have hu := HTX.out (prgV [blkV v.l]) _ _ (blk_is (xa := some ⟨w2.heap.size, 0, none⟩) (hp_new (w := w2) rfl) HLC.out (RowB.to HRW.out (HBW2.out.trans ((below_alloc w2 _).mono HBW2.out.size)) (Nat.le_trans HBW2.out.size (by simp))) rfl) (by have := HBK.out; have := HBB.out; omega) (HBW2.out.trans ((below_alloc w2 _).mono HBW2.out.size))
    simp only [X.v] at hu
    rw [tres_eq] at hu
    refine hu.mono ?_
    rintro e w3 ⟨rfl, hb3⟩
    have HB3 := Lib.hid (HB2.out.trans (((below_alloc w2 _).mono HB2.out.size).trans (hb3.mono (Nat.le_trans HB2.out.size (by simp)))))
    have HBW3 := Lib.hid (HB0.out.trans (HB3.out.mono HB0.out.size))
    clear hu hb3 HBW2 HB2 c0 c1 c2 c3 c4 c5
    obtain ⟨c0, c1, c2, c3, c4, c5⟩ := HF.out _ HB3.out
    dsimp only at c0 c1 c2 c3 c4 c5
    have HBAD := Lib.hid fun h => blk_bad HTE.out h
    have HFIN := Lib.hid fun h => blk_fine HTE.out h
    have HTXB := Lib.hid fun h => blk_tx HTE.out h
    have hll : (v.l.length : Int) ≤ 4194304 := by
      have h1 := length_le_bulks v.l
      have h2 := bulk_ge v
      have h3 := HBK.out
      omega
    clear HLV HTX HX HBK HBB HTE HK
    generalize (prgV [blkV v.l]).te = fb at *
    generalize (prgV [blkV v.l]).tx = tb at *
    generalize v.tx = tx at *
    go_wp2_with fail
    go_loopw [36] (fun i wr => ∃ j : Nat, j ≤ v.l.length ∧ i = .int .i64 j ∧ Hid (∀ i, (h : i < v.l.length) → i < j → ¬ v.l[i].k = 39) ∧ Hid (Below w3.heap.size w3 wr))
      (fun i _ => v.l.length - (intOf i).toNat)
    case atStart => exact ⟨0, Nat.zero_le _, rfl, Lib.hid fun i _ h => absurd h (Nat.not_lt_zero _), Lib.hid (Below.refl _ _)⟩
    case round =>
      obtain ⟨j, hj, rfl, hno, hbr⟩ := hrel
      by_cases hlt : j < v.l.length
      · obtain ⟨g, o, rfl, hg, y, hy, hya⟩ := HRW.out.at_ hlt
        have hyk : y.k = v.l[j].k := ((isB_iff _ _ _ _).1 hya).1.1
        have hyy := hy.below hg (HBW3.out.trans (hbr.out.mono HBW3.out.size))
        obtain ⟨d0, d1, d2, d3, d4, d5⟩ := hyy
        have HY := Lib.hid hyk
        have HBF := Lib.hid fun o => (HBW3.out.trans (hbr.out.mono HBW3.out.size)).trans ((below_alloc wr o).mono (Nat.le_trans HBW3.out.size hbr.out.size))
        have HBR := Lib.hid fun o => hbr.out.trans ((below_alloc wr o).mono hbr.out.size)
        obtain ⟨yk, ynm, yn, ys, yka, ykn, ykc, yla, yln, ylc⟩ := y
        dsimp only at d0 d1 d2 d3 d4 d5 hyk
        clear hy hya hg c0 c1 c2 c3 c4 c5 hyk
        by_cases hk : yk = 39
        · subst hk
          have hf : fb = 70 := HBAD.out (List.any_eq_true.2 ⟨_, List.getElem_mem hlt, decide_eq_true HY.out.symm⟩)
          subst hf
          go_wp2_with fail
          go_ret
          exact ⟨rfl, HBF.out _⟩
        · have hkb : (yk == 39) = false := by rw [beq_eq_false_iff_ne]; exact hk
          have HNO : Hid (∀ i, (h : i < v.l.length) → i < j + 1 → ¬ v.l[i].k = 39) := fun i h hi => by
            rcases Nat.lt_succ_iff_lt_or_eq.1 hi with hi | rfl
            · exact hno.out i h hi
            · rw [← HY.out]
              exact hk
          clear hk hno HY
          go_wp2_with fail
          go_roundw
          case rel => exact ⟨j + 1, by omega, by go_num, HNO, HBR.out _⟩
          case measure => simp [intOf]; omega
      · obtain rfl : j = v.l.length := by omega
        have hfin := HFIN.out (by
          rw [List.any_eq_false]
          intro u hu
          obtain ⟨i, hi, rfl⟩ := List.getElem_of_mem hu
          simpa using hno.out i hi hi)
        have HBF := Lib.hid (HBW3.out.trans (hbr.out.mono HBW3.out.size))
        clear HBAD HFIN hno hbr hlt c0 c1 c2 c3 c4 c5
        rcases hfin with rfl | rfl | rfl
        · go_wp2_with fail
          go_ret
          exact ⟨rfl, HBF.out⟩
        · go_wp2_with fail
          go_ret
          exact ⟨rfl, HBF.out⟩
        · obtain ⟨t1, t2⟩ := HTXB.out rfl
          by_cases hn : tx = ⟨#[]⟩
          · have ht := t1 hn
            clear t1 t2 HTXB
            subst ht hn
            go_wp2_with fail
            go_ret
            exact ⟨rfl, HBF.out⟩
          · have ht := t2 hn
            have hz : ¬ tx.size = 0 := fun h => hn (Ps.ba_nil h)
            obtain ⟨z1, z2⟩ := str_some hz
            clear t1 t2 HTXB hn hz
            have hts := HTS.out
            subst ht
            go_wp2_with fail
            go_ret
            exact ⟨rfl, HBF.out⟩
  · have hne : (v.te == 0) = false := by rw [beq_eq_false_iff_ne]; exact hte
    clear hte
    generalize v.te = te at *
    generalize v.tx = tx at *
    go_wp2_with fail
    go_ret
    exact ⟨rfl, HBW2.out⟩
end Go.Proofs.YtllpgoaanbiodaaGreatDoor.R
