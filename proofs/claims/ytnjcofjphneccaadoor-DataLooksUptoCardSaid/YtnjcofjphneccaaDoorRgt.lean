/-
  The reference's Get, by contract.
-/
import Derived.Test.YtnjcofjphneccaaDoorRcp
import Derived.Test.YtnjcofjphneccaaDoorGet
namespace Go.Proofs.YtnjcofjphneccaaDoor
open Go.RowKit

theorem key_ne {a b : ByteArray} (h : ¬ a = b) : (a.toList == b.toList) = false := str_ne h
set_option maxRecDepth 8000 in
set_option maxHeartbeats 2000000 in
theorem refGet_any (v : V) (x : X) (key : ByteArray) (w : World) (h : Is w v x) (hbk : v.bulk ≤ 4194304) :
    Calls Tryd.prog 14 #[x.v, .string key] w fun e w' => ∃ y, e = .returned (.tuple #[y.v, .bool (got v key).isSome]) ∧ Is w' ((got v key).getD zeroV) y ∧ Below w.heap.size w w' := by
  have hkl : v.ks.length ≤ 4194304 := by
    have h1 := length_le_keysBulk v.ks
    obtain ⟨_, _, _, _, _⟩ := v
    simp only [V.bulk, V.ks] at *
    omega
  have hll : v.l.length ≤ 4194304 := by
    have h1 := length_le_bulks v.l
    obtain ⟨_, _, _, _, _⟩ := v
    simp only [V.bulk, V.l] at *
    omega
  obtain ⟨ka, kc, la, lc, rfl, h1, h2, h3, h4⟩ := h.open
  have HG : Hid (got v key = (findK key v.ks).bind fun j => v.l[j]?) := Lib.hid rfl
  have HR := Lib.hid h4
  clear h
  simp only [X.v]
  obtain ⟨W0, hW0⟩ : ∃ W0, W0 = (w.alloc (.cells #[.int .i64 v.k, .int .i64 v.n, .string v.s, .slice ka v.ks.length kc, .slice la v.l.length lc] 25)).alloc (.cells #[.int .i64 0, .int .i64 0, .string ⟨#[]⟩, .slice none 0 0, .slice none 0 0] 25) := ⟨_, rfl⟩
  obtain ⟨β, hβ⟩ : ∃ β, β = w.heap.size := ⟨_, rfl⟩
  obtain ⟨ρ, hρ⟩ : ∃ ρ, ρ = w.heap.size + 1 := ⟨_, rfl⟩
  have HB0 : Hid (Below w.heap.size w W0) := by
    subst hW0
    exact (below_alloc w _).trans ((below_alloc _ _).mono (by simp))
  obtain ⟨c0, c1, c2, c3, c4⟩ : At W0 β 0 ⟨v.k, v.n, v.s, ka, v.ks.length, kc, la, v.l.length, lc⟩ := by
    subst hW0 hβ
    exact ⟨by simp, by simp, by simp, by simp, by simp⟩
  have hzr : W0.heap[ρ]? = some zrow := by
    subst hW0 hρ
    exact hp_new (by simp)
  have HRR := Lib.hid hρ
  have HZR := Lib.hid hzr
  obtain ⟨e0, e1, e2, e3, e4, e5⟩ := zrow_cells hzr
  have f0 := e5 0
  have f1 := e5 1
  have f2 := e5 2
  have f3 := e5 3
  have f4 := e5 4
  clear hzr e5
  have HKS : Hid (∀ j, (hj : j < v.ks.length) → ∃ g o, ka = some ⟨g, o, none⟩ ∧ W0.cell? ⟨g, o + j, none⟩ = some (.string v.ks[j])) := fun j hj => by
    obtain ⟨g, o, e1, e2, e3⟩ := h3.at_ hj
    exact ⟨g, o, e1, (HB0.out.cell (p := ⟨g, o + j, none⟩) e2).trans e3⟩
  have HCC := Lib.hid fun u (hu : u ∈ v.l) y w' (h : Is w' u y) => refCopy_any u y w' h (Nat.le_trans (bulk_le_of_mem hu) (Nat.le_trans (show V.bulks v.l ≤ v.bulk by cases v; simp only [V.bulk, V.l]; omega) hbk))
  clear h3 h4 hbk
  generalize hkse : v.ks = ks at *
  generalize hle : v.l = l at *
  generalize v.k = vk at *
  generalize v.n = vn at *
  generalize v.s = vs at *
  generalize got v key = gv at *
  clear hkse hle
  go_enter Tryd.func14, Tryd.ntmps14
  go_upto_region 1 with (fail)
  rw [← hρ, ← hβ, ← hW0]
  clear hW0 hβ hρ
  go_wp2_with fail
  go_loop [11] (fun i => ∃ j : Nat, j ≤ ks.length ∧ i = .int .i64 j ∧ Hid (∀ i, i < j → ks.getD i ByteArray.empty ≠ key)) (fun i => ks.length - (intOf i).toNat)
  case atStart => exact ⟨0, Nat.zero_le _, rfl, fun i hi => by omega⟩
  case round =>
    obtain ⟨j, hj, rfl, HN⟩ := hrel
    by_cases hlt : j < ks.length
    · obtain ⟨g, o, rfl, hc⟩ := HKS.out j hlt
      have hgd : ks.getD j ByteArray.empty = ks[j] := by
        rw [List.getD_eq_getElem?_getD, List.getElem?_eq_getElem hlt]
        rfl
      by_cases he : ks[j] = key
      · have hfk : findK key ks = some j := findK_hit hlt (by rw [hgd, he]) HN.out
        rw [he] at hc
        have HGJ : Hid (gv = l[j]?) := by
          show gv = _
          rw [HG.out, hfk]
          rfl
        clear hgd he hfk HKS HG HN
        by_cases hjl : j < l.length
        · obtain ⟨g2, o2, rfl, hg2, y, hy, hiy⟩ := HR.out.at_ hjl
          have hIy := Is.below HB0.out _ _ (IsB.up hiy (Below.refl _ _) (Nat.le_refl _))
          have HC := Lib.hid (HCC.out l[j] (List.getElem_mem hjl) y W0 hIy)
          have HGJ2 : Hid (gv = some l[j]) := by
            show gv = _
            rw [HGJ.out]
            exact List.getElem?_eq_getElem hjl
          obtain ⟨y0, y1, y2, y3, y4⟩ := hy.below hg2 HB0.out
          have hρ1 := (Array.getElem?_eq_some_iff.1 HZR.out).1
          obtain ⟨yk, yn, yS, yka, ykn, ykc, yla, yln, ylc⟩ := y
          simp only [X.v] at *
          clear hy hiy hIy HR HCC HGJ e0 e1 e2 e3 e4 f0 f1 f2 f3 f4
          generalize l[j] = u at *
          go_wp2_with fail
          refine HC.out.mono ?_
          rintro e w2 ⟨z, rfl, hcp, hb2⟩
          have HB2 := Lib.hid (HB0.out.trans (hb2.mono HB0.out.size))
          have hz2 : w2.heap[ρ]? = some zrow := (hb2.block ρ hρ1).trans HZR.out
          obtain ⟨e0, e1, e2, e3, e4, e5⟩ := zrow_cells hz2
          have f0 := e5 0
          have f1 := e5 1
          have f2 := e5 2
          have f3 := e5 3
          have f4 := e5 4
          have HCP := Lib.hid hcp
          obtain ⟨zk, zn, zS, zka, zkn, zkc, zla, zln, zlc⟩ := z
          simp only
          clear hcp hb2 hz2 e5 y0 y1 y2 y3 y4 hc HC
          go_wp2_with fail
          (try simp only [Exit.inBlock, Exit.then])
          refine bodyPost_ret (v := .tuple #[.agg #[.int .i64 zk, .int .i64 zn, .string zS, .slice zka zkn zkc, .slice zla zln zlc], .bool true]) ?_ rfl ⟨⟨zk, zn, zS, zka, zkn, zkc, zla, zln, zlc⟩, by rw [HGJ2.out]; rfl, ?_, ?_⟩
          · rw [results_cell_tmp rfl]
            go_simp
          · rw [HGJ2.out]
            rw [← put5_lit]
            have hfr := put5_fr w2 ρ 0 ⟨zk, zn, zS, zka, zkn, zkc, zla, zln, zlc⟩
            exact IsP.is (P := fun q => q < (put5 w2 ρ 0 ⟨zk, zn, zS, zka, zkn, zkc, zla, zln, zlc⟩).heap.size) (fun _ h => h) _ _ (IsP.fr (hfr.mono fun q hq => by show q ≠ ρ; omega) (fun q hq => Nat.lt_of_lt_of_le hq.2 hfr.size) _ _ HCP.out)
          · have hρ2 := HRR.out
            rw [← put5_lit]
            exact HB2.out.trans ((put5_fr w2 ρ 0 _).mono fun q (hq : q < w.heap.size) => by show q ≠ ρ; omega).below
        · have HGJ2 : Hid (gv = none) := by
            show gv = _
            rw [HGJ.out]
            exact List.getElem?_eq_none (by omega)
          clear HGJ HR HCC
          go_wp2_with fail
          (try simp only [Exit.inBlock, Exit.then])
          refine bodyPost_ret (v := .tuple #[.agg #[.int .i64 0, .int .i64 0, .string ⟨#[]⟩, .slice none 0 0, .slice none 0 0], .bool false]) ?_ rfl ⟨⟨0, 0, ⟨#[]⟩, none, 0, 0, none, 0, 0⟩, by rw [HGJ2.out]; rfl, by rw [HGJ2.out]; exact zero_is _, ?_⟩
          · rw [results_cell_tmp rfl]
            go_simp
          · have hρ2 := HRR.out
            rw [← put5_lit]
            exact HB0.out.trans ((put5_fr W0 ρ 0 _).mono fun q (hq : q < w.heap.size) => by show q ≠ ρ; omega).below
      · have he2 := key_ne he
        have HNN : Hid (∀ i, i < j + 1 → ks.getD i ByteArray.empty ≠ key) := fun i hi => by
          rcases Nat.lt_succ_iff_lt_or_eq.1 hi with hi | rfl
          · exact HN.out i hi
          · rw [hgd]; exact he
        clear hgd he HN
        generalize ks[j] = kj at *
        go_wp2_with fail
        go_round
        case rel => exact ⟨j + 1, by omega, by go_num, HNN⟩
        case measure => simp [intOf]; omega
    · obtain rfl : j = ks.length := by omega
      have HGJ2 : Hid (gv = none) := by
        show gv = _
        rw [HG.out, findK_miss HN.out]
        rfl
      clear HR HCC HG HKS HN
      go_wp2_with fail
      (try simp only [Exit.inBlock, Exit.then])
      refine bodyPost_ret (v := .tuple #[.agg #[.int .i64 0, .int .i64 0, .string ⟨#[]⟩, .slice none 0 0, .slice none 0 0], .bool false]) ?_ rfl ⟨⟨0, 0, ⟨#[]⟩, none, 0, 0, none, 0, 0⟩, by rw [HGJ2.out]; rfl, by rw [HGJ2.out]; exact zero_is _, ?_⟩
      · rw [results_cell_tmp rfl]
        go_simp
      · have hρ2 := HRR.out
        rw [← put5_lit]
        exact HB0.out.trans ((put5_fr W0 ρ 0 _).mono fun q (hq : q < w.heap.size) => by show q ≠ ρ; omega).below
end Go.Proofs.YtnjcofjphneccaaDoor
