/-
  THE LAW DataWithin.
-/
import Derived.Test.YtnjcofjphneccaaDoorLive
import Derived.Test.YtnjcofjphneccaaDoorRSm
import Derived.Test.YtnjcofjphneccaaDoorRcp
import Derived.Deep.RegionHeld3
namespace Go.Proofs.YtnjcofjphneccaaDoor
open Go.RowKit

theorem deeps_mem {u : V} : ∀ {l : List V}, u ∈ l → u.deep ≤ V.deeps l
  | x :: r, h => by
    simp only [V.deeps]
    cases h with
    | head => omega
    | tail _ h => have := deeps_mem h; omega
theorem kid_chk {v : V} (h : v.chk = 0) {u : V} (hu : u ∈ v.l) : u.chk = 0 := by
  have hm := chk_may h
  unfold V.chk at h ⊢
  rw [if_pos hm] at h
  rw [if_pos (may_kid hm hu)]
  have : u.deep ≤ V.deeps v.l := deeps_mem hu
  have hd : v.deep = V.deeps v.l + 1 := by cases v; rfl
  split at h
  · cases h
  · rw [if_neg (by omega)]
theorem within_got {v : V} (h : v.chk = 0) (h6 : v.k = 6) {j : Nat} (hj : j < v.l.length) : ∃ hk : j < v.ks.length, got v v.ks[j] = some v.l[j] := by
  obtain ⟨hl, _, hn⟩ := own_keys (own_of_may (chk_may h)) h6
  have hk : j < v.ks.length := by omega
  refine ⟨hk, ?_⟩
  have hg : ∀ i, (hi : i < v.ks.length) → v.ks.getD i ByteArray.empty = v.ks[i] := fun i hi => by
    rw [List.getD_eq_getElem?_getD, List.getElem?_eq_getElem hi]
    rfl
  unfold got
  rw [findK_hit (j := j) hk (hg j hk) fun i hi e => ?_]
  · exact List.getElem?_eq_getElem hj
  · rw [hg i (by omega)] at e
    have := (List.getElem_inj hn).1 e
    omega
theorem size_eq (v : V) : v.size = 1 + V.sizes v.l := by cases v; rfl

theorem keep6 (w : World) (g b b2 o2 : Nat) (k n : Int) (s : ByteArray) (ka : Option Addr) (kn kc : Nat) (la : Option Addr) (ln lc : Nat) {v0 v1 v2 v3 v4 v5 : Option Value} (h : b ≠ g) (h' : b2 ≠ g) (h0 : w.cell? ⟨b, 0, none⟩ = v0) (h1 : w.cell? ⟨b, 0 + 1, none⟩ = v1) (h2 : w.cell? ⟨b, 0 + 2, none⟩ = v2) (h3 : w.cell? ⟨b, 0 + 3, none⟩ = v3) (h4 : w.cell? ⟨b, 0 + 4, none⟩ = v4) (h5 : w.cell? ⟨b2, o2, none⟩ = v5) :
    (((((w.setCell ⟨g, 0, none⟩ (.int .i64 k)).setCell ⟨g, 1, none⟩ (.int .i64 n)).setCell ⟨g, 2, none⟩ (.string s)).setCell ⟨g, 3, none⟩ (.slice ka kn kc)).setCell ⟨g, 4, none⟩ (.slice la ln lc)).cell? ⟨b, 0, none⟩ = v0 ∧
    (((((w.setCell ⟨g, 0, none⟩ (.int .i64 k)).setCell ⟨g, 1, none⟩ (.int .i64 n)).setCell ⟨g, 2, none⟩ (.string s)).setCell ⟨g, 3, none⟩ (.slice ka kn kc)).setCell ⟨g, 4, none⟩ (.slice la ln lc)).cell? ⟨b, 0 + 1, none⟩ = v1 ∧
    (((((w.setCell ⟨g, 0, none⟩ (.int .i64 k)).setCell ⟨g, 1, none⟩ (.int .i64 n)).setCell ⟨g, 2, none⟩ (.string s)).setCell ⟨g, 3, none⟩ (.slice ka kn kc)).setCell ⟨g, 4, none⟩ (.slice la ln lc)).cell? ⟨b, 0 + 2, none⟩ = v2 ∧
    (((((w.setCell ⟨g, 0, none⟩ (.int .i64 k)).setCell ⟨g, 1, none⟩ (.int .i64 n)).setCell ⟨g, 2, none⟩ (.string s)).setCell ⟨g, 3, none⟩ (.slice ka kn kc)).setCell ⟨g, 4, none⟩ (.slice la ln lc)).cell? ⟨b, 0 + 3, none⟩ = v3 ∧
    (((((w.setCell ⟨g, 0, none⟩ (.int .i64 k)).setCell ⟨g, 1, none⟩ (.int .i64 n)).setCell ⟨g, 2, none⟩ (.string s)).setCell ⟨g, 3, none⟩ (.slice ka kn kc)).setCell ⟨g, 4, none⟩ (.slice la ln lc)).cell? ⟨b, 0 + 4, none⟩ = v4 ∧
    (((((w.setCell ⟨g, 0, none⟩ (.int .i64 k)).setCell ⟨g, 1, none⟩ (.int .i64 n)).setCell ⟨g, 2, none⟩ (.string s)).setCell ⟨g, 3, none⟩ (.slice ka kn kc)).setCell ⟨g, 4, none⟩ (.slice la ln lc)).cell? ⟨b2, o2, none⟩ = v5 := by
  rw [← put5_lit, far_put5 h, far_put5 h, far_put5 h, far_put5 h, far_put5 h, far_put5 h']
  exact ⟨h0, h1, h2, h3, h4, h5⟩

set_option maxRecDepth 20000 in
set_option maxHeartbeats 2000000 in
theorem within_law (v : V) (x : X) (w : World) (h : Is w v x) (hbk : v.bulk ≤ 4194304) (hT : Tab w) :
    Calls Tryd.prog 8 #[x.v] w fun e w' => e = .returned (.bool true) ∧ Below w.heap.size w w' := by
  have HL := Lib.hid live_any
  have HT := Lib.hid hT
  have HC := Lib.hid fun w' (hb : Below w.heap.size w w') => chk_any v x w' (Is.below hb _ _ h) hbk
  have HZ := Lib.hid fun w' (hb : Below w.heap.size w w') => size_any v x w' (Is.below hb _ _ h) hbk
  have HGet := Lib.hid fun key w' (hb : Below w.heap.size w w') => get_any2 v x key w' (Is.below hb _ _ h) hbk
  obtain ⟨ka, kc, la, lc, rfl, h1, h2, h3, h4⟩ := h.open
  have hkl : v.ks.length ≤ 4194304 := by
    have h1 := length_le_keysBulk v.ks
    obtain ⟨_, _, _, _, _⟩ := v
    simp only [V.bulk, V.ks] at *
    omega
  have hbl : V.bulks v.l ≤ 4194304 := by
    obtain ⟨_, _, _, _, _⟩ := v
    simp only [V.bulk, V.l] at *
    omega
  have hll : v.l.length ≤ 4194304 := Nat.le_trans (length_le_bulks v.l) hbl
  have hsz := size_le_bulk v
  have hse := size_eq v
  obtain ⟨W0, hW0⟩ : ∃ W0, W0 = w.alloc (.cells #[.int .i64 v.k, .int .i64 v.n, .string v.s, .slice ka v.ks.length kc, .slice la v.l.length lc] 25) := ⟨_, rfl⟩
  obtain ⟨β, hβ⟩ : ∃ β, β = w.heap.size := ⟨_, rfl⟩
  have HB0 : Hid (Below w.heap.size w W0) := by subst hW0; exact below_alloc w _
  have hβ1 : β < W0.heap.size := by subst hW0 hβ; simp
  have HX0 : Hid (At W0 β 0 ⟨v.k, v.n, v.s, ka, v.ks.length, kc, la, v.l.length, lc⟩) := by
    subst hW0 hβ
    exact ⟨by simp, by simp, by simp, by simp, by simp⟩
  have HS0 : Hid (∀ w', Below W0.heap.size W0 w' → At w' β 0 ⟨v.k, v.n, v.s, ka, v.ks.length, kc, la, v.l.length, lc⟩) := fun w' hb => HX0.out.below hβ1 hb
  have HTR := Lib.hid fun w' (hb : Below W0.heap.size W0 w') => HB0.out.trans (hb.mono HB0.out.size)
  simp only [X.v] at *
  clear h hT
  go_enter Tryd.func8, Tryd.ntmps8
  go_upto_region 1 with (fail)
  rw [← hβ, ← hW0]
  clear hW0 hβ
  go_wp2_with fail
  refine (HL.out _ (HT.out.below HB0.out)).mono ?_
  rintro e w1 ⟨rfl, hb1⟩
  have HB1 := Lib.hid hb1
  obtain ⟨c0, c1, c2, c3, c4⟩ := HS0.out _ hb1
  clear hb1
  go_wp2_with fail
  refine (HC.out _ (HTR.out _ HB1.out)).mono ?_
  rintro e w2 ⟨rfl, hb2⟩
  have HB2 : Hid (Below W0.heap.size W0 w2) := HB1.out.trans (hb2.mono HB1.out.size)
  clear c0 c1 c2 c3 c4 hb2
  by_cases hc : v.chk = 0
  case neg =>
    have e1 : (v.chk == 0) = false := by rw [beq_eq_false_iff_ne]; exact hc
    have e2 : (v.chk != 0) = true := by rw [bne_iff_ne]; exact hc
    clear hc
    go_wp2_with fail
    go_ret
    exact ⟨rfl, HTR.out _ HB2.out⟩
  have HCH := Lib.hid hc
  rw [hc]
  obtain ⟨c0, c1, c2, c3, c4⟩ := HS0.out _ HB2.out
  clear hc
  go_wp2_with fail
  clear c0 c1 c2 c3 c4
  have hst : V.sizes v.l ≤ 4194304 := by omega
  have HSE := Lib.hid hse
  clear hse
  go_loopw [4, 17] (fun t i wr => ∃ j : Nat, j ≤ v.l.length ∧ i = .int .i64 j ∧ t = .int .i64 ((1 + V.sizes (v.l.take j) : Nat) : Int) ∧ Hid (Below W0.heap.size W0 wr))
    (fun _ i _ => v.l.length - (intOf i).toNat)
  case atStart => exact ⟨0, Nat.zero_le _, rfl, rfl, HB2⟩
  case round =>
    obtain ⟨j, hj, rfl, rfl, hbr⟩ := hrel
    obtain ⟨c0, c1, c2, c3, c4⟩ := HS0.out _ hbr.out
    by_cases hlt : j < v.l.length
    · obtain ⟨g, o, rfl, hg, y, hy, hv⟩ := h4.at_ hlt
      have hmem : v.l[j] ∈ v.l := List.getElem_mem hlt
      have HCk := Lib.hid fun w' (hb : Below w.heap.size w w') => chk_any v.l[j] y w' (Is.below hb _ _ hv) (Nat.le_trans (bulk_le_of_mem hmem) hbl)
      have HSk := Lib.hid fun w' (hb : Below w.heap.size w w') => size_any v.l[j] y w' (Is.below hb _ _ hv) (Nat.le_trans (bulk_le_of_mem hmem) hbl)
      have HRk := Lib.hid fun z w' (hb : Below w.heap.size w w') (hz : Is w' v.l[j] z) => refSame_any v.l[j] v.l[j] y z w' (Is.below hb _ _ hv) hz (Nat.le_trans (bulk_le_of_mem hmem) hbl)
      rw [kid_chk HCH.out hmem] at HCk
      rw [same_yes rfl] at HRk
      have HSN := Lib.hid (sizes_snoc v.l j hlt)
      have hs1 := sizes_take_le v.l (j + 1)
      have hs2 : V.sizes (v.l.take (j + 1)) = V.sizes (v.l.take j) + v.l[j].size := HSN.out
      have hs3 : V.sizes (v.l.take j) + v.l[j].size ≤ 4194304 := by omega
      have HGJ : Hid (v.k = 6 → ∃ hk : j < v.ks.length, got v v.ks[j] = some v.l[j]) := fun h6 => within_got HCH.out h6 hlt
      obtain ⟨y0, y1, y2, y3, y4⟩ := hy.below hg (HTR.out _ hbr.out)
      obtain ⟨yk, yn, yS, yka, ykn, ykc, yla, yln, ylc⟩ := y
      simp only [X.v] at *
      obtain ⟨W3, hW3⟩ : ∃ W3, W3 = wr.alloc (.cells #[.int .i64 yk, .int .i64 yn, .string yS, .slice yka ykn ykc, .slice yla yln ylc] 25) := ⟨_, rfl⟩
      obtain ⟨δ, hδ⟩ : ∃ δ, δ = wr.heap.size := ⟨_, rfl⟩
      have HB3 : Hid (Below W0.heap.size W0 W3) := by
        subst hW3
        exact hbr.out.trans ((below_alloc wr _).mono hbr.out.size)
      have hA3 : At W3 δ 0 ⟨yk, yn, yS, yka, ykn, ykc, yla, yln, ylc⟩ := by subst hW3 hδ; exact at_of_block (hp_new rfl)
      have hδ1 : δ < W3.heap.size := by subst hW3 hδ; simp
      have HS3 : Hid (∀ w', Below W3.heap.size W3 w' → At w' β 0 ⟨v.k, v.n, v.s, ka, v.ks.length, kc, some ⟨g, o, none⟩, v.l.length, lc⟩ ∧ At w' δ 0 ⟨yk, yn, yS, yka, ykn, ykc, yla, yln, ylc⟩) := fun w' hb =>
        ⟨HS0.out w' (HB3.out.trans (hb.mono HB3.out.size)), hA3.below hδ1 hb⟩
      have HT3 := Lib.hid fun w' (hb : Below W3.heap.size W3 w') => HTR.out w' (HB3.out.trans (hb.mono HB3.out.size))
      have HU3 := Lib.hid fun w' (hb : Below W3.heap.size W3 w') => HB3.out.trans (hb.mono HB3.out.size)
      clear hA3 hδ1 hy hv hmem hs1 hs2 HTR
      generalize hue : v.l[j] = u at *
      clear hue
      go_upto_region 8 with (fail)
      rw [← hW3, ← hδ]
      clear hW3 hδ c0 c1 c2 c3 c4 y0 y1 y2 y3 y4
      obtain ⟨⟨c0, c1, c2, c3, c4⟩, ⟨d0, d1, d2, d3, d4⟩⟩ := HS3.out _ (Below.refl _ _)
      go_wp2_with fail
      refine (HCk.out _ (HT3.out _ (Below.refl _ _))).mono ?_
      rintro e w4 ⟨rfl, hb4⟩
      have HB4 := Lib.hid hb4
      clear c0 c1 c2 c3 c4 d0 d1 d2 d3 d4
      obtain ⟨⟨c0, c1, c2, c3, c4⟩, ⟨d0, d1, d2, d3, d4⟩⟩ := HS3.out _ hb4
      clear hb4
      go_wp2_with fail
      refine (HSk.out _ (HT3.out _ HB4.out)).mono ?_
      rintro e w5 ⟨rfl, hb5⟩
      have HB5 : Hid (Below W3.heap.size W3 w5) := HB4.out.trans (hb5.mono HB4.out.size)
      clear c0 c1 c2 c3 c4 d0 d1 d2 d3 d4 hb5
      obtain ⟨⟨c0, c1, c2, c3, c4⟩, ⟨d0, d1, d2, d3, d4⟩⟩ := HS3.out _ HB5.out
      by_cases h6 : v.k = 6
      · obtain ⟨hk, hgo⟩ := HGJ.out h6
        have e6 : (v.k == 6) = true := by rw [h6]; rfl
        have HGk := Lib.hid (HGet.out v.ks[j])
        rw [hgo] at HGk
        obtain ⟨g2, o2, rfl, hg2, hkc⟩ := h3.at_ hk
        have kcell := ((HT3.out _ HB5.out).cell (p := ⟨g2, o2 + j, none⟩) hg2).trans hkc
        generalize hke : v.ks[j] = key at *
        have hj0 : (0 : Int) ≤ (j : Int) := by omega
        have hj1 : (j : Int) < (v.ks.length : Int) := by omega
        have hne1 : β ≠ w5.heap.size := by
          have h1 := HB3.out.size
          have h2 := HB5.out.size
          omega
        have hg5 : g2 < w5.heap.size := by
          have h1 := (HT3.out _ HB5.out).size
          have h2 : g2 < w.heap.size := hg2
          omega
        have hne2 : g2 ≠ w5.heap.size := by omega
        have hwn1 := World.new_ne w5 ⟨β, 0, none⟩ (by rw [c0])
        have hwn2 := World.new_ne w5 ⟨g2, o2 + j, none⟩ (by rw [kcell])
        clear hke hgo hkc hg2 HGet HCk HSk h6
        go_wp2_with fail
        go_cut [7, 8] (fun s7 s8 wx => ∃ ζ z, s7 = .pointer (some ⟨ζ, 0, none⟩) ∧ s8 = .bool true ∧ Hid (At wx ζ 0 z ∧ Is wx u z ∧ Below w5.heap.size w5 wx))
        case first =>
          go_region_held3 (fun w' => w'.cell? ⟨β, 0, none⟩ = some (.int .i64 v.k) ∧ w'.cell? ⟨β, 0 + 1, none⟩ = some (.int .i64 v.n) ∧ w'.cell? ⟨β, 0 + 2, none⟩ = some (.string v.s) ∧ w'.cell? ⟨β, 0 + 3, none⟩ = some (.slice (some ⟨g2, o2, none⟩) v.ks.length kc) ∧ w'.cell? ⟨β, 0 + 4, none⟩ = some (.slice (some ⟨g, o, none⟩) v.l.length lc) ∧ w'.cell? ⟨g2, o2 + j, none⟩ = some (.string key))
            (first | (with_reducible exact keep6 w6 _ _ _ _ zk zn zS zka zkn zkc zla zln zlc hne1 hne2 i0 i1 i2 i3 i4 ik) | go_keep)
            ((first
              | (go_at_call 13; refine (HGk.out _ (by first | exact HT3.out _ (HB5.out.trans ((Below.refl _ _).drew.mono HB5.out.size)) | exact HT3.out _ (HB5.out.trans (((Below.refl _ _).drew.alloc (Nat.le_refl _) _).mono HB5.out.size)))).mono ?_; rintro e w6 ⟨z, rfl, hz, hb6⟩; have hB6 : Below w5.heap.size w5 w6 := (by first | exact (Below.refl _ _).drew.trans hb6 | exact ((Below.refl _ _).drew.alloc (Nat.le_refl _) _).trans (hb6.mono (by simp))); obtain ⟨⟨i0, i1, i2, i3, i4⟩, _⟩ := HS3.out _ (HB5.out.trans (hB6.mono HB5.out.size)); have ik := (hB6.cell (p := ⟨g2, o2 + j, none⟩) hg5).trans kcell; (first | (have hz2 : w6.heap[w5.heap.size]? = some zrow := (hb6.block _ (by simp)).trans (hp_new (by simp)); obtain ⟨e0, e1, e2, e3, e4, e5⟩ := zrow_cells hz2; have f0 := e5 0; have f1 := e5 1; have f2 := e5 2; have f3 := e5 3; have f4 := e5 4; have hz2' := Lib.hid hz2; clear hz2 e5) | skip); have HIZ := Lib.hid hz; have HB66 := Lib.hid hb6; clear hz hb6; obtain ⟨zk, zn, zS, zka, zkn, zkc, zla, zln, zlc⟩ := z; simp only [Option.isSome_some])))
          · go_wp2_with fail
            go_meet
            refine ⟨_, ⟨zk, zn, zS, zka, zkn, zkc, zla, zln, zlc⟩, rfl, rfl, Lib.hid ⟨at_of_block (hp_new rfl), Is.below (below_alloc w6 _) _ _ (HIZ.out w6 (Fr.refl _ _)), hB6.trans ((below_alloc _ _).mono hB6.size)⟩⟩
          · rw [← put5_lit]
            go_wp2_with fail
            go_meet
            have hfr := put5_fr w6 w5.heap.size 0 ⟨zk, zn, zS, zka, zkn, zkc, zla, zln, zlc⟩
            refine ⟨_, ⟨zk, zn, zS, zka, zkn, zkc, zla, zln, zlc⟩, rfl, rfl, Lib.hid ⟨at_of_block (put5_row hz2'.out _), HIZ.out _ (hfr.mono fun q hq => by simp at hq; show q ≠ w5.heap.size; omega), hB6.trans ?_⟩⟩
            exact (hfr.mono fun q (hq : q < w5.heap.size) => by show q ≠ w5.heap.size; omega).below
        case rest =>
          obtain ⟨ζ, z, rfl, rfl, HZZ⟩ := hcut
          clear c0 c1 c2 c3 c4 d0 d1 d2 d3 d4 kcell hwn1 hwn2 hne1 hne2 hg5
          have HB7 : Hid (Below W3.heap.size W3 wc) := HB5.out.trans (HZZ.out.2.2.mono HB5.out.size)
          obtain ⟨_, ⟨d0, d1, d2, d3, d4⟩⟩ := HS3.out _ HB7.out
          obtain ⟨p0, p1, p2, p3, p4⟩ := HZZ.out.1
          have HRR := Lib.hid (HRk.out z wc (HT3.out _ HB7.out) HZZ.out.2.1)
          obtain ⟨zk, zn, zS, zka, zkn, zkc, zla, zln, zlc⟩ := z
          simp only at *
          go_wp2_with fail
          refine HRR.out.mono ?_
          rintro e w8 ⟨rfl, hb8⟩
          have HB8 : Hid (Below W3.heap.size W3 w8) := HB7.out.trans (hb8.mono HB7.out.size)
          clear d0 d1 d2 d3 d4 p0 p1 p2 p3 p4 hb8
          go_wp2_with fail
          go_roundw
          case rel => exact ⟨j + 1, by omega, by go_num, by rw [HSN.out]; go_num, HU3.out _ HB8.out⟩
          case measure => simp [intOf]; omega
      · have e6 : (v.k == 6) = false := by rw [beq_eq_false_iff_ne]; exact h6
        clear h6
        go_wp2_with fail
        go_roundw
        case rel => exact ⟨j + 1, by omega, by go_num, by rw [HSN.out]; go_num, HU3.out _ HB5.out⟩
        case measure => simp [intOf]; omega
    · obtain rfl : j = v.l.length := by omega
      rw [List.take_length]
      have HZ2 := Lib.hid (HZ.out _ (HTR.out _ hbr.out))
      rw [HSE.out] at HZ2
      go_wp2_with fail
      refine HZ2.out.mono ?_
      rintro e w7 ⟨rfl, hb7⟩
      go_wp2_with fail
      go_ret
      exact ⟨by simp, (HTR.out _ hbr.out).trans (hb7.mono (HTR.out _ hbr.out).size)⟩
end Go.Proofs.YtnjcofjphneccaaDoor
