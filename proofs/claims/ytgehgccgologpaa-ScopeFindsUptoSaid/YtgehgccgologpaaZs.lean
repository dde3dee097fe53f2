/-
  Check.
-/
import Derived.Test.YtgehgccgologpaaZr
import Derived.Test.YtgehgccgologpaaZk
import Derived.Test.YtgehgccgologpaaZp
namespace Go.Proofs.Ytgehgccgologpaa.Z
open Go.RowKit Go.Shelf Go.Proofs.Ytgehgccgologpaa Go.Proofs.Ytgehgccgologpaa.R Go.Proofs.Ytgehgccgologpaa.T
attribute [local go_sem] Oper.semAt_some

theorem ic_start (w w1 : World) (v : V) (x : X) (hx : IsB w1 w.heap.size v x) (hb : Below w.heap.size w w1) (hz : w.heap.size + 2 ≤ w1.heap.size) (hr : w1.cell? ⟨w.heap.size + 1, 0, none⟩ = some (.int .i64 0)) (hf : w1.frozen? ⟨w.heap.size + 1, 0, none⟩ = false) :
    ∃ W3, ((w1.alloc (.cells x.cells 25)).alloc (.cells #[.slice (some ⟨w1.heap.size, 0, none⟩) 1 1] 23)).alloc (.cells #[.int .i64 0] 3) = W3 ∧ W3.heap.size = w1.heap.size + 3 ∧
      Ic w (w1.heap.size + 1) (w1.heap.size + 2) 0 [v] (w1.heap.size + 3) [] W3 := by
  obtain ⟨W3, hW3⟩ : ∃ W3, ((w1.alloc (.cells x.cells 25)).alloc (.cells #[.slice (some ⟨w1.heap.size, 0, none⟩) 1 1] 23)).alloc (.cells #[.int .i64 0] 3) = W3 := ⟨_, rfl⟩
  have h0 : W3.heap[w1.heap.size]? = some (.cells x.cells 25) := by
    rw [← hW3]
    show (((w1.heap.push _).push _).push _)[w1.heap.size]? = _
    rw [Array.getElem?_push, if_neg (by simp; omega), Array.getElem?_push, if_neg (by simp), Array.getElem?_push, if_pos rfl]
  have h1 : W3.heap[w1.heap.size + 1]? = some (.cells #[.slice (some ⟨w1.heap.size, 0, none⟩) 1 1] 23) := by
    rw [← hW3]
    show (((w1.heap.push _).push _).push _)[w1.heap.size + 1]? = _
    rw [Array.getElem?_push, if_neg (by simp), Array.getElem?_push, if_pos (by simp)]
  have h2 : W3.heap[w1.heap.size + 2]? = some (.cells #[.int .i64 0] 3) := by
    rw [← hW3]
    show (((w1.heap.push _).push _).push _)[w1.heap.size + 2]? = _
    rw [Array.getElem?_push, if_pos (by simp)]
  have hb3 : Below w1.heap.size w1 W3 := by rw [← hW3]; exact ((below_alloc w1 _).alloc (by simp) _).alloc (by simp; omega) _
  have hbn : Below w.heap.size w1 W3 := hb3.mono (by omega)
  refine ⟨W3, hW3, by rw [← hW3]; simp, ⟨⟨_, by simp [World.cell?, h1], ⟨[x], ⟨rfl, fun i hi => ?_⟩, ⟨rfl, .inr ⟨w1.heap.size, 1, x.cells, rfl, by omega, h0, Nat.le_refl _, by unfold maxLen; omega, rfl, rfl⟩⟩⟩, ?_, ?_, ?_⟩, by simp [World.frozen?, h1],
    (hb3.cell (p := ⟨w.heap.size + 1, 0, none⟩) (by show w.heap.size + 1 < w1.heap.size; omega)).trans hr, (hb3.frozen (p := ⟨w.heap.size + 1, 0, none⟩) (by show w.heap.size + 1 < w1.heap.size; omega)).trans hf, by simp [World.cell?, h2], by simp [World.frozen?, h2], hb.trans hbn, trivial, by omega, by omega⟩⟩
  · have hi0 : i = 0 := by simpa using hi
    subst hi0
    exact ⟨x, rfl, hx.to hbn (Nat.le_refl _)⟩
  · intro e; have := Option.some.inj e; simp at this
  · intro e; have := Option.some.inj e; simp at this; omega
  · intro e; have := Option.some.inj e; simp at this
set_option maxRecDepth 40000 in
set_option maxHeartbeats 40000000 in
theorem scheck_any (v : V) (x : X) (w : World) (hx : Is w v x) (hb : v.bulk ≤ 4194304) :
    Calls Try.prog 10 #[x.v] w fun e w' => e = .returned (.int .i64 (chs v)) ∧ Below w.heap.size w w' := by
  have HX := Lib.hid hx
  have HBK := Lib.hid hb
  have HC := Lib.hid fun w' (h : Below w.heap.size w w') => R.check_any v x w' (Is.below h _ _ hx) hb
  obtain ⟨ch, hch0⟩ : ∃ ch, v.chk = ch := ⟨_, rfl⟩
  obtain ⟨cs, hcs0⟩ : ∃ cs, chs v = cs := ⟨_, rfl⟩
  have hcs1 : cs = if ch = 0 then (if early v then 90 else 0) else ch := by rw [← hcs0, ← hch0]; rfl
  rw [hcs0]
  rw [hch0] at HC
  have HCH := Lib.hid hch0
  have HCS := Lib.hid hcs1
  have HS : Hid (∃ W0, (w.alloc (.cells x.cells 25)).alloc (.cells #[.int .i64 0] 27) = W0 ∧ Below w.heap.size w W0 ∧ W0.heap.size = w.heap.size + 2 ∧ At W0 w.heap.size 0 x ∧ W0.cell? ⟨w.heap.size + 1, 0, none⟩ = some (.int .i64 0) ∧ W0.frozen? ⟨w.heap.size + 1, 0, none⟩ = false) := by
    have h1 := at_new w x
    have hb1 := below_alloc w (.cells x.cells 25)
    have hz1 : (w.alloc (.cells x.cells 25)).heap.size = w.heap.size + 1 := by simp
    generalize w.alloc (.cells x.cells 25) = w1 at *
    have hb2 := below_alloc w1 (.cells #[.int .i64 0] 27)
    refine ⟨_, rfl, hb1.trans (hb2.mono (by omega)), by simp [hz1], h1.below (by omega) hb2, ?_, ?_⟩
    · rw [← hz1]; simp
    · rw [← hz1]; simp
  obtain ⟨xk, xnm, xn, xs, xka, xkn, xkc, xla, xln, xlc⟩ := x
  simp only [X.v, X.cells] at HC HS ⊢
  clear hx hb hch0 hcs0 hcs1
  refine (callsIn_wide (n := 9)).1 ?_
  refine callsIn_of_wp_marks Try.func10 rfl trivial ?_ rfl
  simp only [Try.ntmps10, List.size_toArray, List.length_cons, List.length_nil, Nat.reduceAdd, Nat.reduceSub, Array.replicate_succ, Array.replicate_zero, List.push_toArray, List.append_toArray, List.nil_append, List.cons_append]
  gi_wp2_with fail
  obtain ⟨W0, hW0, hb0, hz0, hat0, hr0, hf0⟩ := HS.out
  rw [hW0]
  refine ⟨trivial, (callsIn_wide.2 (HC.out _ hb0)).mono ?_⟩
  rintro e w1 ⟨rfl, hb1⟩
  have hb01 := hb0.trans (hb1.mono (by omega))
  have hat1 := hat0.below (by omega) hb1
  have hr1 := (hb1.cell (p := ⟨w.heap.size + 1, 0, none⟩) (by show w.heap.size + 1 < W0.heap.size; omega)).trans hr0
  have hf1 := (hb1.frozen (p := ⟨w.heap.size + 1, 0, none⟩) (by show w.heap.size + 1 < W0.heap.size; omega)).trans hf0
  have hz1 : w.heap.size + 2 ≤ w1.heap.size := by have := hb1.size; omega
  obtain ⟨c0, c1, c2, c3, c4, c5⟩ := hat1.six
  by_cases hc : ch = 0
  · have HIS := Lib.hid (ic_start w w1 v _ (IsB.to hb01 (Nat.le_refl _) _ _ HX.out) hb01 hz1 hr1 hf1)
    have HV : Hid (cs = if early v then 90 else 0) := by
      show _ = _
      rw [HCS.out, if_pos hc]
    have HZ1 := Lib.hid hz1
    subst hc
    clear hb0 hz0 hat0 hr0 hf0 hW0 hb1 hb01 hat1 hr1 hf1 hz1 HS HC HCS
    gi_wp2_with fail
    obtain ⟨W3, hW3, hz3, hic⟩ := HIS.out
    dsimp only [X.cells] at hW3
    rw [hW3]
    have HIC := Lib.hid hic
    have hok : v.ok = true := by
      have := HCH.out
      unfold V.chk at this
      split at this
      · rename_i h; exact h.2
      · exact absurd this (by decide)
    have HOK := Lib.hid hok
    have HZ3 := Lib.hid hz3
    clear hic hW3 HIS hok hz3 c0 c1 c2 c3 c4 c5
    refine wpIn_loop_ghost_k (fun q a W => ∃ (u6 u7 u15 u16 u17 u18 u19 u20 u21 u22 u23 u24 u25 u26 u27 u28 u29 u30 u31 u32 u33 u34 u35 u36 u37 u38 u39 u40 u41 u42 u43 u44 u45 u46 u47 u48 : Value) (bi : Nat) (ds : List Deferred), a = { tmps := #[.agg #[.int .i64 xk, .string xnm, .int .i64 xn, .string xs, .slice xka xkn xkc, .slice xla xln xlc], .pointer (some ⟨w.heap.size, 0, none⟩), .pointer (some ⟨w.heap.size + 1, 0, none⟩), .int .i64 0, .pointer (some ⟨w1.heap.size + 1, 0, none⟩), .pointer (some ⟨bi, 0, none⟩), u6, u7, .agg #[.int .i64 xk, .string xnm, .int .i64 xn, .string xs, .slice xka xkn xkc, .slice xla xln xlc], .int .i64 0, .int .i64 0, .bool false, undef, .agg #[.int .i64 xk, .string xnm, .int .i64 xn, .string xs, .slice xka xkn xkc, .slice xla xln xlc], .slice (some ⟨w1.heap.size, 0, none⟩) 1 1, u15, u16, u17, u18, u19, u20, u21, u22, u23, u24, u25, u26, u27, u28, u29, u30, u31, u32, u33, u34, u35, u36, u37, u38, u39, u40, u41, u42, u43, u44, u45, u46, u47, u48], defers := ds } ∧ ∃ (i : Nat) (Bd : List V), Hid (Ic w (w1.heap.size + 1) bi i Bd W.heap.size ds W) ∧ Hid (early v = (Bd.drop i).any early) ∧ Hid (i + szs (Bd.drop i) ≤ v.size) ∧ Hid (∀ u ∈ Bd, u.ok = true ∧ u.bulk ≤ 4194304) ∧ Hid (szs (Bd.drop i) ≤ q) ∧ Hid (i ≤ Bd.length)) v.size ?start ?round
    case start =>
      (repeat apply Exists.intro)
      refine ⟨rfl, 0, [v], ?_, Lib.hid (by simp), Lib.hid (by simp [szs]), Lib.hid ?_, Lib.hid (by simp [szs]), Lib.hid (Nat.zero_le _)⟩
      · rw [HZ3.out]
        exact HIC
      · intro u hu
        simp at hu
        subst hu
        exact ⟨HOK.out, HBK.out⟩
    case round =>
      rintro gk a W ⟨u6, u7, u15, u16, u17, u18, u19, u20, u21, u22, u23, u24, u25, u26, u27, u28, u29, u30, u31, u32, u33, u34, u35, u36, u37, u38, u39, u40, u41, u42, u43, u44, u45, u46, u47, u48, bi, ds, rfl, i, Bd, hic, hear, hsz, hoks, hq, hil⟩ J K hJ hK
      have hn1 := hic.out.n1
      have hn2 := hic.out.n2
      have hbl : Bd.length ≤ 4194304 := by
        have h1 := length_le_szs (Bd.drop i)
        rw [List.length_drop] at h1
        have h2 := hsz.out
        have h3 := size_le_bulk v
        have h4 := HBK.out
        have h5 := hil.out
        omega
      have hbi : (Bd.length : Int) ≤ 4194304 := by omega
      have HBI := Lib.hid hbl
      obtain ⟨bv, b1, b2, b3, b4, b5⟩ := hic.out.cel
      have hw1 : w.heap.size ≤ W.heap.size := hic.out.bl.size
      have i1 := hic.out.ic
      by_cases hlt : i < Bd.length
      · obtain ⟨g, bc, y, rfl, hbc, hat, hy⟩ := b2.el hlt
        have hob := hoks.out _ (List.getElem_mem hlt)
        have hear2 : early v = (early Bd[i] || (Bd.drop (i + 1)).any early) := by
          rw [hear.out, List.drop_eq_getElem_cons hlt, List.any_cons]
        have hsz2 : i + (Bd[i].size + szs (Bd.drop (i + 1))) ≤ v.size := by
          have := hsz.out
          rw [List.drop_eq_getElem_cons hlt, szs_cons] at this
          exact this
        have hq2 : Bd[i].size + szs (Bd.drop (i + 1)) ≤ gk := by
          have := hq.out
          rw [List.drop_eq_getElem_cons hlt, szs_cons] at this
          exact this
        have HBD := Lib.hid (show ∀ ys, (Bd ++ ys)[i]? = some Bd[i] from fun ys => by rw [List.getElem?_append_left hlt, List.getElem?_eq_getElem hlt])
        have HDR : Hid (∀ ys, (Bd ++ ys).drop (i + 1) = Bd.drop (i + 1) ++ ys) := fun ys => List.drop_append_of_le_length hlt
        generalize Bd[i] = b at *
        obtain ⟨yka, ykc, yla, ylc, rfl, hy1, hylc, hy3, hyrow⟩ := hy.open
        obtain ⟨d0, d1, d2, d3, d4, d5⟩ := hat.six
        have hdl : decide ((i : Int) < (Bd.length : Int)) = true := by rw [decide_eq_true_eq]; omega
        have hil2 : (i : Int) < (Bd.length : Int) := by omega
        have HOB := Lib.hid hob
        have HEAR := Lib.hid hear2
        have HSZ := Lib.hid hsz2
        have HQ := Lib.hid hq2
        have HY := Lib.hid hy
        have HYR := Lib.hid hyrow
        have HYC := Lib.hid hylc
        have HLT := Lib.hid hlt
        have HBX : Hid (V.bulks b.l ≤ 4194304) := by
          have h1 := bulk_parts b
          have h2 := HOB.out.2
          show V.bulks b.l ≤ 4194304
          omega
        have HLS := Lib.hid hic.out.lts
        have HW1 := Lib.hid hw1
        have HN1 := Lib.hid hn1
        have HN2 := Lib.hid hn2
        clear hob hear2 hsz2 hq2 hy hy1 hy3 hylc hyrow hat hear hsz hq b2 b3 b4 b5 hbc hlt hil hn1 hn2 hw1 hbl
        gi_wp2_with fail
        refine ⟨trivial, (callsIn_wide.2 (within_any yla b.l.length ylc _)).mono ?_⟩
        rintro e w4 ⟨rfl, rfl⟩
        clear d0 d1 d2 d3 d4 d5
        gi_wp2_with fail
        have hbA := below_alloc W (.cells #[.slice yla b.l.length ylc] 23)
        have hzA : (W.alloc (.cells #[.slice yla b.l.length ylc] 23)).heap.size = W.heap.size + 1 := by simp
        have hcA : (W.alloc (.cells #[.slice yla b.l.length ylc] 23)).cell? ⟨W.heap.size, 0, none⟩ = some (.slice yla b.l.length ylc) := by simp
        have hicA := hic.out.low (Nat.le_refl _) hbA
        have HICA := Lib.hid hicA
        have hrA := HYR.out.to (hbA.mono HW1.out) (Nat.le_refl _)
        obtain ⟨WA, hWA⟩ : ∃ WA, W.alloc (.cells #[.slice yla b.l.length ylc] 23) = WA := ⟨_, rfl⟩
        rw [hWA] at hbA hzA hcA HICA hrA ⊢
        have HZA := Lib.hid hzA
        have hls := HLS.out
        have hws := HW1.out
        have hn1 := HN1.out
        have hn2 := HN2.out
        clear hicA hWA
        refine range_d rfl (by omega) (gf := 41) (lb := #[.pointer (some ⟨W.heap.size, 0, none⟩)]) rfl trivial (enters_of Try.func41 (by kernel_rfl) rfl)
          (within_seq 8 W.heap.size w.heap.size (w1.heap.size + 1) b.l yla ylc WA (by omega) (by omega) hrA HYC.out hcA HBX.out)
          (fun x A C h k => Gw.kept x A C h k) (fun h k => h.trans k) (fun W' lk o o' hl h hc hw => Kd.turn (by omega) (by omega) W' lk o o' hl h hc hw) (Below.refl _ _) (fun _ => rfl)
          (fun W' W'' hs hb => Kd.of_below (by omega) (by omega) hb)
          (fun pre W' => Ic w (w1.heap.size + 1) bi i (Bd ++ fnsP (pre.map Er.it)) W.heap.size ds W' ∧ bads (isFn b) (pre.map Er.it) = false)
          (fun c pre W' => c = .ret ∧ bads (isFn b) (pre.map Er.it) = true ∧ W'.cell? ⟨w.heap.size + 1, 0, none⟩ = some (.int .i64 90) ∧ Below w.heap.size w W' ∧ Marks (w.heap.size + 2) W.heap.size ds W')
          (fun _ _ _ h k => ⟨h.1.lowD (by omega) (by omega) k, h.2⟩) (fun _ _ h => h.1.dd)
          (fun _ _ _ _ h k => ⟨h.1, h.2.1, (k.cell (p := ⟨w.heap.size + 1, 0, none⟩) (by show w.heap.size + 1 < WA.heap.size; omega)).trans h.2.2.1, h.2.2.2.1.trans (k.mono (by omega)), h.2.2.2.2.to fun D _ hD hh => (k.block D (by omega)).trans hh⟩)
          ⟨by simpa [fnsP] using HICA.out, rfl⟩
          (fun x a m W' => a = { tmps := #[.agg #[.int .i64 xk, .string xnm, .int .i64 xn, .string xs, .slice xka xkn xkc, .slice xla xln xlc], .pointer (some ⟨w.heap.size, 0, none⟩), .pointer (some ⟨w.heap.size + 1, 0, none⟩), .int .i64 0, .pointer (some ⟨w1.heap.size + 1, 0, none⟩), .pointer (some ⟨bi, 0, none⟩), .slice x.A x.it.1.length x.c, .pointer (some ⟨m, 0, none⟩), .agg #[.int .i64 xk, .string xnm, .int .i64 xn, .string xs, .slice xka xkn xkc, .slice xla xln xlc], .int .i64 0, .int .i64 0, .bool false, undef, .agg #[.int .i64 xk, .string xnm, .int .i64 xn, .string xs, .slice xka xkn xkc, .slice xla xln xlc], .slice (some ⟨w1.heap.size, 0, none⟩) 1 1, .int .i64 i, .slice (some ⟨g, 0, none⟩) Bd.length bc, .int .i64 Bd.length, .bool true, u19, u20, .slice (some ⟨g, 0, none⟩) Bd.length bc, .int .i64 i, .pointer (some ⟨g, i * 6, none⟩), .pointer (some ⟨g, i * 6 + 5, none⟩), .slice yla b.l.length ylc, .func (.func 41) #[] #[.pointer (some ⟨W.heap.size, 0, none⟩)], .slice x.A x.it.1.length x.c, x.x.v, u29, u30, u31, u32, u33, u34, u35, u36, u37, u38, u39, u40, u41, u42, u43, u44, u45, u46, u47, u48], defers := [] } ∧ At W' m 0 x.x) ?assign ?bx ?body ?done ?stop
        case assign =>
          intro lk x W' C hC
          obtain ⟨xA, xc, ⟨zk, znm, zn, zs, zka, zkn, zkc, zla, zln, zlc⟩, xi⟩ := x
          simp only [Er.enc, X.v] at hC ⊢
          gi_wp2
          exact hC _ _ (below_alloc W' _) ⟨rfl, at_new W' ⟨zk, znm, zn, zs, zka, zkn, zkc, zla, zln, zlc⟩⟩
        case bx =>
          rintro x a m W' lk o o' ⟨rfl, hat⟩ ho hc
          exact ⟨rfl, at_put hat ho hc⟩
        case body =>
          rintro lk pre x a m W2 hm1 hm2 hm3 ⟨hic2, hbad⟩ hgw ⟨rfl, hat2⟩ hpl
          have hys := HBD.out (fnsP (pre.map Er.it))
          have hfl : (fnsP (pre.map Er.it)).length ≤ pre.length := by
            unfold fnsP
            rw [List.length_map]
            exact Nat.le_trans (List.length_filter_le _ _) (by rw [List.length_map]; exact Nat.le_refl _)
          have hlen : (Bd ++ fnsP (pre.map Er.it)).length ≤ 4194304 := by
            rw [List.length_append]
            have h1 := HSZ.out
            have h2 := length_le_szs (Bd.drop (i + 1))
            rw [List.length_drop] at h2
            have h3 := size_le_bulk v
            have h4 := HBK.out
            have h5 := size_eq b
            have h6 := HLT.out
            omega
          have hi2 : i < (Bd ++ fnsP (pre.map Er.it)).length := by rw [List.length_append]; have := HLT.out; omega
          rw [List.getElem?_eq_getElem hi2] at hys
          have hyz := Option.some.inj hys
          have HPOST : Hid (∀ it : It, bads (isFn b) (List.map Er.it pre ++ [it]) = badN it.1 it.2 (isFn b)) := fun it => by rw [bads_append, hbad, Bool.false_or]; simp [bads]
          have HFP : Hid (∀ it : It, Bd ++ fnsP (List.map Er.it pre ++ [it]) = (Bd ++ fnsP (List.map Er.it pre)) ++ (if isFn it.2 then [it.2] else [])) := fun it => by rw [fnsP_append, fnsP_one, List.append_assoc]
          obtain ⟨Bd2, hBd2⟩ : ∃ Bd2, Bd ++ fnsP (pre.map Er.it) = Bd2 := ⟨_, rfl⟩
          rw [hBd2] at HFP hic2
          have hlen2 : Bd2.length ≤ 4194304 := by rw [← hBd2]; exact hlen
          have hi3 : i < Bd2.length := by rw [← hBd2]; exact hi2
          have hys2 : Bd2[i] = b := by rw [← hyz]; subst hBd2; rfl
          obtain ⟨bv2, e1, e2, e3, e4, e5⟩ := hic2.cel
          obtain ⟨g2, bc2, y2, rfl, hbc2, hat3, hy2⟩ := e2.el hi3
          rw [hys2] at hy2
          have hyk : y2.k = b.k := ((isB_iff _ _ _ _).1 hy2).1.1
          have hrow2 : Row W2 x.A x.it.1 := hgw.row.row hgw.nz
          have his2 : Is W2 x.it.2 x.x := IsB.to (Below.refl _ _) hgw.nz _ _ hgw.is
          have hokb : V.oks b.l = true := by
            have := HOB.out.1
            rw [ok_eq, Bool.and_eq_true] at this
            exact this.2
          obtain ⟨ok1, ok2⟩ := ok_wi hokb hgw.mem
          have hbx := HBX.out
          have HWR := Lib.hid fun w' (h : Below W2.heap.size W2 w') => isWrong_any x.it.2 x.x w' (Is.below h _ _ his2) (Nat.le_trans hgw.bulk hbx) (ok_ne ok1)
          have HAS := Lib.hid fun w' (h : Below W2.heap.size W2 w') => isAstray_any x.it.2 x.x x.it.1 x.A x.c b y2 w' (Is.below h _ _ his2) (RowB.below hrow2 h) (Nat.le_trans hgw.len hbx) hyk fun u hu => ⟨ok2 u hu, Nat.le_trans (hgw.bulks u hu) hbx⟩
          have hkf : kFn x.x.k = isFn x.it.2 := by
            have hk := ((isB_iff _ _ _ _).1 his2).1.1
            unfold kFn isFn
            rw [hk]
          have HFN := Lib.hid fun w' => isFunction_x x.x w'
          rw [hkf] at HFN
          have hblt : bi < W2.heap.size := hic2.lts
          have hmlt : m < W2.heap.size := by obtain ⟨u, hu, -⟩ := cells_of_cell hat2.c0; exact (Array.getElem?_eq_some_iff.1 hu).1
          have hglt : g2 < W2.heap.size := by obtain ⟨u, hu, -⟩ := cells_of_cell hat3.c0; exact (Array.getElem?_eq_some_iff.1 hu).1
          have HCEL : Hid (∀ w', Below W2.heap.size W2 w' → w'.cell? ⟨m, 0, none⟩ = some (.int .i64 x.x.k) ∧ w'.cell? ⟨m, 1, none⟩ = some (.string x.x.nm) ∧ w'.cell? ⟨m, 2, none⟩ = some (.int .i64 x.x.n) ∧ w'.cell? ⟨m, 3, none⟩ = some (.string x.x.s) ∧ w'.cell? ⟨m, 4, none⟩ = some (.slice x.x.ka x.x.kn x.x.kc) ∧ w'.cell? ⟨m, 5, none⟩ = some (.slice x.x.la x.x.ln x.x.lc) ∧
              w'.cell? ⟨w1.heap.size + 1, 0, none⟩ = some (.slice (some ⟨g2, 0, none⟩) Bd2.length bc2) ∧ w'.cell? ⟨bi, 0, none⟩ = some (.int .i64 i) ∧
              w'.cell? ⟨g2, i * 6, none⟩ = some (.int .i64 y2.k) ∧ w'.cell? ⟨g2, i * 6 + 1, none⟩ = some (.string y2.nm) ∧ w'.cell? ⟨g2, i * 6 + 2, none⟩ = some (.int .i64 y2.n) ∧ w'.cell? ⟨g2, i * 6 + 3, none⟩ = some (.string y2.s) ∧ w'.cell? ⟨g2, i * 6 + 4, none⟩ = some (.slice y2.ka y2.kn y2.kc) ∧ w'.cell? ⟨g2, i * 6 + 5, none⟩ = some (.slice y2.la y2.ln y2.lc) ∧
              w'.cell? ⟨w.heap.size + 1, 0, none⟩ = some (.int .i64 0) ∧ w'.frozen? ⟨w.heap.size + 1, 0, none⟩ = false) := fun w' h => by
            obtain ⟨q0, q1, q2, q3, q4, q5⟩ := (hat2.below hmlt h).six
            obtain ⟨r0, r1, r2, r3, r4, r5⟩ := (hat3.below hglt h).six
            exact ⟨q0, q1, q2, q3, q4, q5, (h.cell (p := ⟨w1.heap.size + 1, 0, none⟩) (by show w1.heap.size + 1 < W2.heap.size; omega)).trans e1, (h.cell (p := ⟨bi, 0, none⟩) hblt).trans hic2.ic, r0, r1, r2, r3, r4, r5, (h.cell (p := ⟨w.heap.size + 1, 0, none⟩) (by show w.heap.size + 1 < W2.heap.size; omega)).trans hic2.rc, (h.frozen (p := ⟨w.heap.size + 1, 0, none⟩) (by show w.heap.size + 1 < W2.heap.size; omega)).trans hic2.rf⟩
          have hwT : W.heap.size ≤ W2.heap.size := by have := HZA.out; omega
          have HI2 := Lib.hid hic2
          have HE3 := Lib.hid e3
          have HIS2 := Lib.hid hgw.is
          have HWT := Lib.hid hwT
          have HBL2 := Lib.hid hblt
          have HML := Lib.hid hmlt
          have HLEN2 : Hid ((Bd2.length : Int) ≤ 4194304 ∧ (i : Int) < Bd2.length) := ⟨by omega, by omega⟩
          have HM1 := Lib.hid hm1
          have HG2M : Hid (g2 < m ∧ w1.heap.size + 1 < m) := ⟨hm3 g2 (.inr ⟨_, e1, rfl⟩), hm3 _ (.inl rfl)⟩
          have HE2 := Lib.hid e2
          have HE1 := Lib.hid e1
          obtain ⟨hl1, hl2⟩ := HLEN2.out
          have hl3 : i * 6 < Bd2.length * 6 := by omega
          clear hys2 hyz hys hi2 e1 e2 e3 e4 e5 hat2 hat3 hic2 hgw hfl hlen hBd2 hyk hrow2 his2 hokb ok1 ok2 hbx hkf hblt hmlt hglt hwT hpl hm1 hm2 hm3 hbad hbc2 hy2 hlen2
          obtain ⟨xA, xc, ⟨zk, znm, zn, zs, zka, zkn, zkc, zla, zln, zlc⟩, ⟨zar, zv⟩⟩ := x
          obtain ⟨tk, tnm, tn, ts, tka, tkn, tkc, tla, tln, tlc⟩ := y2
          dsimp only [X.v] at HWR HAS HFN HCEL HIS2 ⊢
          gi_wp2_with fail
          have hb0 : Below W2.heap.size W2 W2.drew := (Below.refl _ _).drew
          refine region_round (S := fun w' => Below W2.heap.size W2 w') (by kernel_rfl) (by decide) (fun ⟨a, w, h⟩ => h) (by exact hb0) (fun hHeld => ?_)
          iterate 1
            (first
              | (refine wpAnyH_take (i := 0) (v := ?_) rfl (by kernel_rfl) (by decide +kernel) (by decide +kernel) (fun _ _ _ h => h) (Or.inl ⟨by rfl, ?_⟩) (by assumption) ?_; rotate_left; (focus (intro w0 hSw; obtain ⟨p0, p1, p2, p3, p4, p5, p6, p7, p8, p9, p10, p11, p12, p13, -⟩ := HCEL.out w0 hSw; go_simp; (try with_reducible rfl); done)))
              )
          try simp only [List.getElem_toArray, List.getElem_cons_zero, Act.put, List.setIfInBounds_toArray, List.set_cons_zero, List.set_cons_succ]
          refine wpAnyH_ready (rs := [1]) (by decide +kernel) (by simp) (AllReadyH.cons rfl (fun K hK => ?_) AllReadyH.nil)
          go_simp
          refine (HWR.out _ hb0).mono ?_
          rintro ee v1 ⟨rfl, hbb⟩
          have hb1 := hb0.trans (hbb.mono hb0.size)
          refine hK.out _ _ hb1 (fun hHeld1 => ?_)
          clear hK K hbb
          try simp only [List.getElem_toArray, List.getElem_cons_zero, Act.put, List.setIfInBounds_toArray, List.set_cons_zero, List.set_cons_succ]
          cases hwr : wrong zv with
          | true =>
            iterate 1
              (first
                | (refine wpAnyH_take (i := 2) (v := ?_) rfl (by kernel_rfl) (by decide +kernel) (by decide +kernel) (fun _ _ _ h => h) (Or.inl ⟨by rfl, ?_⟩) (by assumption) ?_; rotate_left; (focus (intro w0 hSw; obtain ⟨p0, p1, p2, p3, p4, p5, p6, p7, p8, p9, p10, p11, p12, p13, -⟩ := HCEL.out w0 hSw; go_simp; (try with_reducible rfl); done)))
                )
            try simp only [List.getElem_toArray, List.getElem_cons_zero, List.getElem_cons_succ, Act.put, List.setIfInBounds_toArray, List.set_cons_zero, List.set_cons_succ]
            iterate 7
              (first
                | (refine wpAnyH_take (i := 3) (v := undef) rfl (by kernel_rfl) (by decide +kernel) (by decide +kernel) (fun _ _ _ h => h) (Or.inr ⟨by rfl, rfl⟩) (by assumption) ?_)
                | (refine wpAnyH_take (i := 4) (v := undef) rfl (by kernel_rfl) (by decide +kernel) (by decide +kernel) (fun _ _ _ h => h) (Or.inr ⟨by rfl, rfl⟩) (by assumption) ?_)
                | (refine wpAnyH_take (i := 5) (v := undef) rfl (by kernel_rfl) (by decide +kernel) (by decide +kernel) (fun _ _ _ h => h) (Or.inr ⟨by rfl, rfl⟩) (by assumption) ?_)
                | (refine wpAnyH_take (i := 6) (v := undef) rfl (by kernel_rfl) (by decide +kernel) (by decide +kernel) (fun _ _ _ h => h) (Or.inr ⟨by rfl, rfl⟩) (by assumption) ?_)
                | (refine wpAnyH_take (i := 7) (v := undef) rfl (by kernel_rfl) (by decide +kernel) (by decide +kernel) (fun _ _ _ h => h) (Or.inr ⟨by rfl, rfl⟩) (by assumption) ?_)
                | (refine wpAnyH_take (i := 8) (v := undef) rfl (by kernel_rfl) (by decide +kernel) (by decide +kernel) (fun _ _ _ h => h) (Or.inr ⟨by rfl, rfl⟩) (by assumption) ?_)
                | (refine wpAnyH_take (i := 9) (v := undef) rfl (by kernel_rfl) (by decide +kernel) (by decide +kernel) (fun _ _ _ h => h) (Or.inr ⟨by rfl, rfl⟩) (by assumption) ?_)
                )
            try simp only [List.getElem_toArray, List.getElem_cons_zero, List.getElem_cons_succ, Act.put, List.setIfInBounds_toArray, List.set_cons_zero, List.set_cons_succ]
            iterate 1
              (first
                | (refine wpAnyH_take (i := 10) (v := ?_) rfl (by kernel_rfl) (by decide +kernel) (by decide +kernel) (fun _ _ _ h => h) (Or.inl ⟨by rfl, ?_⟩) (by assumption) ?_; rotate_left; (focus (intro w0 hSw; obtain ⟨p0, p1, p2, p3, p4, p5, p6, p7, p8, p9, p10, p11, p12, p13, -⟩ := HCEL.out w0 hSw; go_simp; (try with_reducible rfl); done)))
                )
            try simp only [List.getElem_toArray, List.getElem_cons_zero, List.getElem_cons_succ, Act.put, List.setIfInBounds_toArray, List.set_cons_zero, List.set_cons_succ]
            refine wpAnyH_done (by kernel_rfl) ?_ _
            obtain ⟨-, -, -, -, -, -, -, -, -, -, -, -, -, -, p14, p15⟩ := HCEL.out _ hb1
            gi_wp2_with fail
            have hbs : Below w.heap.size W2 v1 := hb1.mono (Nat.le_trans HI2.out.bl.size (Nat.le_refl _))
            have hm1 := HM1.out
            have hza := HZA.out
            refine ⟨(kf_low hb1).trans ⟨by simp [World.setCell], fun k o hk hko _ => (Below.heap_setCell _ ⟨w.heap.size + 1, 0, none⟩ _ k (by show k ≠ w.heap.size + 1; omega)).trans hko⟩, rfl, ?_, World.cell?_setCell_same _ _ _ p14, (HI2.out.bl.trans hbs).setCell (p := ⟨w.heap.size + 1, 0, none⟩) (by show w.heap.size ≤ w.heap.size + 1; omega) _, ?_⟩
            · rw [List.map_append, List.map_singleton, HPOST.out]
              dsimp only [badN]
              rw [hwr]; rfl
            · refine HI2.out.mks.to fun D _ _ hD => ?_
              have hD2 := (hb1.block D (Array.getElem?_eq_some_iff.1 hD).1).trans hD
              exact (KeepsOthers.setCell v1 ⟨w.heap.size + 1, 0, none⟩ (.int .i64 90)).same D _ hD2 rfl
          | false =>
            iterate 7
              (first
                | (refine wpAnyH_take (i := 2) (v := ?_) rfl (by kernel_rfl) (by decide +kernel) (by decide +kernel) (fun _ _ _ h => h) (Or.inl ⟨by rfl, ?_⟩) (by assumption) ?_; rotate_left; (focus (intro w0 hSw; obtain ⟨p0, p1, p2, p3, p4, p5, p6, p7, p8, p9, p10, p11, p12, p13, -⟩ := HCEL.out w0 hSw; go_simp; (try with_reducible rfl); done)))
                | (refine wpAnyH_take (i := 3) (v := ?_) rfl (by kernel_rfl) (by decide +kernel) (by decide +kernel) (fun _ _ _ h => h) (Or.inl ⟨by rfl, ?_⟩) (by assumption) ?_; rotate_left; (focus (intro w0 hSw; obtain ⟨p0, p1, p2, p3, p4, p5, p6, p7, p8, p9, p10, p11, p12, p13, -⟩ := HCEL.out w0 hSw; go_simp; (try with_reducible rfl); done)))
                | (refine wpAnyH_take (i := 4) (v := ?_) rfl (by kernel_rfl) (by decide +kernel) (by decide +kernel) (fun _ _ _ h => h) (Or.inl ⟨by rfl, ?_⟩) (by assumption) ?_; rotate_left; (focus (intro w0 hSw; obtain ⟨p0, p1, p2, p3, p4, p5, p6, p7, p8, p9, p10, p11, p12, p13, -⟩ := HCEL.out w0 hSw; go_simp; (try with_reducible rfl); done)))
                | (refine wpAnyH_take (i := 5) (v := ?_) rfl (by kernel_rfl) (by decide +kernel) (by decide +kernel) (fun _ _ _ h => h) (Or.inl ⟨by rfl, ?_⟩) (by assumption) ?_; rotate_left; (focus (intro w0 hSw; obtain ⟨p0, p1, p2, p3, p4, p5, p6, p7, p8, p9, p10, p11, p12, p13, -⟩ := HCEL.out w0 hSw; go_simp; (try with_reducible rfl); done)))
                | (refine wpAnyH_take (i := 6) (v := ?_) rfl (by kernel_rfl) (by decide +kernel) (by decide +kernel) (fun _ _ _ h => h) (Or.inl ⟨by rfl, ?_⟩) (by assumption) ?_; rotate_left; (focus (intro w0 hSw; obtain ⟨p0, p1, p2, p3, p4, p5, p6, p7, p8, p9, p10, p11, p12, p13, -⟩ := HCEL.out w0 hSw; go_simp; (try with_reducible rfl); done)))
                | (refine wpAnyH_take (i := 7) (v := ?_) rfl (by kernel_rfl) (by decide +kernel) (by decide +kernel) (fun _ _ _ h => h) (Or.inl ⟨by rfl, ?_⟩) (by assumption) ?_; rotate_left; (focus (intro w0 hSw; obtain ⟨p0, p1, p2, p3, p4, p5, p6, p7, p8, p9, p10, p11, p12, p13, -⟩ := HCEL.out w0 hSw; go_simp; (try with_reducible rfl); done)))
                | (refine wpAnyH_take (i := 8) (v := ?_) rfl (by kernel_rfl) (by decide +kernel) (by decide +kernel) (fun _ _ _ h => h) (Or.inl ⟨by rfl, ?_⟩) (by assumption) ?_; rotate_left; (focus (intro w0 hSw; obtain ⟨p0, p1, p2, p3, p4, p5, p6, p7, p8, p9, p10, p11, p12, p13, -⟩ := HCEL.out w0 hSw; go_simp; (try with_reducible rfl); done)))
                )
            try simp only [List.getElem_toArray, List.getElem_cons_zero, List.getElem_cons_succ, Act.put, List.setIfInBounds_toArray, List.set_cons_zero, List.set_cons_succ]
            refine wpAnyH_ready (rs := [9]) (by decide +kernel) (by simp) (AllReadyH.cons rfl (fun K hK => ?_) AllReadyH.nil)
            go_simp
            refine (HAS.out _ hb1).mono ?_
            rintro ee v2 ⟨rfl, hbb⟩
            have hb2 := hb1.trans (hbb.mono hb1.size)
            refine hK.out _ _ hb2 (fun hHeld2 => ?_)
            clear hK K hbb
            try simp only [List.getElem_toArray, List.getElem_cons_zero, List.getElem_cons_succ, Act.put, List.setIfInBounds_toArray, List.set_cons_zero, List.set_cons_succ]
            cases hst : astray zv zar (isFn b) with
            | true =>
              iterate 1
                (first
                  | (refine wpAnyH_take (i := 10) (v := ?_) rfl (by kernel_rfl) (by decide +kernel) (by decide +kernel) (fun _ _ _ h => h) (Or.inl ⟨by rfl, ?_⟩) (by assumption) ?_; rotate_left; (focus (intro w0 hSw; obtain ⟨p0, p1, p2, p3, p4, p5, p6, p7, p8, p9, p10, p11, p12, p13, -⟩ := HCEL.out w0 hSw; go_simp; (try with_reducible rfl); done)))
                  )
              try simp only [List.getElem_toArray, List.getElem_cons_zero, List.getElem_cons_succ, Act.put, List.setIfInBounds_toArray, List.set_cons_zero, List.set_cons_succ]
              refine wpAnyH_done (by kernel_rfl) ?_ _
              obtain ⟨-, -, -, -, -, -, -, -, -, -, -, -, -, -, p14, p15⟩ := HCEL.out _ hb2
              gi_wp2_with fail
              have hbs : Below w.heap.size W2 v2 := hb2.mono (Nat.le_trans HI2.out.bl.size (Nat.le_refl _))
              have hm1 := HM1.out
              have hza := HZA.out
              refine ⟨(kf_low hb2).trans ⟨by simp [World.setCell], fun k o hk hko _ => (Below.heap_setCell _ ⟨w.heap.size + 1, 0, none⟩ _ k (by show k ≠ w.heap.size + 1; omega)).trans hko⟩, rfl, ?_, World.cell?_setCell_same _ _ _ p14, (HI2.out.bl.trans hbs).setCell (p := ⟨w.heap.size + 1, 0, none⟩) (by show w.heap.size ≤ w.heap.size + 1; omega) _, ?_⟩
              · rw [List.map_append, List.map_singleton, HPOST.out]
                dsimp only [badN]
                rw [hwr, hst]; rfl
              · refine HI2.out.mks.to fun D _ _ hD => ?_
                have hD2 := (hb2.block D (Array.getElem?_eq_some_iff.1 hD).1).trans hD
                exact (KeepsOthers.setCell v2 ⟨w.heap.size + 1, 0, none⟩ (.int .i64 90)).same D _ hD2 rfl
            | false =>
              iterate 1
                (first
                  | (refine wpAnyH_take (i := 10) (v := ?_) rfl (by kernel_rfl) (by decide +kernel) (by decide +kernel) (fun _ _ _ h => h) (Or.inl ⟨by rfl, ?_⟩) (by assumption) ?_; rotate_left; (focus (intro w0 hSw; obtain ⟨p0, p1, p2, p3, p4, p5, p6, p7, p8, p9, p10, p11, p12, p13, -⟩ := HCEL.out w0 hSw; go_simp; (try with_reducible rfl); done)))
                  )
              try simp only [List.getElem_toArray, List.getElem_cons_zero, List.getElem_cons_succ, Act.put, List.setIfInBounds_toArray, List.set_cons_zero, List.set_cons_succ]
              refine wpAnyH_done (by kernel_rfl) ?_ _
              have HB2 := Lib.hid hb2
              have HBADN : Hid (badN zar zv (isFn b) = false) := by
                show _ = _
                unfold badN
                rw [hwr, hst]
                rfl
              obtain ⟨p0, p1, p2, p3, p4, p5, -⟩ := HCEL.out _ hb2
              clear hwr hst hb2 hHeld hHeld1 hHeld2 hb1 hb0
              gi_wp2_with fail
              refine ⟨trivial, (callsIn_wide.2 (HFN.out _)).mono ?_⟩
              rintro e v3 ⟨rfl, hbb⟩
              have hb3 := HB2.out.trans (hbb.mono HB2.out.size)
              have HB3 := Lib.hid hb3
              clear hbb p0 p1 p2 p3 p4 p5
              cases hfz : isFn zv with
              | false =>
                gi_wp2_with fail
                have hm1 := HM1.out
                have hza := HZA.out
                have hwt := HWT.out
                refine ⟨kf_low hb3, Kd.of_below (by omega) (by have := HBL2.out; omega) hb3, ?_, ?_⟩
                · rw [List.map_append, List.map_singleton, HFP.out, hfz, if_neg (by decide), List.append_nil]
                  exact HI2.out.low (by omega) hb3
                · rw [List.map_append, List.map_singleton, HPOST.out]
                  exact HBADN.out
              | true =>
                gi_wp2_with fail
                have hmg : ∀ k, k < m → ∀ w' : World, True := fun _ _ _ => trivial
                clear hmg hb3
                have HI3 := Lib.hid (HI2.out.low HWT.out HB3.out)
                have HS6 : Hid (∀ w' : World, w'.heap[m]? = W2.heap[m]? → w'.cell? ⟨m, 0, none⟩ = some (.int .i64 zk) ∧ w'.cell? ⟨m, 1, none⟩ = some (.string znm) ∧ w'.cell? ⟨m, 2, none⟩ = some (.int .i64 zn) ∧ w'.cell? ⟨m, 3, none⟩ = some (.string zs) ∧ w'.cell? ⟨m, 4, none⟩ = some (.slice zka zkn zkc) ∧ w'.cell? ⟨m, 5, none⟩ = some (.slice zla zln zlc)) := fun w' h => by
                  obtain ⟨p0, p1, p2, p3, p4, p5, -⟩ := HCEL.out W2 (Below.refl _ _)
                  have hk : ∀ j, w'.cell? ⟨m, j, none⟩ = W2.cell? ⟨m, j, none⟩ := fun j => World.cell?_of_block (a := ⟨m, j, none⟩) h
                  exact ⟨(hk _).trans p0, (hk _).trans p1, (hk _).trans p2, (hk _).trans p3, (hk _).trans p4, (hk _).trans p5⟩
                have HB4 : Hid (Below W2.heap.size W2 v3.drew) := HB3.out.drew
                have HI4 : Hid (Ic w (w1.heap.size + 1) bi i Bd2 W.heap.size ds v3.drew) := HI3.out.low (Nat.le_trans HWT.out HB3.out.size) (Below.refl _ _).drew
                refine region_round (S := fun w' => w'.heap[m]? = W2.heap[m]?) (by kernel_rfl) (by decide) (fun ⟨a, w, h⟩ => h) (by exact HB4.out.block m HML.out) (fun hHeld => ?_)
                iterate 1
                  (first
                    | (refine wpAnyH_take (i := 1) (v := ?_) rfl (by kernel_rfl) (by decide +kernel) (by decide +kernel) (fun _ _ _ h => h) (Or.inl ⟨by rfl, ?_⟩) (by assumption) ?_; rotate_left; (focus (intro w0 hSw; obtain ⟨p0, p1, p2, p3, p4, p5⟩ := HS6.out w0 hSw; go_simp; (try with_reducible rfl); done)))
                    )
                try simp only [List.getElem_toArray, List.getElem_cons_zero, List.getElem_cons_succ, Act.put, List.setIfInBounds_toArray, List.set_cons_zero, List.set_cons_succ]
                have HST0 : Hid (Stp w.heap.size (w1.heap.size + 1) WA.heap.size W2 v3.drew) := Stp.low (by have := HWT.out; have := HI2.out.bl.size; omega) (by have := HBL2.out; omega) HB4.out
                generalize v3.drew = v4 at *
                refine wpAnyH_ready (rs := [0, 3]) (by decide +kernel) (by simp) (AllReadyH.cons rfl (fun K hK => ?_) (AllReadyH.cons rfl (fun K hK => ?_) AllReadyH.nil))
                ·
                  obtain ⟨-, -, -, -, -, -, q1, -⟩ := HCEL.out _ HB4.out
                  go_simp
                  refine hK.out _ _ (by exact HB4.out.block m HML.out) (fun hHeld5 => ?_)
                  clear hK K q1
                  try simp only [List.getElem_toArray, List.getElem_cons_zero, List.getElem_cons_succ, Act.put, List.setIfInBounds_toArray, List.set_cons_zero, List.set_cons_succ]
                  iterate 1
                    (first
                      | (refine wpAnyH_take (i := 2) (v := ?_) rfl (by kernel_rfl) (by decide +kernel) (by decide +kernel) (fun _ _ _ h => h) (Or.inl ⟨by rfl, ?_⟩) (by assumption) ?_; rotate_left; (focus (intro w0 hSw; obtain ⟨p0, p1, p2, p3, p4, p5⟩ := HS6.out w0 hSw; go_simp; (try with_reducible rfl); done)))
                      )
                  try simp only [List.getElem_toArray, List.getElem_cons_zero, List.getElem_cons_succ, Act.put, List.setIfInBounds_toArray, List.set_cons_zero, List.set_cons_succ]
                  refine wpAnyH_ready (rs := [3]) (by decide +kernel) (by simp) (AllReadyH.cons rfl (fun K hK => ?_) AllReadyH.nil)
                  go_simp
                  have HB6 := Lib.hid (HB4.out.trans ((below_alloc v4 (.cells #[.int .i64 0, .string ⟨#[]⟩, .int .i64 0, .string ⟨#[]⟩, .slice none 0 0, .slice none 0 0] 25)).mono HB4.out.size))
                  have HI106 := Lib.hid (HI4.out.low (Nat.le_trans HWT.out HB4.out.size) (below_alloc v4 (.cells #[.int .i64 0, .string ⟨#[]⟩, .int .i64 0, .string ⟨#[]⟩, .slice none 0 0, .slice none 0 0] 25)))
                  have HC6 := Lib.hid (at_new v4 ⟨0, ⟨#[]⟩, 0, ⟨#[]⟩, none, 0, 0, none, 0, 0⟩)
                  dsimp only [X.cells] at HC6
                  refine hK.out _ _ (by exact HB6.out.block m HML.out) (fun hHeld6 => ?_)
                  clear hK K
                  generalize v4.alloc (.cells #[.int .i64 0, .string ⟨#[]⟩, .int .i64 0, .string ⟨#[]⟩, .slice none 0 0, .slice none 0 0] 25) = v10 at *
                  try simp only [List.getElem_toArray, List.getElem_cons_zero, List.getElem_cons_succ, Act.put, List.setIfInBounds_toArray, List.set_cons_zero, List.set_cons_succ]
                  refine wpAnyH_ready (rs := [4]) (by decide +kernel) (by simp) (AllReadyH.cons rfl (fun K hK => ?_) AllReadyH.nil)
                  have hwz := HWT.out
                  have hwy := HB6.out.size
                  have hwx := HI2.out.bl.size
                  refine step_appN rfl (.tmp 42) (.tmp 45) rfl w.heap.size w.heap.size (.slice (some ⟨g2, 0, none⟩) Bd2.length bc2) Bd2 rfl (HE2.out.push (HB6.out.mono (by omega)) fun k hk => HB6.out.block k (HE2.out.lt k hk).2) v4.heap.size _ V0 rfl HC6.out (is_V0 _ _) (by have := HLEN2.out.1; omega) (Nat.le_refl _) (by omega) ?_
                  intro av' w3 h1 h2 h3
                  obtain ⟨ag, ac, rfl, hac⟩ : ∃ ag ac, av' = .slice (some ⟨ag, 0, none⟩) (Bd2.length + 1) ac ∧ Bd2.length + 1 ≤ ac := by
                    rcases h1.form with ⟨-, e⟩ | ⟨g, cap, e, h, -⟩
                    · simp at e
                    · rw [List.length_append] at e h
                      exact ⟨g, cap, e, h⟩
                  have HW3 : Hid (w3.heap[m]? = W2.heap[m]?) := (h2.block m (by have := HML.out; omega) (fun e => by have := HG2M.out; simp [Value.ownBlock] at e; omega)).trans (HB6.out.block m HML.out)
                  obtain ⟨i1, i2, i3, i4, i5, i6, i7⟩ := HI106.out.push (by omega) ((HB6.out.cell (p := ⟨w1.heap.size + 1, 0, none⟩) (by show w1.heap.size + 1 < W2.heap.size; have := HBL2.out; omega)).trans HE1.out) h1 rfl h2 h3 (HIS2.out.to (HB6.out.mono (by omega)) (Nat.le_refl _)) WA.heap.size
                  have HI9 := Lib.hid i1
                  have HI9 := Lib.hid i1
                  have HST9 := Lib.hid i2
                  have HU := Lib.hid i3
                  have HFZ := Lib.hid i4
                  obtain ⟨u0, q0⟩ : ∃ u, w3.cell? ⟨ag, Bd2.length * 6, none⟩ = some u := i3 0 (by omega)
                  obtain ⟨u1, q1⟩ := i3 1 (by omega)
                  obtain ⟨u2, q2⟩ := i3 2 (by omega)
                  obtain ⟨u3, q3⟩ := i3 3 (by omega)
                  obtain ⟨u4, q4⟩ := i3 4 (by omega)
                  obtain ⟨u5, q5⟩ := i3 5 (by omega)
                  have HAG : Hid (ag ≠ m) := fun e => by
                    subst e
                    rcases h3 with h3 | h3
                    · have h3 : ag = g2 := Option.some.inj h3
                      have := HG2M.out
                      omega
                    · have h3 : ag = v10.heap.size := Option.some.inj h3
                      have := HML.out
                      omega
                  clear h1 h2 h3 i1 i2 i3
                  refine hK.out _ _ HW3.out (fun hHeld9 => ?_)
                  clear hK K
                  try simp only [List.getElem_toArray, List.getElem_cons_zero, List.getElem_cons_succ, Act.put, List.setIfInBounds_toArray, List.set_cons_zero, List.set_cons_succ]
                  have hlt5 : (Bd2.length : Int) < (Bd2.length : Int) + 1 := by omega
                  iterate 1
                    (first
                      | (refine wpAnyH_take (i := 5) (v := ?_) rfl (by kernel_rfl) (by decide +kernel) (by decide +kernel) (fun _ _ _ h => h) (Or.inl ⟨by rfl, ?_⟩) (by assumption) ?_; rotate_left; (focus (intro w0 hSw; obtain ⟨p0, p1, p2, p3, p4, p5⟩ := HS6.out w0 hSw; go_simp; (try with_reducible rfl); done)))
                      )
                  try simp only [List.getElem_toArray, List.getElem_cons_zero, List.getElem_cons_succ, Act.put, List.setIfInBounds_toArray, List.set_cons_zero, List.set_cons_succ]
                  have HQ1 := Lib.hid i5
                  have HQ2 := Lib.hid i6
                  have HQ3 := Lib.hid i7
                  have HPB := Lib.hid (fun y => putAt_heap w3 ag (Bd2.length * 6) y (w1.heap.size + 1) i5.symm)
                  have HST8 := Lib.hid ((Stp.low (n0 := w.heap.size) (B := w1.heap.size + 1) (C := WA.heap.size) (by omega) (by have := HBL2.out; omega) HB6.out).trans HST9.out)
                  have HFIN : Hid (((putAt w3 ag (Bd2.length * 6) ⟨zk, znm, zn, zs, zka, zkn, zkc, zla, zln, zlc⟩).setCell ⟨w1.heap.size + 1, 0, none⟩ (.slice (some ⟨ag, 0, none⟩) (Bd2.length + 1) ac)).heap[m]? = W2.heap[m]?) := (Below.heap_setCell _ ⟨w1.heap.size + 1, 0, none⟩ _ m (by show m ≠ w1.heap.size + 1; have := HG2M.out; omega)).trans ((putAt_heap _ _ _ _ _ (Ne.symm HAG.out)).trans HW3.out)
                  refine wpAnyH_ready (rs := [6, 7]) (by decide +kernel) (by simp) (AllReadyH.cons rfl (fun K hK => ?_) (AllReadyH.cons rfl (fun K hK => ?_) AllReadyH.nil))
                  ·
                    clear i5 i6 i7 hwz hwy hwx
                    go_simp
                    refine hK.out _ (putAt w3 ag (Bd2.length * 6) ⟨zk, znm, zn, zs, zka, zkn, zkc, zla, zln, zlc⟩) (by exact (putAt_heap _ _ _ _ _ (Ne.symm HAG.out)).trans HW3.out) (fun hHeld10 => ?_)
                    clear hK K q0 q1 q2 q3 q4 q5
                    try simp only [List.getElem_toArray, List.getElem_cons_zero, List.getElem_cons_succ, Act.put, List.setIfInBounds_toArray, List.set_cons_zero, List.set_cons_succ]
                    refine wpAnyH_ready (rs := [7]) (by decide +kernel) (by simp) (AllReadyH.cons rfl (fun K hK => ?_) AllReadyH.nil)
                    have i6 := (World.cell?_of_block (a := ⟨w1.heap.size + 1, 0, none⟩) (HPB.out ⟨zk, znm, zn, zs, zka, zkn, zkc, zla, zln, zlc⟩)).trans HQ2.out
                    have i7 := (World.frozen?_of_block (a := ⟨w1.heap.size + 1, 0, none⟩) (HPB.out ⟨zk, znm, zn, zs, zka, zkn, zkc, zla, zln, zlc⟩)).trans HQ3.out
                    obtain ⟨w6, hw6⟩ : ∃ w6, (putAt w3 ag (Bd2.length * 6) ⟨zk, znm, zn, zs, zka, zkn, zkc, zla, zln, zlc⟩) = w6 := ⟨_, rfl⟩
                    rw [hw6] at i6 i7 HFIN HST8 HI9 ⊢
                    go_simp
                    refine hK.out _ _ (by exact HFIN.out) (fun hHeld11 => ?_)
                    clear hK K i6 i7
                    try simp only [List.getElem_toArray, List.getElem_cons_zero, List.getElem_cons_succ, Act.put, List.setIfInBounds_toArray, List.set_cons_zero, List.set_cons_succ]
                    refine wpAnyH_done (by kernel_rfl) ?_ _
                    obtain ⟨s1, s2⟩ := HST8.out
                    refine ⟨s1, s2, ?_, ?_⟩
                    · rw [List.map_append, List.map_singleton, HFP.out, hfz, if_pos rfl]
                      exact HI9.out
                    · rw [List.map_append, List.map_singleton, HPOST.out]
                      exact HBADN.out
                  ·
                    clear q0 q1 q2 q3 q4 q5
                    clear i5 hwz hwy hwx
                    go_simp
                    refine hK.out _ (w3.setCell ⟨w1.heap.size + 1, 0, none⟩ (.slice (some ⟨ag, 0, none⟩) (Bd2.length + 1) ac)) (by exact (Below.heap_setCell _ ⟨w1.heap.size + 1, 0, none⟩ _ m (by show m ≠ w1.heap.size + 1; have := HG2M.out; omega)).trans HW3.out) (fun hHeld10 => ?_)
                    clear hK K i6 i7
                    try simp only [List.getElem_toArray, List.getElem_cons_zero, List.getElem_cons_succ, Act.put, List.setIfInBounds_toArray, List.set_cons_zero, List.set_cons_succ]
                    refine wpAnyH_ready (rs := [6]) (by decide +kernel) (by simp) (AllReadyH.cons rfl (fun K hK => ?_) AllReadyH.nil)
                    have HCM := Lib.hid (putAt_comm w3 ag (Bd2.length * 6) ⟨zk, znm, zn, zs, zka, zkn, zkc, zla, zln, zlc⟩ ⟨w1.heap.size + 1, 0, none⟩ (.slice (some ⟨ag, 0, none⟩) (Bd2.length + 1) ac) HQ1.out)
                    have HAGB : Hid ((w3.setCell ⟨w1.heap.size + 1, 0, none⟩ (.slice (some ⟨ag, 0, none⟩) (Bd2.length + 1) ac)).heap[ag]? = w3.heap[ag]?) := Below.heap_setCell w3 ⟨w1.heap.size + 1, 0, none⟩ _ ag HQ1.out
                    have HKC := Lib.hid (fun j : Nat => World.cell?_of_block (a := ⟨ag, j, none⟩) HAGB.out)
                    have HKF := Lib.hid (fun j : Nat => World.frozen?_of_block (a := ⟨ag, j, none⟩) HAGB.out)
                    have i4 : ∀ j, (w3.setCell ⟨w1.heap.size + 1, 0, none⟩ (.slice (some ⟨ag, 0, none⟩) (Bd2.length + 1) ac)).frozen? ⟨ag, j, none⟩ = false := fun j => (HKF.out j).trans (HFZ.out j)
                    obtain ⟨u0, q0⟩ : ∃ u, w3.cell? ⟨ag, Bd2.length * 6, none⟩ = some u := HU.out 0 (by omega)
                    obtain ⟨u1, q1⟩ := HU.out 1 (by omega)
                    obtain ⟨u2, q2⟩ := HU.out 2 (by omega)
                    obtain ⟨u3, q3⟩ := HU.out 3 (by omega)
                    obtain ⟨u4, q4⟩ := HU.out 4 (by omega)
                    obtain ⟨u5, q5⟩ := HU.out 5 (by omega)
                    have q0 := (HKC.out _).trans q0
                    have q1 := (HKC.out _).trans q1
                    have q2 := (HKC.out _).trans q2
                    have q3 := (HKC.out _).trans q3
                    have q4 := (HKC.out _).trans q4
                    have q5 := (HKC.out _).trans q5
                    rw [← HCM.out] at HFIN HST8 HI9
                    obtain ⟨w6, hw6⟩ : ∃ w6, w3.setCell ⟨w1.heap.size + 1, 0, none⟩ (.slice (some ⟨ag, 0, none⟩) (Bd2.length + 1) ac) = w6 := ⟨_, rfl⟩
                    rw [hw6] at i4 q0 q1 q2 q3 q4 q5 HFIN HST8 HI9 ⊢
                    go_simp
                    refine hK.out _ (putAt w6 ag (Bd2.length * 6) ⟨zk, znm, zn, zs, zka, zkn, zkc, zla, zln, zlc⟩) (by exact HFIN.out) (fun hHeld11 => ?_)
                    clear hK K q0 q1 q2 q3 q4 q5
                    try simp only [List.getElem_toArray, List.getElem_cons_zero, List.getElem_cons_succ, Act.put, List.setIfInBounds_toArray, List.set_cons_zero, List.set_cons_succ]
                    refine wpAnyH_done (by kernel_rfl) ?_ _
                    obtain ⟨s1, s2⟩ := HST8.out
                    refine ⟨s1, s2, ?_, ?_⟩
                    · rw [List.map_append, List.map_singleton, HFP.out, hfz, if_pos rfl]
                      exact HI9.out
                    · rw [List.map_append, List.map_singleton, HPOST.out]
                      exact HBADN.out
                ·
                  go_simp
                  have HB5 := Lib.hid (HB4.out.trans ((below_alloc v4 (.cells #[.int .i64 0, .string ⟨#[]⟩, .int .i64 0, .string ⟨#[]⟩, .slice none 0 0, .slice none 0 0] 25)).mono HB4.out.size))
                  have HI105 := Lib.hid (HI4.out.low (Nat.le_trans HWT.out HB4.out.size) (below_alloc v4 (.cells #[.int .i64 0, .string ⟨#[]⟩, .int .i64 0, .string ⟨#[]⟩, .slice none 0 0, .slice none 0 0] 25)))
                  have HC5 := Lib.hid (at_new v4 ⟨0, ⟨#[]⟩, 0, ⟨#[]⟩, none, 0, 0, none, 0, 0⟩)
                  dsimp only [X.cells] at HC5
                  refine hK.out _ _ (by exact HB5.out.block m HML.out) (fun hHeld5 => ?_)
                  clear hK K
                  generalize v4.alloc (.cells #[.int .i64 0, .string ⟨#[]⟩, .int .i64 0, .string ⟨#[]⟩, .slice none 0 0, .slice none 0 0] 25) = v9 at *
                  try simp only [List.getElem_toArray, List.getElem_cons_zero, List.getElem_cons_succ, Act.put, List.setIfInBounds_toArray, List.set_cons_zero, List.set_cons_succ]
                  refine wpAnyH_ready (rs := [0]) (by decide +kernel) (by simp) (AllReadyH.cons rfl (fun K hK => ?_) AllReadyH.nil)
                  obtain ⟨-, -, -, -, -, -, q1, -⟩ := HCEL.out _ HB5.out
                  go_simp
                  refine hK.out _ _ (by exact HB5.out.block m HML.out) (fun hHeld6 => ?_)
                  clear hK K q1
                  try simp only [List.getElem_toArray, List.getElem_cons_zero, List.getElem_cons_succ, Act.put, List.setIfInBounds_toArray, List.set_cons_zero, List.set_cons_succ]
                  iterate 1
                    (first
                      | (refine wpAnyH_take (i := 2) (v := ?_) rfl (by kernel_rfl) (by decide +kernel) (by decide +kernel) (fun _ _ _ h => h) (Or.inl ⟨by rfl, ?_⟩) (by assumption) ?_; rotate_left; (focus (intro w0 hSw; obtain ⟨p0, p1, p2, p3, p4, p5⟩ := HS6.out w0 hSw; go_simp; (try with_reducible rfl); done)))
                      )
                  try simp only [List.getElem_toArray, List.getElem_cons_zero, List.getElem_cons_succ, Act.put, List.setIfInBounds_toArray, List.set_cons_zero, List.set_cons_succ]
                  refine wpAnyH_ready (rs := [4]) (by decide +kernel) (by simp) (AllReadyH.cons rfl (fun K hK => ?_) AllReadyH.nil)
                  have hwz := HWT.out
                  have hwy := HB5.out.size
                  have hwx := HI2.out.bl.size
                  refine step_appN rfl (.tmp 42) (.tmp 45) rfl w.heap.size w.heap.size (.slice (some ⟨g2, 0, none⟩) Bd2.length bc2) Bd2 rfl (HE2.out.push (HB5.out.mono (by omega)) fun k hk => HB5.out.block k (HE2.out.lt k hk).2) v4.heap.size _ V0 rfl HC5.out (is_V0 _ _) (by have := HLEN2.out.1; omega) (Nat.le_refl _) (by omega) ?_
                  intro av' w3 h1 h2 h3
                  obtain ⟨ag, ac, rfl, hac⟩ : ∃ ag ac, av' = .slice (some ⟨ag, 0, none⟩) (Bd2.length + 1) ac ∧ Bd2.length + 1 ≤ ac := by
                    rcases h1.form with ⟨-, e⟩ | ⟨g, cap, e, h, -⟩
                    · simp at e
                    · rw [List.length_append] at e h
                      exact ⟨g, cap, e, h⟩
                  have HW3 : Hid (w3.heap[m]? = W2.heap[m]?) := (h2.block m (by have := HML.out; omega) (fun e => by have := HG2M.out; simp [Value.ownBlock] at e; omega)).trans (HB5.out.block m HML.out)
                  obtain ⟨i1, i2, i3, i4, i5, i6, i7⟩ := HI105.out.push (by omega) ((HB5.out.cell (p := ⟨w1.heap.size + 1, 0, none⟩) (by show w1.heap.size + 1 < W2.heap.size; have := HBL2.out; omega)).trans HE1.out) h1 rfl h2 h3 (HIS2.out.to (HB5.out.mono (by omega)) (Nat.le_refl _)) WA.heap.size
                  have HI9 := Lib.hid i1
                  have HI9 := Lib.hid i1
                  have HST9 := Lib.hid i2
                  have HU := Lib.hid i3
                  have HFZ := Lib.hid i4
                  obtain ⟨u0, q0⟩ : ∃ u, w3.cell? ⟨ag, Bd2.length * 6, none⟩ = some u := i3 0 (by omega)
                  obtain ⟨u1, q1⟩ := i3 1 (by omega)
                  obtain ⟨u2, q2⟩ := i3 2 (by omega)
                  obtain ⟨u3, q3⟩ := i3 3 (by omega)
                  obtain ⟨u4, q4⟩ := i3 4 (by omega)
                  obtain ⟨u5, q5⟩ := i3 5 (by omega)
                  have HAG : Hid (ag ≠ m) := fun e => by
                    subst e
                    rcases h3 with h3 | h3
                    · have h3 : ag = g2 := Option.some.inj h3
                      have := HG2M.out
                      omega
                    · have h3 : ag = v9.heap.size := Option.some.inj h3
                      have := HML.out
                      omega
                  clear h1 h2 h3 i1 i2 i3
                  refine hK.out _ _ HW3.out (fun hHeld9 => ?_)
                  clear hK K
                  try simp only [List.getElem_toArray, List.getElem_cons_zero, List.getElem_cons_succ, Act.put, List.setIfInBounds_toArray, List.set_cons_zero, List.set_cons_succ]
                  have hlt5 : (Bd2.length : Int) < (Bd2.length : Int) + 1 := by omega
                  iterate 1
                    (first
                      | (refine wpAnyH_take (i := 5) (v := ?_) rfl (by kernel_rfl) (by decide +kernel) (by decide +kernel) (fun _ _ _ h => h) (Or.inl ⟨by rfl, ?_⟩) (by assumption) ?_; rotate_left; (focus (intro w0 hSw; obtain ⟨p0, p1, p2, p3, p4, p5⟩ := HS6.out w0 hSw; go_simp; (try with_reducible rfl); done)))
                      )
                  try simp only [List.getElem_toArray, List.getElem_cons_zero, List.getElem_cons_succ, Act.put, List.setIfInBounds_toArray, List.set_cons_zero, List.set_cons_succ]
                  have HQ1 := Lib.hid i5
                  have HQ2 := Lib.hid i6
                  have HQ3 := Lib.hid i7
                  have HPB := Lib.hid (fun y => putAt_heap w3 ag (Bd2.length * 6) y (w1.heap.size + 1) i5.symm)
                  have HST8 := Lib.hid ((Stp.low (n0 := w.heap.size) (B := w1.heap.size + 1) (C := WA.heap.size) (by omega) (by have := HBL2.out; omega) HB5.out).trans HST9.out)
                  have HFIN : Hid (((putAt w3 ag (Bd2.length * 6) ⟨zk, znm, zn, zs, zka, zkn, zkc, zla, zln, zlc⟩).setCell ⟨w1.heap.size + 1, 0, none⟩ (.slice (some ⟨ag, 0, none⟩) (Bd2.length + 1) ac)).heap[m]? = W2.heap[m]?) := (Below.heap_setCell _ ⟨w1.heap.size + 1, 0, none⟩ _ m (by show m ≠ w1.heap.size + 1; have := HG2M.out; omega)).trans ((putAt_heap _ _ _ _ _ (Ne.symm HAG.out)).trans HW3.out)
                  refine wpAnyH_ready (rs := [6, 7]) (by decide +kernel) (by simp) (AllReadyH.cons rfl (fun K hK => ?_) (AllReadyH.cons rfl (fun K hK => ?_) AllReadyH.nil))
                  ·
                    clear i5 i6 i7 hwz hwy hwx
                    go_simp
                    refine hK.out _ (putAt w3 ag (Bd2.length * 6) ⟨zk, znm, zn, zs, zka, zkn, zkc, zla, zln, zlc⟩) (by exact (putAt_heap _ _ _ _ _ (Ne.symm HAG.out)).trans HW3.out) (fun hHeld10 => ?_)
                    clear hK K q0 q1 q2 q3 q4 q5
                    try simp only [List.getElem_toArray, List.getElem_cons_zero, List.getElem_cons_succ, Act.put, List.setIfInBounds_toArray, List.set_cons_zero, List.set_cons_succ]
                    refine wpAnyH_ready (rs := [7]) (by decide +kernel) (by simp) (AllReadyH.cons rfl (fun K hK => ?_) AllReadyH.nil)
                    have i6 := (World.cell?_of_block (a := ⟨w1.heap.size + 1, 0, none⟩) (HPB.out ⟨zk, znm, zn, zs, zka, zkn, zkc, zla, zln, zlc⟩)).trans HQ2.out
                    have i7 := (World.frozen?_of_block (a := ⟨w1.heap.size + 1, 0, none⟩) (HPB.out ⟨zk, znm, zn, zs, zka, zkn, zkc, zla, zln, zlc⟩)).trans HQ3.out
                    obtain ⟨w6, hw6⟩ : ∃ w6, (putAt w3 ag (Bd2.length * 6) ⟨zk, znm, zn, zs, zka, zkn, zkc, zla, zln, zlc⟩) = w6 := ⟨_, rfl⟩
                    rw [hw6] at i6 i7 HFIN HST8 HI9 ⊢
                    go_simp
                    refine hK.out _ _ (by exact HFIN.out) (fun hHeld11 => ?_)
                    clear hK K i6 i7
                    try simp only [List.getElem_toArray, List.getElem_cons_zero, List.getElem_cons_succ, Act.put, List.setIfInBounds_toArray, List.set_cons_zero, List.set_cons_succ]
                    refine wpAnyH_done (by kernel_rfl) ?_ _
                    obtain ⟨s1, s2⟩ := HST8.out
                    refine ⟨s1, s2, ?_, ?_⟩
                    · rw [List.map_append, List.map_singleton, HFP.out, hfz, if_pos rfl]
                      exact HI9.out
                    · rw [List.map_append, List.map_singleton, HPOST.out]
                      exact HBADN.out
                  ·
                    clear q0 q1 q2 q3 q4 q5
                    clear i5 hwz hwy hwx
                    go_simp
                    refine hK.out _ (w3.setCell ⟨w1.heap.size + 1, 0, none⟩ (.slice (some ⟨ag, 0, none⟩) (Bd2.length + 1) ac)) (by exact (Below.heap_setCell _ ⟨w1.heap.size + 1, 0, none⟩ _ m (by show m ≠ w1.heap.size + 1; have := HG2M.out; omega)).trans HW3.out) (fun hHeld10 => ?_)
                    clear hK K i6 i7
                    try simp only [List.getElem_toArray, List.getElem_cons_zero, List.getElem_cons_succ, Act.put, List.setIfInBounds_toArray, List.set_cons_zero, List.set_cons_succ]
                    refine wpAnyH_ready (rs := [6]) (by decide +kernel) (by simp) (AllReadyH.cons rfl (fun K hK => ?_) AllReadyH.nil)
                    have HCM := Lib.hid (putAt_comm w3 ag (Bd2.length * 6) ⟨zk, znm, zn, zs, zka, zkn, zkc, zla, zln, zlc⟩ ⟨w1.heap.size + 1, 0, none⟩ (.slice (some ⟨ag, 0, none⟩) (Bd2.length + 1) ac) HQ1.out)
                    have HAGB : Hid ((w3.setCell ⟨w1.heap.size + 1, 0, none⟩ (.slice (some ⟨ag, 0, none⟩) (Bd2.length + 1) ac)).heap[ag]? = w3.heap[ag]?) := Below.heap_setCell w3 ⟨w1.heap.size + 1, 0, none⟩ _ ag HQ1.out
                    have HKC := Lib.hid (fun j : Nat => World.cell?_of_block (a := ⟨ag, j, none⟩) HAGB.out)
                    have HKF := Lib.hid (fun j : Nat => World.frozen?_of_block (a := ⟨ag, j, none⟩) HAGB.out)
                    have i4 : ∀ j, (w3.setCell ⟨w1.heap.size + 1, 0, none⟩ (.slice (some ⟨ag, 0, none⟩) (Bd2.length + 1) ac)).frozen? ⟨ag, j, none⟩ = false := fun j => (HKF.out j).trans (HFZ.out j)
                    obtain ⟨u0, q0⟩ : ∃ u, w3.cell? ⟨ag, Bd2.length * 6, none⟩ = some u := HU.out 0 (by omega)
                    obtain ⟨u1, q1⟩ := HU.out 1 (by omega)
                    obtain ⟨u2, q2⟩ := HU.out 2 (by omega)
                    obtain ⟨u3, q3⟩ := HU.out 3 (by omega)
                    obtain ⟨u4, q4⟩ := HU.out 4 (by omega)
                    obtain ⟨u5, q5⟩ := HU.out 5 (by omega)
                    have q0 := (HKC.out _).trans q0
                    have q1 := (HKC.out _).trans q1
                    have q2 := (HKC.out _).trans q2
                    have q3 := (HKC.out _).trans q3
                    have q4 := (HKC.out _).trans q4
                    have q5 := (HKC.out _).trans q5
                    rw [← HCM.out] at HFIN HST8 HI9
                    obtain ⟨w6, hw6⟩ : ∃ w6, w3.setCell ⟨w1.heap.size + 1, 0, none⟩ (.slice (some ⟨ag, 0, none⟩) (Bd2.length + 1) ac) = w6 := ⟨_, rfl⟩
                    rw [hw6] at i4 q0 q1 q2 q3 q4 q5 HFIN HST8 HI9 ⊢
                    go_simp
                    refine hK.out _ (putAt w6 ag (Bd2.length * 6) ⟨zk, znm, zn, zs, zka, zkn, zkc, zla, zln, zlc⟩) (by exact HFIN.out) (fun hHeld11 => ?_)
                    clear hK K q0 q1 q2 q3 q4 q5
                    try simp only [List.getElem_toArray, List.getElem_cons_zero, List.getElem_cons_succ, Act.put, List.setIfInBounds_toArray, List.set_cons_zero, List.set_cons_succ]
                    refine wpAnyH_done (by kernel_rfl) ?_ _
                    obtain ⟨s1, s2⟩ := HST8.out
                    refine ⟨s1, s2, ?_, ?_⟩
                    · rw [List.map_append, List.map_singleton, HFP.out, hfz, if_pos rfl]
                      exact HI9.out
                    · rw [List.map_append, List.map_singleton, HPOST.out]
                      exact HBADN.out
        case done =>
          rintro D xs W' hD hS ⟨hic', hbad⟩ hK
          have hS : xs.map Er.it = wi [] b.l := hS
          rw [hS] at hic' hbad
          have hDl : D < W'.heap.size := (Array.getElem?_eq_some_iff.1 hK).1
          have hEB : early b = (fns b.l).any early := by rw [early_eq, hbad, Bool.false_or]
          have hfs := fns_size b.l
          have HNX := Lib.hid (hic'.next (D := D) (by omega) hDl (by omega) hK)
          have i2 := hic'.ic
          have i3 := hic'.if'
          have hi1 : (i : Int) + 1 ≤ 4194304 := by have := HLT.out; omega
          have HE2 : Hid (early v = ((Bd ++ fns b.l).drop (i + 1)).any early) := by
            show _ = _
            rw [HDR.out, List.any_append, HEAR.out, hEB, Bool.or_comm]
          have HS2 : Hid (i + 1 + szs ((Bd ++ fns b.l).drop (i + 1)) ≤ v.size) := by
            show _ ≤ _
            rw [HDR.out, szs_append]
            have h1 := HSZ.out
            rw [size_eq b] at h1
            omega
          have HQ2 : Hid (szs ((Bd ++ fns b.l).drop (i + 1)) < gk) := by
            show _ < _
            rw [HDR.out, szs_append]
            have h1 := HQ.out
            rw [size_eq b] at h1
            omega
          have HO2 : Hid (∀ u ∈ Bd ++ fns b.l, u.ok = true ∧ u.bulk ≤ 4194304) := fun u hu => by
            rcases List.mem_append.1 hu with hu | hu
            · exact hoks.out u hu
            · obtain ⟨x, hx, rfl⟩ := List.mem_map.1 hu
              have hxm := (List.mem_filter.1 hx).1
              have hok := HOB.out.1
              rw [ok_eq, Bool.and_eq_true] at hok
              refine ⟨(ok_wi hok.2 hxm).1, ?_⟩
              have h1 := bulk_wi hxm
              have h2 := HBX.out
              omega
          clear hic' hbad hS hEB hfs hbA hzA hcA hrA hls hws hn1 hn2 hD hDl
          gi_wp2_with fail
          refine Handed.intro (szs ((Bd ++ fns b.l).drop (i + 1))) HQ2.out (hJ _ _ _ ?_)
          (repeat apply Exists.intro)
          refine ⟨rfl, i + 1, Bd ++ fns b.l, HNX, HE2, HS2, HO2, Lib.hid (Nat.le_refl _), Lib.hid ?_⟩
          rw [List.length_append]
          have := HLT.out
          omega
        case stop =>
          rintro D c pre W' hD ⟨r, hr⟩ ⟨rfl, hbad, hr9, hbl', hmk⟩ hK
          have hEB : early v = true := by
            rw [HEAR.out, early_eq, ← hr, bads_append, hbad]
            rfl
          have HV9 : Hid (cs = 90) := by
            show cs = 90
            rw [HV.out, hEB]
            rfl
          have HB9 := Lib.hid hbl'
          have HM9 := Lib.hid hmk
          have HR9 := Lib.hid hr9
          have HK9 := Lib.hid hK
          have HD9 : Hid (W.heap.size ≤ D ∧ w.heap.size + 2 ≤ D) := ⟨by omega, by omega⟩
          clear hEB hbad hbl' hmk hr9 hr hK hbA hzA hcA hrA hls hws hn1 hn2 hD
          gi_wp2
          refine leaves_marks (B := w.heap.size + 2) (D + 1) _ _ ⟨D, rfl, HD9.out.2, Nat.lt_succ_self _, HK9.out, HM9.out.mono HD9.out.1⟩ fun W'' hW'' => ?_
          have r4 := (hW''.cell (p := ⟨w.heap.size + 1, 0, none⟩) (by show w.heap.size + 1 < w.heap.size + 2; omega)).trans HR9.out
          exact ⟨.int .i64 90, by simp [results, Try.f10, go_sem, r4], by rw [HV9.out], HB9.out.trans (hW''.mono (by omega))⟩
      · obtain ⟨bA, bc, rfl, hbc, hbrow⟩ := b2.row hw1
        have hie : i = Bd.length := by have := hil.out; omega
        have hev : early v = false := by
          rw [hear.out, hie, List.drop_length]
          rfl
        have HV0 : Hid (cs = 0) := by
          show cs = 0
          rw [HV.out, hev]
          rfl
        have hdl : decide ((i : Int) < (Bd.length : Int)) = false := by rw [decide_eq_false_iff_not]; omega
        have r1 := hic.out.rc
        have r2 := hic.out.rf
        have HB := Lib.hid hic.out.bl
        have HM := Lib.hid hic.out.mks
        clear hie hev hear hsz hoks hq hil hbl b2 b3 b4 b5 hbrow hbc hn1 hn2 hw1 hic
        gi_wp2_with fail
        have r3 := World.cell?_setCell_same W ⟨w.heap.size + 1, 0, none⟩ (.int .i64 0) r1
        refine leaves_marks (B := w.heap.size + 2) _ _ _ (HM.out.to fun D _ _ hD => (KeepsOthers.setCell W ⟨w.heap.size + 1, 0, none⟩ (.int .i64 0)).same D _ hD rfl) fun W' hW' => ?_
        have r4 := (hW'.cell (p := ⟨w.heap.size + 1, 0, none⟩) (by show w.heap.size + 1 < w.heap.size + 2; omega)).trans r3
        exact ⟨.int .i64 0, by simp [results, Try.f10, go_sem, r4], by rw [HV0.out], (HB.out.setCell (p := ⟨w.heap.size + 1, 0, none⟩) (by show w.heap.size ≤ w.heap.size + 1; omega) _).trans (hW'.mono (by omega))⟩
  · have hne : (ch == 0) = false := by rw [beq_eq_false_iff_ne]; exact hc
    have hne2 : (ch != 0) = true := bne_iff_ne.2 hc
    have HV : Hid (cs = ch) := by
      show cs = ch
      rw [HCS.out, if_neg hc]
    have HB := Lib.hid hb01
    clear hc hb0 hz0 hat0 hr0 hf0 hW0 hb1 hb01 hat1 hz1 HS HC HCS c0 c1 c2 c3 c4 c5
    gi_wp2_with fail
    refine ⟨.int .i64 ch, by simp [results, Try.f10, go_sem, hr1], by rw [HV.out], HB.out.setCell (p := ⟨w.heap.size + 1, 0, none⟩) (by show w.heap.size ≤ w.heap.size + 1; omega) _⟩
end Go.Proofs.Ytgehgccgologpaa.Z
