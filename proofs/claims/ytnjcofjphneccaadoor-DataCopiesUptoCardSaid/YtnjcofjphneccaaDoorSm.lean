/-
  Same, by contract.
-/
import Derived.Test.YtnjcofjphneccaaDoorPop
import Derived.Deep.LoopGhost
namespace Go.Proofs.YtnjcofjphneccaaDoor
open Go.RowKit

theorem two_first {w : World} {F : Nat → Prop} {p5 p6 g1 g2 : Nat} {x y : X} {a b : V} (z5 : Zd w p5 (.slice (some ⟨g1 + 1, 0, none⟩) 1 1)) (z6 : Zd w p6 (.slice (some ⟨g2 + 1, 0, none⟩) 1 1)) (o1 : Opn w g1 x) (o2 : Opn w g2 y)
    (hg : g1 + 1 < g2) (h5 : ¬ F p5) (h6 : ¬ F p6) (h1 : ¬ F (g1 + 1)) (h2 : ¬ F (g2 + 1)) :
    Two w F p5 ((fsts [(first g1 a, first g2 b)]).map Pl.pr) p6 ((snds [(first g1 a, first g2 b)]).map Pl.pr) := by
  refine ⟨⟨_, z6.cell, z6.free, z6.lt, h6, o2.own, fun k hk => ?_⟩, _, z5.cell, z5.free, z5.lt, ?_, o1.own, fun k hk => ?_⟩
  · have : g2 + 1 = k := by simpa [Value.ownBlock] using hk
    subst this
    exact ⟨(o2.ne z6).2.symm, h2⟩
  · rintro (h | rfl | ⟨v, hv, ho⟩)
    · exact h5 h
    · have := z5.symm.trans z6
      simp at this
      try omega
    · rw [z6.cell] at hv
      cases hv
      have : g2 + 1 = p5 := by simpa [Value.ownBlock] using ho
      exact (o2.ne z5).2 this.symm
  · have : g1 + 1 = k := by simpa [Value.ownBlock] using hk
    subst this
    refine ⟨(o1.ne z5).2.symm, ?_⟩
    rintro (h | h | ⟨v, hv, ho⟩)
    · exact h1 h
    · exact (o1.ne z6).2 h.symm
    · rw [z6.cell] at hv
      cases hv
      have : g2 + 1 = g1 + 1 := by simpa [Value.ownBlock] using ho
      omega
theorem rowx_first {w0 w : World} {F : Nat → Prop} {g B : Nat} {x : X} {a : V} (h : Is w0 a x) (hb : Below w0.heap.size w0 w) (hB : w0.heap.size ≤ B) (ho : Opn w g x) (hg : F g) : RowX w F B (some ⟨g, 0, none⟩) [a] :=
  ⟨[(a, x)], rfl, .inr ⟨g, 0, rfl, hg, fun i hi => by
    have : i = 0 := by simp at hi; exact hi
    subst this
    exact at_of_block ho.1⟩, fun p hp => by
    simp at hp
    subst hp
    exact IsB.to hb hB _ _ h⟩

set_option maxRecDepth 8000 in
set_option maxHeartbeats 1000000 in
theorem same_any (a b : V) (x y : X) (w : World) (h : Is w a x) (h' : Is w b y) (hbk : a.bulk ≤ 4194304) :
    Calls Tryd.prog 15 #[x.v, y.v] w fun e w' => e = .returned (.bool (same a b)) ∧ Below w.heap.size w w' := by
  have HX := Lib.hid h
  have HY := Lib.hid h'
  have HW1 := Lib.hid (walkOf_opn x)
  have HW2 := Lib.hid (walkOf_opn y)
  obtain ⟨W0, hW0⟩ : ∃ W0, W0 = (w.alloc (.cells x.cells 25)).alloc (.cells y.cells 25) := ⟨_, rfl⟩
  obtain ⟨β, hβ⟩ : ∃ β, β = w.heap.size := ⟨_, rfl⟩
  obtain ⟨γ, hγ⟩ : ∃ γ, γ = w.heap.size + 1 := ⟨_, rfl⟩
  have HB0 : Hid (Below w.heap.size w W0) := by
    subst hW0
    exact (below_alloc w _).trans ((below_alloc _ _).mono (by simp))
  have HX0 : Hid (At W0 β 0 x) := by
    subst hW0 hβ
    exact ⟨by simp [X.cells], by simp [X.cells], by simp [X.cells], by simp [X.cells], by simp [X.cells]⟩
  have HY0 : Hid (At W0 γ 0 y) := by
    subst hW0 hγ
    exact ⟨by simp [X.cells], by simp [X.cells], by simp [X.cells], by simp [X.cells], by simp [X.cells]⟩
  have hβ1 : β < W0.heap.size := by subst hW0; simp; omega
  have hγ1 : γ < W0.heap.size := by subst hW0; simp; omega
  have HS0 : Hid (∀ w', Below W0.heap.size W0 w' → At w' β 0 x ∧ At w' γ 0 y) := fun w' hb => ⟨HX0.out.below hβ1 hb, HY0.out.below hγ1 hb⟩
  obtain ⟨x0, hx0⟩ : ∃ x0, x0 = x := ⟨_, rfl⟩
  obtain ⟨y0, hy0⟩ : ∃ y0, y0 = y := ⟨_, rfl⟩
  rw [← hx0] at HW1 HX
  rw [← hy0] at HW2 HY
  obtain ⟨k, n, s, ka, kn, kc, la, ln, lc⟩ := x
  obtain ⟨k', n', s', ka', kn', kc', la', ln', lc'⟩ := y
  rw [show x0.v = Value.agg #[.int .i64 k, .int .i64 n, .string s, .slice ka kn kc, .slice la ln lc] by rw [hx0]; rfl] at HW1
  rw [show y0.v = Value.agg #[.int .i64 k', .int .i64 n', .string s', .slice ka' kn' kc', .slice la' ln' lc'] by rw [hy0]; rfl] at HW2
  simp only [X.v, X.cells] at *
  obtain ⟨⟨c0, c1, c2, c3, c4⟩, ⟨d0, d1, d2, d3, d4⟩⟩ := HS0.out W0 (Below.refl _ _)
  clear h h'
  have HX1 : Hid (x0.cells = #[.int .i64 k, .int .i64 n, .string s, .slice ka kn kc, .slice la ln lc]) := by subst hx0; exact rfl
  have HY1 : Hid (y0.cells = #[.int .i64 k', .int .i64 n', .string s', .slice ka' kn' kc', .slice la' ln' lc']) := by subst hy0; exact rfl
  clear hx0 hy0
  go_enter Tryd.func15, Tryd.ntmps15
  go_upto_region 1 with (fail)
  rw [← hγ, ← hβ, ← hW0]
  clear hW0 hβ hγ
  go_cut [5, 6] (fun s5 s6 wx => ∃ p5 p6 g1 g2 : Nat, s5 = .pointer (some ⟨p5, 0, none⟩) ∧ s6 = .pointer (some ⟨p6, 0, none⟩) ∧ Fin W0 x0 y0 wx p5 p6 g1 g2)
  case first =>
    refine wp_region_any (by kernel_rfl) ?_
    refine wpAny_inv (fun l a w => ∃ b0 b1 b2 b3 b4 b5 b6 b7 : Bool, ∃ u5 u6 u9 u10 u11 u12 : Value, l = #[b0, b1, b2, b3, b4, b5, b6, b7] ∧
        a = { tmps := #[.agg #[.int .i64 k, .int .i64 n, .string s, .slice ka kn kc, .slice la ln lc], .agg #[.int .i64 k', .int .i64 n', .string s', .slice ka' kn' kc', .slice la' ln' lc'],
            .pointer (some ⟨β, 0, none⟩), .pointer (some ⟨γ, 0, none⟩), .bool false, u5, u6, undef, undef, u9, u10, u11, u12, undef, undef, undef, undef,
            undef, undef, undef, undef, undef, undef, undef, undef, undef, undef, undef, undef, undef], defers := [] } ∧
        Mid W0 x0 y0 (.agg #[.int .i64 k, .int .i64 n, .string s, .slice ka kn kc, .slice la ln lc]) (.agg #[.int .i64 k', .int .i64 n', .string s', .slice ka' kn' kc', .slice la' ln' lc']) w b0 b1 b2 b3 b4 b5 b6 b7 u5 u6 u9 u10 u11 u12) ?_ ?_ _ _ _ _ (by decide) ?_
    · rintro l a wx ⟨b0, b1, b2, b3, b4, b5, b6, b7, u5, u6, u9, u10, u11, u12, rfl, rfl, hm⟩ hr
      have h0 := all_of hr 0 (by decide) (by simp)
      simp at h0
      subst h0
      have h1 := all_of hr 1 (by decide) (by simp [Region.binds])
      simp at h1
      subst h1
      have h2 := all_of hr 2 (by decide) (by simp [Region.binds])
      simp at h2
      subst h2
      have h3 := all_of hr 3 (by decide) (by simp [Region.binds])
      simp at h3
      subst h3
      have h4 := all_of hr 4 (by decide) (by simp [Region.binds])
      simp at h4
      subst h4
      have h5 := all_of hr 5 (by decide) (by simp [Region.binds])
      simp at h5
      subst h5
      have h6 := all_of hr 6 (by decide) (by simp [Region.binds])
      simp at h6
      subst h6
      have h7 := all_of hr 7 (by decide) (by simp [Region.binds])
      simp at h7
      subst h7
      obtain ⟨g1, g2, e1, e2, e3, e4, e5, e6⟩ := hm.c3 rfl
      obtain ⟨p5, f1, f2, f3⟩ := hm.a4 rfl
      obtain ⟨p6, f4, f5, f6⟩ := hm.a5 rfl
      subst e1 e2 f1 f4
      go_wp2_with fail
      go_meet
      exact ⟨p5, p6, g1, g2, rfl, rfl, f3, f6, e5, e6, e3, e4, f2, f5, hm.bel⟩
    · rintro l a wx i ⟨b0, b1, b2, b3, b4, b5, b6, b7, u5, u6, u9, u10, u11, u12, rfl, rfl, hm⟩ hr K hK
      obtain ⟨hi, hb, ho⟩ := ready_of hr
      clear hr
      have hS := HS0.out wx hm.bel
      obtain ⟨⟨c0, c1, c2, c3, c4⟩, ⟨d0, d1, d2, d3, d4⟩⟩ := hS
      rcases i with _ | _ | _ | _ | _ | _ | _ | _ | i
      · clear ho
        refine wpOp_go rfl ?_
        go_simp
        exact hK _ _ ⟨true, b1, b2, b3, b4, b5, b6, b7, u5, u6, _, u10, u11, u12, rfl, rfl, hm.load0⟩
      · replace ho := ho _ rfl
        simp [Region.binds] at ho hb
        subst ho hb
        have h3 : b3 = false := by
          rcases b3 with _ | _
          · rfl
          · exact nomatch (hm.d3 rfl).1
        subst h3
        have h9 := hm.l0 rfl
        subst h9
        refine wpOp_go rfl ?_
        go_simp
        refine (HW1.out _).mono ?_
        rintro e w1 ⟨g1, rfl, hg1, ho1, hb1⟩
        exact hK _ _ ⟨true, true, b2, false, b4, b5, b6, b7, u5, u6, _, _, u11, u12, rfl, rfl, hm.call1 hg1 ho1 hb1⟩
      · clear ho
        refine wpOp_go rfl ?_
        go_simp
        exact hK _ _ ⟨b0, b1, true, b3, b4, b5, b6, b7, u5, u6, u9, u10, _, u12, rfl, rfl, hm.load2⟩
      · replace ho := ho _ rfl
        simp [Region.binds] at ho hb
        obtain ⟨ho1, ho2⟩ := ho
        subst ho1 ho2 hb
        have h9 := hm.l2 rfl
        subst h9
        refine wpOp_go rfl ?_
        go_simp
        refine (HW2.out _).mono ?_
        rintro e w1 ⟨g1, rfl, hg1, ho1, hb1⟩
        exact hK _ _ ⟨b0, true, true, true, b4, b5, b6, b7, u5, u6, u9, u10, _, _, rfl, rfl, hm.call3 hg1 ho1 hb1⟩
      · clear ho
        simp at hb
        subst hb
        refine wpOp_go rfl ?_
        go_simp
        exact hK _ _ ⟨b0, b1, b2, b3, true, b5, b6, b7, _, u6, u9, u10, u11, u12, rfl, rfl, hm.alloc4⟩
      · clear ho
        simp at hb
        subst hb
        refine wpOp_go rfl ?_
        go_simp
        exact hK _ _ ⟨b0, b1, b2, b3, b4, true, b6, b7, u5, _, u9, u10, u11, u12, rfl, rfl, hm.alloc5⟩
      · replace ho := ho _ rfl
        simp [Region.binds] at ho hb
        obtain ⟨h4, h1, h3, h0, _, _, _, h5⟩ := ho
        subst h4 h1 h3 h0 h5 hb
        have h2 := (hm.d3 rfl).2
        subst h2
        have h7 : b7 = false := by
          rcases b7 with _ | _
          · rfl
          · exact nomatch hm.d7 rfl
        subst h7
        obtain ⟨p, f1, f2, f3⟩ := hm.a4 rfl
        obtain ⟨g, f4, _, _⟩ := hm.c1 rfl
        subst f4
        have z1 := f3.cell
        have z2 := f3.free
        subst f1
        refine wpOp_go rfl ?_
        go_simp
        exact hK _ _ ⟨true, true, true, true, true, true, true, false, _, u6, u9, _, u11, u12, rfl, rfl, hm.store6 rfl⟩
      · replace ho := ho _ rfl
        simp [Region.binds] at ho hb
        obtain ⟨h5, h3, h6, h0, h1, h2, _, h4, _, _⟩ := ho
        subst h4 h1 h3 h0 h5 h2 h6 hb
        obtain ⟨p, f1, f2, f3⟩ := hm.a5 rfl
        obtain ⟨_, g, f9, f4, f10, f11, f12, f13⟩ := hm.c3 rfl
        clear f9 f10 f11 f12 f13
        subst f4
        have z1 := f3.cell
        have z2 := f3.free
        subst f1
        refine wpOp_go rfl ?_
        go_simp
        exact hK _ _ ⟨true, true, true, true, true, true, true, true, u5, _, u9, _, u11, _, rfl, rfl, hm.store7 rfl⟩
      · simp at hi
        omega
    · refine ⟨false, false, false, false, false, false, false, false, undef, undef, undef, undef, undef, undef, rfl, rfl, ?_⟩
      exact ⟨(Below.refl _ _).drew, nofun, nofun, nofun, nofun, nofun, nofun, nofun, nofun, nofun, nofun⟩
  case rest =>
    obtain ⟨p5, p6, g1, g2, rfl, rfl, z5, z6, o1, o2, hg1, hg12, hp5, hp6, hbw⟩ := hcut
    have hB2 : Below w.heap.size w wc := HB0.out.trans (hbw.mono HB0.out.size)
    obtain ⟨F, hFd⟩ : ∃ F : Nat → Prop, F = fun k => k < W0.heap.size ∨ k = g1 ∨ k = g2 := ⟨_, rfl⟩
    have hF0 : Hid (∀ k, k < W0.heap.size → F k) := by subst hFd; exact fun k hk => .inl hk
    have hF1 : Hid (∀ k, F k → k < wc.heap.size) := by
      subst hFd
      have := hbw.size
      have := o1.lt
      have := o2.lt
      rintro k (h | rfl | rfl) <;> omega
    have hT : Two wc F p5 ((fsts [(first g1 a, first g2 b)]).map Pl.pr) p6 ((snds [(first g1 a, first g2 b)]).map Pl.pr) := by
      subst hFd
      refine two_first z5 z6 o1 o2 hg12 ?_ ?_ ?_ ?_
      · rintro (h | h | h)
        · omega
        · exact (o1.ne z5).1 h
        · exact (o2.ne z5).1 h
      · rintro (h | h | h)
        · omega
        · exact (o1.ne z6).1 h
        · exact (o2.ne z6).1 h
      · rintro (h | h | h) <;> omega
      · rintro (h | h | h) <;> omega
    have hP : Hid (Pairs wc F W0.heap.size [(first g1 a, first g2 b)]) := by
      intro z hz
      simp at hz
      subst hz
      exact ⟨rowx_first HX.out hB2 HB0.out.size o1 (by subst hFd; exact .inr (.inl rfl)), rowx_first HY.out hB2 HB0.out.size o2 (by subst hFd; exact .inr (.inr rfl)), by simp [first]⟩
    have hq : Hid (a = b ↔ ∀ y ∈ [(first g1 a, first g2 b)], y.1.l = y.2.l) := by
      refine Lib.hid ?_
      simp [first]
    have hload0 : sumL V.bulks (fsts [(first g1 a, first g2 b)]) ≤ a.bulk := by simp [sumL, first, V.bulks, fsts]
    have HB3 := Lib.hid hB2
    have HT := Lib.hid hT
    have HW : Hid (W0.heap.size ≤ wc.heap.size) := hbw.size
    clear z5 z6 o1 o2 hbw hFd hB2 hT
    go_wp2_with fail
    go_loopg [5, 6] a.bulk (fun q s5 s6 wr => ∃ (b1 b2 : Nat) (st : List PP), s5 = ptr b1 ∧ s6 = ptr b2 ∧ Two wr F b1 ((fsts st).map Pl.pr) b2 ((snds st).map Pl.pr) ∧ Fr F wc wr ∧ Hid (Pairs wc F W0.heap.size st) ∧
      Hid (a = b ↔ ∀ y ∈ st, y.1.l = y.2.l) ∧ sumL V.bulks (fsts st) ≤ q ∧ q ≤ 4194304 ∧ Hid (∀ y ∈ st, y.1.d + q ≤ 4194305 ∧ y.2.d + q ≤ 4194305))
    case atStart =>
      refine ⟨p5, p6, _, rfl, rfl, HT.out, Fr.refl _ _, hP, hq, hload0, hbk, ?_⟩
      intro y hy
      simp at hy
      subst hy
      show 1 + a.bulk ≤ _ ∧ 1 + a.bulk ≤ _
      omega
    case round =>
      obtain ⟨b1, b2, st, rfl, rfl, htwo, hfr, hpr, heq, hload, hqq, hdep⟩ := hrel
      by_cases h0 : st = []
      · subst h0
        obtain ⟨A, c, hc⟩ := htwo.fst.open
        have HV : Hid (same a b = true) := same_yes (heq.out.2 (by simp))
        have HB4 := Lib.hid (HB3.out.trans (hfr.mono fun k (hk : k < w.heap.size) => hF0.out k (Nat.lt_of_lt_of_le hk HB0.out.size)).below)
        clear htwo heq
        unfold ptr
        go_wp2_with fail
        go_ret
        exact ⟨by rw [HV.out]; rfl, HB4.out⟩
      · obtain ⟨st', z, rfl⟩ := snoc_of st h0
        obtain ⟨A, c, hc⟩ := htwo.fst.open
        have e1 : (fsts (st' ++ [z])).map Pl.pr = (fsts st').map Pl.pr ++ [z.1.pr] := by simp [fsts]
        have e2 : (snds (st' ++ [z])).map Pl.pr = (snds st').map Pl.pr ++ [z.2.pr] := by simp [snds]
        rw [e1, e2] at htwo
        rw [e1] at hc
        have hlen : ((fsts st').map Pl.pr ++ [z.1.pr]).length = st'.length + 1 := by simp [fsts]
        rw [hlen] at hc
        have HX := Lib.hid fun hl => pairs_round hF0.out hpr.out hl heq.out hload hqq hdep.out
        have hst' : st'.length ≤ 4194304 := by
          have := len_load (st := fsts (st' ++ [z])) fun p hp => by
            obtain ⟨y, hy, rfl⟩ := List.mem_map.1 hp
            exact (hpr.out y hy).2.2
          simp [fsts] at this
          simp [fsts] at hload
          omega
        have hz := hpr.out z (by simp)
        have hdz := hdep.out z (by simp)
        have hzb : V.bulks z.1.l ≤ 4194304 := by
          have : sumL V.bulks (fsts (st' ++ [z])) = sumL V.bulks (fsts st') + V.bulks z.1.l := by
            unfold fsts
            rw [List.map_append, sumL_append]
            simp [sumL]
          omega
        have HFr := Lib.hid hF1.out
        have HL1 := Lib.hid (leave_two F b1 b2 ((fsts st').map Pl.pr) ((snds st').map Pl.pr ++ [z.2.pr]) z.1.pr wr (fun k hk => Nat.lt_of_lt_of_le (hF1.out k hk) hfr.size) htwo (by simp [fsts]; exact hst'))
        have HL2 := Lib.hid fun w' (hsz : wc.heap.size ≤ w'.heap.size) (h : Two w' F b1 ((fsts st').map Pl.pr) b2 ((snds st').map Pl.pr ++ [z.2.pr])) => leave_two2 F b1 b2 ((fsts st').map Pl.pr) ((snds st').map Pl.pr) z.2.pr w' (fun k hk => Nat.lt_of_lt_of_le (hF1.out k hk) hsz) h (by simp [snds]; exact hst')
        have HQ := Lib.hid fun w' (h : Fr F wc w') => equalFunc_any z.1.A z.2.A z.1.l z.2.l z.1.c z.2.c w' (hz.1.row h hF1.out hF0.out HW.out) (hz.2.1.row h hF1.out hF0.out HW.out) hzb
        have HN : Hid (likes z.1.l z.2.l = false → same a b = false) := fun e => same_no fun hab => by
          have := heq.out.1 hab z (by simp)
          rw [this] at e
          rw [likes_all rfl fun i h1 h2 => like_of_eq rfl] at e
          cases e
        have hbl := HB3.out
        clear htwo hz hzb heq hload hpr hdep hst' e1 e2 hlen h0
        unfold ptr
        go_wp2_with fail
        refine HL1.out.mono ?_
        rintro e wl ⟨rfl, ht1, hfr1⟩
        have hfr2 := hfr.trans hfr1
        unfold Pl.pr Pr.v
        go_wp2_with fail
        refine (HL2.out _ hfr2.size ht1).mono ?_
        rintro e wm ⟨rfl, ht2, hfr3⟩
        have hfr4 := hfr2.trans hfr3
        clear hfr1 hfr2 hfr3 ht1 hfr hc
        obtain ⟨wn, hwn⟩ : ∃ wn, wn = (wm.alloc (.cells #[.slice z.1.A z.1.l.length z.1.c, .int .i64 z.1.d] 44)).alloc (.cells #[.slice z.2.A z.2.l.length z.2.c, .int .i64 z.2.d] 44) := ⟨_, rfl⟩
        obtain ⟨p7, hp7⟩ : ∃ p7, p7 = wm.heap.size := ⟨_, rfl⟩
        obtain ⟨p8, hp8⟩ : ∃ p8, p8 = wm.heap.size + 1 := ⟨_, rfl⟩
        have hFm : ∀ k, F k → k < wm.heap.size := fun k hk => Nat.lt_of_lt_of_le (HFr.out k hk) hfr4.size
        obtain ⟨G, hG⟩ : ∃ G : Nat → Prop, G = fun k => (F k ∨ k = p7) ∨ k = p8 := ⟨_, rfl⟩
        have hfr5 : Hid (Fr F wc wn) := by
          subst hwn
          exact (hfr4.alloc HFr.out _).alloc HFr.out _
        have HT5 : Hid (Two wn G b1 ((fsts st').map Pl.pr) b2 ((snds st').map Pl.pr)) := by
          subst hG hwn hp7 hp8
          have := (ht2.new hFm (.cells #[.slice z.1.A z.1.l.length z.1.c, .int .i64 z.1.d] 44)).new (fun k hk => by
            rcases hk with hk | rfl
            · simp
              have := hFm k hk
              omega
            · simp) (.cells #[.slice z.2.A z.2.l.length z.2.c, .int .i64 z.2.d] 44)
          refine Lib.hid ?_
          simpa using this
        have HGn : Hid (∀ k, G k → k < wn.heap.size) := by
          subst hG hwn hp7 hp8
          rintro k ((hk | rfl) | rfl)
          · have := hFm k hk
            simp
            omega
          · simp
            omega
          · simp
        have HFG : Hid (∀ k, F k → G k) := by
          subst hG
          exact fun k hk => .inl (.inl hk)
        have hG7 : Hid (G p7) := by subst hG; exact .inl (.inr rfl)
        have hG8 : Hid (G p8) := by subst hG; exact .inr rfl
        have m0 : Hid (wn.cell? ⟨p7, 0, none⟩ = some (.slice z.1.A z.1.l.length z.1.c)) := by subst hwn hp7; exact Lib.hid (by simp)
        have m1 : Hid (wn.cell? ⟨p7, 1, none⟩ = some (.int .i64 z.1.d)) := by subst hwn hp7; exact Lib.hid (by simp)
        have n0 : Hid (wn.cell? ⟨p8, 0, none⟩ = some (.slice z.2.A z.2.l.length z.2.c)) := by subst hwn hp8; exact Lib.hid (by simp)
        have n1 : Hid (wn.cell? ⟨p8, 1, none⟩ = some (.int .i64 z.2.d)) := by subst hwn hp8; exact Lib.hid (by simp)
        unfold Pl.pr Pr.v
        go_wp2_with fail
        rw [← hwn, ← hp8, ← hp7]
        clear hwn hp7 hp8 hfr4 ht2 hFm hG
        refine (HQ.out _ hfr5.out).mono ?_
        rintro e wq ⟨rfl, hbq⟩
        have hfrq := Lib.hid ((Fr.refl G wn).trans (Fr.of hbq HGn.out))
        have hfr6 := Lib.hid (hfr5.out.trans (hfrq.out.mono HFG.out))
        have hT6 := Lib.hid (HT5.out.below HGn.out hbq)
        have HGq : Hid (∀ k, G k → k < wq.heap.size) := fun k hk => Nat.lt_of_lt_of_le (HGn.out k hk) hbq.size
        clear hbq
        obtain ⟨L, hL⟩ : ∃ L, L = likes z.1.l z.2.l := ⟨_, rfl⟩
        rw [← hL] at HX HN
        rw [← hL]
        clear hL
        cases L with
        | false =>
          have HV := Lib.hid (HN.out rfl)
          have HB4 := Lib.hid (HB3.out.trans (hfr6.out.mono fun k (hk : k < w.heap.size) => hF0.out k (Nat.lt_of_lt_of_le hk HB0.out.size)).below)
          go_wp2_with fail
          go_ret
          exact ⟨by rw [HV.out]; rfl, HB4.out⟩
        | true =>
          obtain ⟨xs, ys, kp, x1, y1, x2, y2, x3, y3, hgk, x4, y4, h5, h6, h7, h8⟩ := HX.out rfl
          have c0 : wq.cell? ⟨p7, 0, none⟩ = some (.slice z.1.A z.1.l.length z.1.c) := (hfrq.out.cell (p := ⟨p7, 0, none⟩) hG7.out).trans m0.out
          have c1 : wq.cell? ⟨p7, 1, none⟩ = some (.int .i64 z.1.d) := (hfrq.out.cell (p := ⟨p7, 1, none⟩) hG7.out).trans m1.out
          have d0 : wq.cell? ⟨p8, 0, none⟩ = some (.slice z.2.A z.2.l.length z.2.c) := (hfrq.out.cell (p := ⟨p8, 0, none⟩) hG8.out).trans n0.out
          have d1 : wq.cell? ⟨p8, 1, none⟩ = some (.int .i64 z.2.d) := (hfrq.out.cell (p := ⟨p8, 1, none⟩) hG8.out).trans n1.out
          have HE1 := Lib.hid (enter_two G b1 b2 ((fsts st').map Pl.pr) ((snds st').map Pl.pr) z.1.A xs z.1.c z.1.d wq HGq.out hT6.out (x1.fr HFG.out hfr6.out) (by rw [x2]; simp [fsts]; exact x3) (by omega) (by omega))
          have HE2 := Lib.hid fun we (h : Two we G b1 ((fsts st').map Pl.pr ++ kids z.1.d xs) b2 ((snds st').map Pl.pr)) (hf : Fr G wq we) => enter_two2 G b1 b2 ((fsts st').map Pl.pr ++ kids z.1.d xs) ((snds st').map Pl.pr) z.2.A ys z.2.c z.2.d we (fun k hk => Nat.lt_of_lt_of_le (HGq.out k hk) hf.size) h ((y1.fr HFG.out hfr6.out).fr (fun _ h => h) hf) (by rw [y2]; simp [snds]; exact y3) (by omega) (by omega)
          rw [x2] at HE1
          rw [y2] at HE2
          have HK1 := Lib.hid x4
          have HK2 := Lib.hid y4
          have HH := Lib.hid h5
          have HH6 := Lib.hid h6
          have HH8 := Lib.hid h8
          clear x1 y1 x2 y2 x3 y3 x4 y4 h5 h6 h8 HX HN m0 m1 n0 n1 hT6 HT5
          go_wp2_with fail
          refine HE1.out.mono ?_
          rintro e we ⟨rfl, ht7, hfr7⟩
          clear c0 c1
          replace d0 : we.cell? ⟨p8, 0, none⟩ = some (.slice z.2.A z.2.l.length z.2.c) := (hfr7.cell (p := ⟨p8, 0, none⟩) hG8.out).trans d0
          replace d1 : we.cell? ⟨p8, 1, none⟩ = some (.int .i64 z.2.d) := (hfr7.cell (p := ⟨p8, 1, none⟩) hG8.out).trans d1
          go_wp2_with fail
          refine (HE2.out _ ht7 hfr7).mono ?_
          rintro e wf ⟨rfl, ht8, hfr8⟩
          clear d0 d1 HE1 HE2
          have hfr9 := Lib.hid (hfr6.out.trans ((hfr7.trans hfr8).mono HFG.out))
          have hFf : ∀ k, F k → k < wf.heap.size := fun k hk => Nat.lt_of_lt_of_le (HFr.out k hk) hfr9.out.size
          have HT9 : Two wf F b1 ((fsts (st' ++ kp)).map Pl.pr) b2 ((snds (st' ++ kp)).map Pl.pr) := by
            have := ht8.less HFG.out
            rw [← HK1.out, ← HK2.out] at this
            unfold fsts snds at *
            simpa using this
          obtain ⟨n, hn⟩ : ∃ n, n = ((fsts (st' ++ kp)).map Pl.pr).length := ⟨_, rfl⟩
          obtain ⟨n', hn'⟩ : ∃ n', n' = ((snds (st' ++ kp)).map Pl.pr).length := ⟨_, rfl⟩
          obtain ⟨A1, c1, hc1⟩ := HT9.fst.open
          obtain ⟨A2, c2, hc2⟩ := HT9.1.open
          have hT10 := HT9.move hFf hc1
          have hc3 := old_alloc (o := .cells #[.slice A1 ((fsts (st' ++ kp)).map Pl.pr).length c1] 41) hc2
          have hT11 := Lib.hid (hT10.symm.move (fun k hk => by
            have := hFf k hk
            simp
            omega) hc3).symm
          rw [← hn] at hc1 hT11
          rw [← hn'] at hc2 hT11
          clear hc3 hT10 ht7 ht8 hfr7 hfr8 HT9 hn hn'
          go_wp2_with fail
          go_roundg (gk - 1)
          case measure => omega
          case rel => exact ⟨wf.heap.size, wf.heap.size + 1, st' ++ kp, rfl, rfl, by simpa using hT11.out, (hfr9.out.alloc HFr.out _).alloc HFr.out _, HH.out, HH6.out, h7, by omega, HH8.out⟩
end Go.Proofs.YtnjcofjphneccaaDoor
