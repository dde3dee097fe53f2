/-
  within$1: the iterator over what is within statements.
-/
import Derived.Test.YtgehgccgologpaaZg
import Derived.Shelf.Abstract
import Derived.Shelf.RegionOpen
import Derived.OwnWalkIn
import Derived.TacticsInMore
import Derived.LoopNIn
import Derived.LoopIn
import Derived.Sort.LoopGhostIn
import Derived.Maps.OwnIn
import Derived.RegionIn
import Derived.Sort.CutIn
import Derived.Test.YtgehgccgologpaaZc
namespace Go.Proofs.Ytgehgccgologpaa.Z
open Go.RowKit Go.Shelf Go.Proofs.Ytgehgccgologpaa Go.Proofs.Ytgehgccgologpaa.R Go.Proofs.Ytgehgccgologpaa.T
attribute [local go_sem] Oper.semAt_some

theorem st_start {n0 B M : Nat} {W : World} {A : Option Addr} {c : Nat} {l : List V} (hn : n0 ≤ W.heap.size) (hB : ∀ k, Dd B W k → k < W.heap.size) (hrow : RowB W n0 A l) (hc : l.length ≤ c) (hb : V.bulks l ≤ M) :
    St W.heap.size n0 B M (V.sizes l + 1) [l] [] (.slice (some ⟨W.heap.size, 0, none⟩) 1 1) (.slice none 0 0) (W.alloc (.cells #[.slice A l.length c] 23)) := by
  have hbl : Below W.heap.size W (W.alloc (.cells #[.slice A l.length c] 23)) := below_alloc _ _
  have hD : ∀ k, Dd B (W.alloc (.cells #[.slice A l.length c] 23)) k → k < W.heap.size := fun k e => hB k (Dd.of (hbl.block B (hB B (.inl rfl))) e)
  refine ⟨⟨[⟨A, l.length, c⟩], ⟨rfl, .inr ⟨W.heap.size, 1, _, rfl, Nat.le_refl _, World.alloc_heap_new W _, Nat.le_refl _, by unfold maxLen; omega, rfl, rfl⟩⟩, ⟨rfl, hc, hrow.to (hbl.mono hn) (Nat.le_refl _)⟩, trivial⟩, ownN_nil _ _ _, ?_, (fun k e => by cases e), (fun k _ e => by cases e), .inl rfl, ?_, ?_, (fun u hu => by cases hu), by simp, fun k e => Nat.lt_of_lt_of_le (hD k e) hbl.size⟩
  · intro k e h
    cases e
    exact Nat.lt_irrefl _ (hD _ h)
  · simp [szL]; omega
  · intro m hm
    simp at hm
    subst hm
    exact hb
set_option maxRecDepth 40000 in
set_option maxHeartbeats 4000000 in
theorem within_seq (n Bn n0 B : Nat) (l : List V) (A : Option Addr) (c : Nat) (w : World) (hn0 : n0 ≤ w.heap.size) (hBn : Bn < w.heap.size) (hrow : RowB w n0 A l) (hlc : l.length ≤ c) (hc : w.cell? ⟨Bn, 0, none⟩ = some (.slice A l.length c)) (hb : V.bulks l ≤ 4194304) :
    SeqD Fence.wide n Try.prog 41 #[.pointer (some ⟨Bn, 0, none⟩)] Er.enc (Kd n0 B) (Gw n0 B (V.bulks l) (wi [] l)) (fun xs => xs.map Er.it = wi [] l) (fun pre => ∃ r, pre.map Er.it ++ r = wi [] l) (V.sizes l + 1) B w := by
  intro lk J Jx W hW hJ hJc hJx hY h0
  have c0 := (hW.cell (p := ⟨Bn, 0, none⟩) hBn).trans hc
  have hDc : ∀ s W', J s W' → ∀ k, Dd B W' k → k < W'.heap.size := fun s W' hs k hk => by obtain ⟨o, ho, -⟩ := hJc s W' hs k hk; exact (Array.getElem?_eq_some_iff.1 ho).1
  have HDC := Lib.hid hDc
  have HST := Lib.hid (st_start (M := V.bulks l) (Nat.le_trans hn0 hW.size) (hDc _ _ h0) (hrow.to (hW.mono hn0) (Nat.le_refl _)) hlc (Nat.le_refl _))
  have HNC : Hid (n0 ≤ W.heap.size) := Nat.le_trans hn0 hW.size
  have h02 := hJ _ _ _ h0 (Fr_of (below_alloc W (.cells #[.slice A l.length c] 23)) fun k hk => hk.elim id (hDc _ _ h0 k))
  have HJ0 := Lib.hid h02
  have HBK := Lib.hid hb
  have HSZ : Hid (V.sizes l ≤ V.bulks l) := sizes_le_bulks l
  simp only [List.append_toArray, List.cons_append, List.nil_append]
  clear hDc h02 h0 hc hrow hW hlc hb hn0 hBn
  refine callsIn_of_wp Try.func41 rfl trivial ?_ rfl
  simp only [Try.ntmps41, List.size_toArray, List.length_cons, List.length_nil, Nat.reduceAdd, Nat.reduceSub, Array.replicate_succ, Array.replicate_zero, List.push_toArray, List.append_toArray, List.nil_append, List.cons_append]
  gi_wp2_with fail
  obtain ⟨W2, hW2⟩ : ∃ W2, W.alloc (.cells #[.slice A l.length c] 23) = W2 := ⟨_, rfl⟩
  rw [hW2] at HST HJ0 ⊢
  clear c0 hW2
  gi_loopg [3, 4] (2 * V.sizes l + 1) (fun q a p wr => ∃ (pre : List Er) (L : List (List V)) (Ar : List V), Hid (St W.heap.size n0 B (V.bulks l) (V.sizes l + 1) L Ar p a wr) ∧ Hid (pre.map Er.it ++ remR L Ar = wi [] l) ∧ Hid (J pre wr) ∧ 2 * szL L + L.length ≤ q)
  case atStart =>
    exact ⟨[], [l], [], HST, Lib.hid (by simp [remR]), HJ0, by simp [szL]⟩
  case round =>
    obtain ⟨pre, L, Ar, hst, hseq, hjj, hq⟩ := hrel
    rcases L with _ | ⟨_ | ⟨v, r⟩, L⟩
    · obtain ⟨ps, hown, hps⟩ := hst.out.own
      have hps0 : ps = [] := List.eq_nil_of_length_eq_zero (by rw [hps.len]; rfl)
      subst hps0
      have hsq := hseq.out
      simp only [remR, List.append_nil] at hsq
      have HSQ := Lib.hid hsq
      rcases hown.form with ⟨rfl, -⟩ | ⟨g, cap, rfl, -⟩
      all_goals
        clear hown hps hsq hq hseq
        gi_wp2_with fail
        go_end0
        exact ⟨⟨_, rfl⟩, .inl ⟨pre, HSQ.out, hjj.out⟩⟩
    · have hsq := hseq.out
      rw [remR_pop] at hsq
      have HSQ := Lib.hid hsq
      have hlim := hst.out.sz
      rw [List.length_cons] at hlim
      have hb1 := HBK.out
      have hb2 := HSZ.out
      have hll : (L.length : Int) + 1 ≤ 4194305 := by omega
      have hmq : 2 * szL L + L.length < gk := by
        rw [szL_cons, List.length_cons] at hq
        simp only [V.sizes] at hq
        omega
      obtain ⟨g, cap, rfl, hcap, hal, ⟨A1, c1, hcell⟩, hrest⟩ := hst.out.pop
      have hcl : (L.length : Int) + 1 ≤ (cap : Int) := by omega
      have HMQ := Lib.hid hmq
      have HQ := Lib.hid hq
      have HAL := Lib.hid hal
      rcases hrest with ⟨rfl, rfl, hst2⟩ | ⟨g2, cap2, rfl, hcap2, hst2⟩
      · have hL0 : L = [] := List.eq_nil_of_length_eq_zero (by rw [← hal]; rfl)
        subst hL0
        have HS2 := Lib.hid (hst2.low HNC.out (Below.refl _ _).drew)
        have HJ2 := Lib.hid (hst2.jlow hJ hjj.out (Below.refl _ _).drew)
        have hcell0 : wr.cell? ⟨g, 0, none⟩ = some (.slice A1 0 c1) := hcell
        have hcl0 : (1 : Int) ≤ (cap : Int) := by simpa using hcl
        simp only [List.length_nil, Nat.zero_add]
        clear hst2 hst hal hsq hseq hlim hmq hq hcap hcell hll hcl hb1 hb2
        gi_wp2_with fail
        gi_region
        gi_wp2_with fail
        gi_roundg (2 * szL [] + 0)
        case measure => exact HMQ.out
        case rel =>
          rw [show (max (-1 : Int) 0).toNat = 0 by decide]
          exact ⟨pre, [], [], HS2, HSQ, HJ2, Nat.le_refl _⟩
      · have HS2 := Lib.hid (hst2.low HNC.out (Below.refl _ _).drew)
        have HJ2 := Lib.hid (hst2.jlow hJ hjj.out (Below.refl _ _).drew)
        have hc2 : (L.length : Int) ≤ (cap2 : Int) := by omega
        rw [hal] at HS2 ⊢
        have HMX : Hid ((max ((L.length : Int) - 1) 0).toNat = L.length - 1) := by
          show _ = _
          omega
        clear hst2 hst hal hsq hseq hlim hmq hq hcap hb1 hb2 hcap2
        gi_wp2_with fail
        gi_region
        gi_wp2_with fail
        gi_roundg (2 * szL L + L.length)
        case measure => exact HMQ.out
        case rel =>
          rw [HMX.out]
          exact ⟨pre, L, Ar.tail, HS2, HSQ, HJ2, Nat.le_refl _⟩
    · have hsq := hseq.out
      have hlim := hst.out.sz
      rw [szL_cons, sizes_cons, List.length_cons] at hlim
      have hb1 := HBK.out
      have hb2 := HSZ.out
      have hll : (L.length : Int) + 1 ≤ 4194305 := by omega
      have hvb : v.bulk ≤ V.bulks l := by
        have := hst.out.bl (v :: r) (List.mem_cons_self ..)
        rw [V.bulks] at this
        omega
      rw [szL_cons, sizes_cons, List.length_cons] at hq
      obtain ⟨g, cap, A1, c1, gn, on, y, rfl, hcap, hal, hcell, hpc, hCg, hgw, rfl, hgn, hat, hy, w2, hw2, hfz, hst2, hat2, hnd, hy2, hz2, hJ2⟩ := hst.out.next HNC.out
      have hJw2 := hJ2 hJ _ hjj.out
      obtain ⟨A2, c2, rfl, hc2, hrd⟩ := hst2.arn.rowD hst2.na
      have hpl : pre.length < V.sizes l + 1 := by
        have h1 := len_wi [] l
        rw [← hsq, List.length_append, List.length_map] at h1
        omega
      have hmem : (Ar.reverse, v) ∈ wi [] l := by
        rw [← hsq]
        refine List.mem_append_right _ ?_
        rw [remR, wi_cons, wiV_eq]
        exact List.mem_cons_self ..
      have hgx : Gw n0 B (V.bulks l) (wi [] l) ⟨A2, c2, y, (Ar.reverse, v)⟩ w2 :=
        ⟨by have := HNC.out; have := hst2.cs; omega, hc2, hrd, hy2, hvb, fun u hu => hst2.ba u (List.mem_reverse.1 hu), by rw [List.length_reverse, hal]; omega, hmem⟩
      have HNB : Hid ((Value.slice (some ⟨g, 0, none⟩) (L.length + 1) cap).ownBlock ≠ some wr.heap.size ∧ (Value.slice A2 Ar.length c2).ownBlock ≠ some wr.heap.size) :=
        ⟨fun e => by cases e; exact Nat.lt_irrefl _ hgw, fun e => Nat.lt_irrefl _ (hst.out.arn.lt _ (by rw [← e]; cases A2 <;> rfl)).2⟩
      obtain ⟨fn, tmps, assign, body, hyy, hR⟩ := hY pre ⟨A2, c2, y, (Ar.reverse, v)⟩ _ hJw2 hgx hpl
      have HSN : Hid (∀ b, isFn v = b → pre.map Er.it ++ (Ar.reverse, v) :: (if b then remR (r :: L) Ar else remR (v.l :: r :: L) (v :: Ar)) = wi [] l) := by
        intro b hb
        cases b
        · rw [remR_in v r L Ar hb] at hsq
          exact hsq
        · rw [remR_fn v r L Ar hb] at hsq
          exact hsq
      rw [List.length_reverse] at hst2 ⊢
      have HLIM := Lib.hid hlim
      have HVB := Lib.hid hvb
      have HQ := Lib.hid hq
      have HAL := Lib.hid hal
      have HS2 := Lib.hid hst2
      have HND := Lib.hid hnd
      have HY2 := Lib.hid hy2
      have HAT2 := Lib.hid hat2
      have HZ2 := Lib.hid hz2
      have HW2 := Lib.hid hw2
      have hcl : (L.length : Int) + 1 ≤ (cap : Int) := by omega
      have hpc2 : (r.length : Int) + 1 ≤ (c1 : Int) := by omega
      obtain ⟨yka, ykc, yla, ylc, rfl, hyk, hyl, hyks, hyrow⟩ := hy.open
      have hTL := run_tl (some ⟨gn, on, none⟩) (r.length + 1) c1 (by omega)
      rw [Nat.add_sub_cancel] at hTL
      have hck : (wr.alloc (.cells #[.int .i64 v.k, .string v.nm, .int .i64 v.n, .string v.s, .slice yka v.ks.length ykc, .slice yla v.l.length ylc] 25)).cell? ⟨g, L.length, none⟩ = some (.slice (some ⟨gn, on, none⟩) (r.length + 1) c1) := ((below_alloc wr _).cell (p := ⟨g, L.length, none⟩) hgw).trans hcell
      obtain ⟨d0, d1, d2, d3, d4, d5⟩ := hat.six
      obtain ⟨e0, e1, e2, e3, e4, e5⟩ := hat2.six
      dsimp only [Er.enc, X.v, X.cells] at hyy hfz HW2
      have HYY := Lib.hid hyy
      rw [List.length_reverse] at hyy
      clear hmem hst2 hst hal hsq hseq hlim hq hcap hb1 hb2 hvb hgx hpl hnd hy2 hat2 hz2 hw2 hJw2 hJ2 hrd hc2 hat hy hyrow hyks hyl hyk hCg hgw hgn hpc hjj HJ0 HST
      have hne0 : ((r.length : Int) + 1 == 0) = false := by rw [beq_eq_false_iff_ne]; omega
      have hr0 : (0 : Int) < (r.length : Int) + 1 := by omega
      have hr1 : 0 < r.length + 1 := by omega
      clear hyy
      gi_upto_region 7 with (fail)
      clear hcell d0 d1 d2 d3 d4 d5
      gi_upto_region 8 with (fail)
      rw [HW2.out]
      have hyy := HYY.out
      rw [List.length_reverse] at hyy
      clear hTL hck hfz hne0 hr0 hr1 hcl hpc2 hll
      gi_wp2_with fail
      refine ⟨(fun h => by cases h), hR.mono ?_⟩
      rintro e W4 (⟨rfl, hJ4, hk4⟩ | ⟨rfl, hJx4⟩)
      · have hst4 := HS2.out.kd hk4 (HDC.out _ W4 hJ4)
        have hnd := HND.out
        have hat4 : At W4 wr.heap.size 0 ⟨v.k, v.nm, v.n, v.s, yka, v.ks.length, ykc, yla, v.l.length, ylc⟩ :=
          ⟨hk4.cell (p := ⟨wr.heap.size, 0, none⟩) hnd HAT2.out.c0, hk4.cell (p := ⟨wr.heap.size, 0 + 1, none⟩) hnd HAT2.out.c1, hk4.cell (p := ⟨wr.heap.size, 0 + 2, none⟩) hnd HAT2.out.c2, hk4.cell (p := ⟨wr.heap.size, 0 + 3, none⟩) hnd HAT2.out.c3, hk4.cell (p := ⟨wr.heap.size, 0 + 4, none⟩) hnd HAT2.out.c4, hk4.cell (p := ⟨wr.heap.size, 0 + 5, none⟩) hnd HAT2.out.c5⟩
        have hy4 := HY2.out.to hk4.below (Nat.le_refl _)
        have hbx : wr.heap.size < W4.heap.size := by have := hk4.below.size; have := HZ2.out; omega
        have HS4 := Lib.hid hst4
        have HJ4 := Lib.hid hJ4
        have HAT4 := Lib.hid hat4
        have HY4 := Lib.hid hy4
        have HBX := Lib.hid hbx
        have HIF := Lib.hid (isFunction_x ⟨v.k, v.nm, v.n, v.s, yka, v.ks.length, ykc, yla, v.l.length, ylc⟩ W4)
        dsimp only [X.v] at HIF
        obtain ⟨e0, e1, e2, e3, e4, e5⟩ := hat4.six
        have hkf : kFn v.k = isFn v := rfl
        rw [hkf] at HIF
        clear hst4 hJ4 hat4 hy4 hk4 hnd hbx hkf HS2 HY2 HAT2 HND HYY hyy hR HW2
        generalize wr.heap.size = bx at *
        cases hf : isFn v with
        | true =>
          have HSQ := Lib.hid (HSN.out true hf)
          rw [hf] at HIF
          clear hf
          gi_wp2_with fail
          refine ⟨trivial, (fun h => by cases h), (callsIn_wide.2 HIF.out).mono ?_⟩
          rintro e w5 ⟨rfl, hb5⟩
          have HS5 := Lib.hid (HS4.out.low HNC.out hb5)
          have HJ5 := Lib.hid (HS4.out.jlow hJ HJ4.out hb5)
          clear hb5 e0 e1 e2 e3 e4 e5
          gi_wp2_with fail
          gi_roundg (2 * szL (r :: L) + (r :: L).length)
          case measure =>
            have := HQ.out
            rw [szL_cons, List.length_cons]
            omega
          case rel =>
            refine ⟨pre ++ [⟨A2, c2, ⟨v.k, v.nm, v.n, v.s, yka, v.ks.length, ykc, yla, v.l.length, ylc⟩, (Ar.reverse, v)⟩], r :: L, Ar, HS5, Lib.hid ?_, HJ5, Nat.le_refl _⟩
            rw [List.map_append, List.append_assoc]
            exact HSQ.out
        | false =>
          have HSQ := Lib.hid (HSN.out false hf)
          rw [hf] at HIF
          clear hf
          gi_wp2_with fail
          refine ⟨trivial, (fun h => by cases h), (callsIn_wide.2 HIF.out).mono ?_⟩
          rintro e w5 ⟨rfl, hb5⟩
          have hst5 := HS4.out.low HNC.out hb5
          have HJ5 := Lib.hid (HS4.out.jlow hJ HJ4.out hb5)
          have hat5 := HAT4.out.below HBX.out hb5
          have HY5 := Lib.hid (HY4.out.to (hb5.mono (Nat.le_trans HNC.out HS4.out.cs)) (Nat.le_refl _))
          have hbx5 : bx < w5.heap.size := Nat.lt_of_lt_of_le HBX.out hb5.size
          clear hb5 e0 e1 e2 e3 e4 e5 HIF HS4 HJ4 HAT4 HY4 HBX
          gi_wp2_with fail
          obtain ⟨ps, hown, hps⟩ := hst5.own
          obtain ⟨F, hF⟩ : ∃ F : Nat → Prop, F = fun k => k < w5.heap.size ∧ (Value.slice (some ⟨g, 0, none⟩) (L.length + 1) cap).ownBlock ≠ some k ∧ (Value.slice A2 Ar.length c2).ownBlock ≠ some k := ⟨_, rfl⟩
          have hFx : F bx := by rw [hF]; exact ⟨hbx5, HNB.out.1, HNB.out.2⟩
          have HSS : Hid (∀ w', Fr F w5 w' → w'.cell? ⟨bx, 0, none⟩ = some (.int .i64 v.k) ∧ w'.cell? ⟨bx, 1, none⟩ = some (.string v.nm) ∧ w'.cell? ⟨bx, 2, none⟩ = some (.int .i64 v.n) ∧ w'.cell? ⟨bx, 3, none⟩ = some (.string v.s) ∧ w'.cell? ⟨bx, 4, none⟩ = some (.slice yka v.ks.length ykc) ∧ w'.cell? ⟨bx, 5, none⟩ = some (.slice yla v.l.length ylc)) := fun w' h => by
            obtain ⟨a0, a1, a2, a3, a4, a5⟩ := hat5.six
            exact ⟨(h.cell (p := ⟨bx, 0, none⟩) hFx).trans a0, (h.cell (p := ⟨bx, 1, none⟩) hFx).trans a1, (h.cell (p := ⟨bx, 2, none⟩) hFx).trans a2, (h.cell (p := ⟨bx, 3, none⟩) hFx).trans a3, (h.cell (p := ⟨bx, 4, none⟩) hFx).trans a4, (h.cell (p := ⟨bx, 5, none⟩) hFx).trans a5⟩
          have hm := (hst5.mid HNC.out ⟨yla, v.l.length, ylc⟩ ⟨v.k, v.nm, v.n, v.s, yka, v.ks.length, ykc, yla, v.l.length, ylc⟩ hown).drew
          rw [← hF] at hm
          have HM0 := Lib.hid hm
          have HF := Lib.hid hF
          have hpc5 : PcIs w5 n0 ⟨yla, v.l.length, ylc⟩ v.l := by
            obtain ⟨-, -, h1, h2, h3⟩ := (isB_iff _ _ _ _).1 HY5.out
            exact ⟨rfl, h2, h3⟩
          have HPC := Lib.hid hpc5
          have HPS := Lib.hid hps
          have HS5 := Lib.hid hst5
          have HLP : Hid (ps.length ≤ 4194304 ∧ Ar.reverse.length ≤ 4194304) := by
            have h1 := hps.len
            have h2 := HLIM.out
            have h3 := HAL.out
            have h4 := HBK.out
            have h5 := HSZ.out
            rw [List.length_reverse, List.length_cons] at h1
            refine ⟨by omega, ?_⟩
            rw [List.length_reverse]
            omega
          clear hst5 hat5 hbx5 hown hps hF hFx hm hpc5
          refine wpIn_wide.2 (wp_region_held_drew (S := fun w' => w'.cell? ⟨bx, 0, none⟩ = some (.int .i64 v.k) ∧ w'.cell? ⟨bx, 1, none⟩ = some (.string v.nm) ∧ w'.cell? ⟨bx, 2, none⟩ = some (.int .i64 v.n) ∧ w'.cell? ⟨bx, 3, none⟩ = some (.string v.s) ∧ w'.cell? ⟨bx, 4, none⟩ = some (.slice yka v.ks.length ykc) ∧ w'.cell? ⟨bx, 5, none⟩ = some (.slice yla v.l.length ylc)) (by kernel_rfl) (by (try dsimp only); exact HSS.out _ HM0.out.fr) (fun hHeld => ?_))
          iterate 5
            (first
              | (refine wpAnyH_take (i := 0) (v := ?_) rfl (by kernel_rfl) (by decide +kernel) (by decide +kernel) (fun _ _ _ h => h) (Or.inl ⟨by rfl, ?_⟩) (by assumption) ?_; rotate_left; (focus (intro w0 hSw; (try dsimp only at hSw); go_simp; (try with_reducible rfl); done)))
              | (refine wpAnyH_take (i := 1) (v := ?_) rfl (by kernel_rfl) (by decide +kernel) (by decide +kernel) (fun _ _ _ h => h) (Or.inl ⟨by rfl, ?_⟩) (by assumption) ?_; rotate_left; (focus (intro w0 hSw; (try dsimp only at hSw); go_simp; (try with_reducible rfl); done)))
              | (refine wpAnyH_take (i := 2) (v := ?_) rfl (by kernel_rfl) (by decide +kernel) (by decide +kernel) (fun _ _ _ h => h) (Or.inl ⟨by rfl, ?_⟩) (by assumption) ?_; rotate_left; (focus (intro w0 hSw; (try dsimp only at hSw); go_simp; (try with_reducible rfl); done)))
              | (refine wpAnyH_take (i := 5) (v := ?_) rfl (by kernel_rfl) (by decide +kernel) (by decide +kernel) (fun _ _ _ h => h) (Or.inl ⟨by rfl, ?_⟩) (by assumption) ?_; rotate_left; (focus (intro w0 hSw; (try dsimp only at hSw); go_simp; (try with_reducible rfl); done)))
              | (refine wpAnyH_take (i := 6) (v := ?_) rfl (by kernel_rfl) (by decide +kernel) (by decide +kernel) (fun _ _ _ h => h) (Or.inl ⟨by rfl, ?_⟩) (by assumption) ?_; rotate_left; (focus (intro w0 hSw; (try dsimp only at hSw); go_simp; (try with_reducible rfl); done)))
              )
          try simp only [List.getElem_toArray, List.getElem_cons_zero, List.getElem_cons_succ, Act.put, List.setIfInBounds_toArray, List.set_cons_zero, List.set_cons_succ]
          generalize w5.drew = v0 at *
          refine wpAnyH_ready (rs := [3, 7]) (by decide +kernel) (by simp) (AllReadyH.cons rfl (fun K hK => ?_) (AllReadyH.cons rfl (fun K hK => ?_) AllReadyH.nil))
          ·
            go_simp
            have HM1 := Lib.hid HM0.out.buildL
            refine hK.out _ _ (HSS.out _ HM1.out.fr) (fun hHeld1 => ?_)
            clear hK K
            dsimp only [Pc.v] at HM1
            generalize v0.alloc (.cells #[.slice yla v.l.length ylc] 23) = v1 at *
            try simp only [List.getElem_toArray, List.getElem_cons_zero, List.getElem_cons_succ, Act.put, List.setIfInBounds_toArray, List.set_cons_zero, List.set_cons_succ]
            refine wpAnyH_ready (rs := [4, 7]) (by decide +kernel) (by simp) (AllReadyH.cons rfl (fun K hK => ?_) (AllReadyH.cons rfl (fun K hK => ?_) AllReadyH.nil))
            ·
              refine step_appL rfl (.tmp 51) (.tmp 54) rfl W.heap.size _ _ rfl HM1.out.own v0.heap.size ⟨yla, v.l.length, ylc⟩ rfl (HM1.out.fl _ rfl).1 HLP.out.1 HM1.out.cs ?_
              intro lv2 v2 h1 h2 h3
              have HM2 := Lib.hid (HM1.out.appL h1 h2 h3)
              clear h1 h2 h3
              refine hK.out _ _ (HSS.out _ HM2.out.fr) (fun hHeld2 => ?_)
              clear hK K
              try simp only [List.getElem_toArray, List.getElem_cons_zero, List.getElem_cons_succ, Act.put, List.setIfInBounds_toArray, List.set_cons_zero, List.set_cons_succ]
              refine wpAnyH_ready (rs := [7]) (by decide +kernel) (by simp) (AllReadyH.cons rfl (fun K hK => ?_) AllReadyH.nil)
              go_simp
              have HM3 := Lib.hid HM2.out.buildN
              refine hK.out _ _ (HSS.out _ HM3.out.fr) (fun hHeld3 => ?_)
              clear hK K
              dsimp only [X.cells] at HM3
              generalize v2.alloc (.cells #[.int .i64 v.k, .string v.nm, .int .i64 v.n, .string v.s, .slice yka v.ks.length ykc, .slice yla v.l.length ylc] 25) = v3 at *
              try simp only [List.getElem_toArray, List.getElem_cons_zero, List.getElem_cons_succ, Act.put, List.setIfInBounds_toArray, List.set_cons_zero, List.set_cons_succ]
              refine wpAnyH_ready (rs := [8]) (by decide +kernel) (by simp) (AllReadyH.cons rfl (fun K hK => ?_) AllReadyH.nil)
              refine step_appN rfl (.tmp 56) (.tmp 58) rfl W.heap.size n0 _ _ rfl HM3.out.arn v2.heap.size ⟨v.k, v.nm, v.n, v.s, yka, v.ks.length, ykc, yla, v.l.length, ylc⟩ v rfl (HM3.out.fn _ rfl).1 (HY5.out.to HM3.out.b0 (Nat.le_refl _)) HLP.out.2 HNC.out HM3.out.cs ?_
              intro av4 v4 h1 h2 h3
              have HM4 := Lib.hid (HM3.out.appN h1 h2 h3)
              clear h1 h2 h3
              refine hK.out _ _ (HSS.out _ HM4.out.fr) (fun hHeld4 => ?_)
              clear hK K
              try simp only [List.getElem_toArray, List.getElem_cons_zero, List.getElem_cons_succ, Act.put, List.setIfInBounds_toArray, List.set_cons_zero, List.set_cons_succ]
              iterate 2
                (first
                  | (refine wpAnyH_take (i := 9) (v := ?_) rfl (by kernel_rfl) (by decide +kernel) (by decide +kernel) (fun _ _ _ h => h) (Or.inl ⟨by rfl, ?_⟩) (by assumption) ?_; rotate_left; (focus (intro w0 hSw; (try dsimp only at hSw); go_simp; (try with_reducible rfl); done)))
                  | (refine wpAnyH_take (i := 10) (v := ?_) rfl (by kernel_rfl) (by decide +kernel) (by decide +kernel) (fun _ _ _ h => h) (Or.inl ⟨by rfl, ?_⟩) (by assumption) ?_; rotate_left; (focus (intro w0 hSw; (try dsimp only at hSw); go_simp; (try with_reducible rfl); done)))
                  )
              try simp only [List.getElem_toArray, List.getElem_cons_zero, List.getElem_cons_succ, Act.put, List.setIfInBounds_toArray, List.set_cons_zero, List.set_cons_succ]
              refine wpAnyH_done (by kernel_rfl) ?_ _
              have hmz := HM4.out
              rw [HF.out] at hmz
              have hsz := HLIM.out
              have HS6 := Lib.hid (Mid.st HS5.out HPS.out HPC.out hmz (by simp) HVB.out (by rw [szL_cons, List.length_cons]; omega))
              have HJ6 := Lib.hid (HS5.out.j hJ HJ5.out hmz.fr)
              clear hmz hsz
              gi_wp2_with fail
              gi_roundg (2 * szL (v.l :: r :: L) + (v.l :: r :: L).length)
              case measure =>
                have := HQ.out
                rw [szL_cons, szL_cons, List.length_cons, List.length_cons]
                omega
              case rel =>
                refine ⟨pre ++ [⟨A2, c2, ⟨v.k, v.nm, v.n, v.s, yka, v.ks.length, ykc, yla, v.l.length, ylc⟩, (Ar.reverse, v)⟩], v.l :: r :: L, v :: Ar, HS6, Lib.hid ?_, HJ6, Nat.le_refl _⟩
                rw [List.map_append, List.append_assoc]
                exact HSQ.out
            ·
              go_simp
              have HM2 := Lib.hid HM1.out.buildN
              refine hK.out _ _ (HSS.out _ HM2.out.fr) (fun hHeld2 => ?_)
              clear hK K
              dsimp only [X.cells] at HM2
              generalize v1.alloc (.cells #[.int .i64 v.k, .string v.nm, .int .i64 v.n, .string v.s, .slice yka v.ks.length ykc, .slice yla v.l.length ylc] 25) = v2 at *
              try simp only [List.getElem_toArray, List.getElem_cons_zero, List.getElem_cons_succ, Act.put, List.setIfInBounds_toArray, List.set_cons_zero, List.set_cons_succ]
              refine wpAnyH_ready (rs := [4]) (by decide +kernel) (by simp) (AllReadyH.cons rfl (fun K hK => ?_) AllReadyH.nil)
              refine step_appL rfl (.tmp 51) (.tmp 54) rfl W.heap.size _ _ rfl HM2.out.own v0.heap.size ⟨yla, v.l.length, ylc⟩ rfl (HM2.out.fl _ rfl).1 HLP.out.1 HM2.out.cs ?_
              intro lv3 v3 h1 h2 h3
              have HM3 := Lib.hid (HM2.out.appL h1 h2 h3)
              clear h1 h2 h3
              refine hK.out _ _ (HSS.out _ HM3.out.fr) (fun hHeld3 => ?_)
              clear hK K
              try simp only [List.getElem_toArray, List.getElem_cons_zero, List.getElem_cons_succ, Act.put, List.setIfInBounds_toArray, List.set_cons_zero, List.set_cons_succ]
              refine wpAnyH_ready (rs := [8]) (by decide +kernel) (by simp) (AllReadyH.cons rfl (fun K hK => ?_) AllReadyH.nil)
              refine step_appN rfl (.tmp 56) (.tmp 58) rfl W.heap.size n0 _ _ rfl HM3.out.arn v1.heap.size ⟨v.k, v.nm, v.n, v.s, yka, v.ks.length, ykc, yla, v.l.length, ylc⟩ v rfl (HM3.out.fn _ rfl).1 (HY5.out.to HM3.out.b0 (Nat.le_refl _)) HLP.out.2 HNC.out HM3.out.cs ?_
              intro av4 v4 h1 h2 h3
              have HM4 := Lib.hid (HM3.out.appN h1 h2 h3)
              clear h1 h2 h3
              refine hK.out _ _ (HSS.out _ HM4.out.fr) (fun hHeld4 => ?_)
              clear hK K
              try simp only [List.getElem_toArray, List.getElem_cons_zero, List.getElem_cons_succ, Act.put, List.setIfInBounds_toArray, List.set_cons_zero, List.set_cons_succ]
              iterate 2
                (first
                  | (refine wpAnyH_take (i := 9) (v := ?_) rfl (by kernel_rfl) (by decide +kernel) (by decide +kernel) (fun _ _ _ h => h) (Or.inl ⟨by rfl, ?_⟩) (by assumption) ?_; rotate_left; (focus (intro w0 hSw; (try dsimp only at hSw); go_simp; (try with_reducible rfl); done)))
                  | (refine wpAnyH_take (i := 10) (v := ?_) rfl (by kernel_rfl) (by decide +kernel) (by decide +kernel) (fun _ _ _ h => h) (Or.inl ⟨by rfl, ?_⟩) (by assumption) ?_; rotate_left; (focus (intro w0 hSw; (try dsimp only at hSw); go_simp; (try with_reducible rfl); done)))
                  )
              try simp only [List.getElem_toArray, List.getElem_cons_zero, List.getElem_cons_succ, Act.put, List.setIfInBounds_toArray, List.set_cons_zero, List.set_cons_succ]
              refine wpAnyH_done (by kernel_rfl) ?_ _
              have hmz := HM4.out
              rw [HF.out] at hmz
              have hsz := HLIM.out
              have HS6 := Lib.hid (Mid.st HS5.out HPS.out HPC.out hmz (by simp) HVB.out (by rw [szL_cons, List.length_cons]; omega))
              have HJ6 := Lib.hid (HS5.out.j hJ HJ5.out hmz.fr)
              clear hmz hsz
              gi_wp2_with fail
              gi_roundg (2 * szL (v.l :: r :: L) + (v.l :: r :: L).length)
              case measure =>
                have := HQ.out
                rw [szL_cons, szL_cons, List.length_cons, List.length_cons]
                omega
              case rel =>
                refine ⟨pre ++ [⟨A2, c2, ⟨v.k, v.nm, v.n, v.s, yka, v.ks.length, ykc, yla, v.l.length, ylc⟩, (Ar.reverse, v)⟩], v.l :: r :: L, v :: Ar, HS6, Lib.hid ?_, HJ6, Nat.le_refl _⟩
                rw [List.map_append, List.append_assoc]
                exact HSQ.out
          ·
            go_simp
            have HM1 := Lib.hid HM0.out.buildN
            refine hK.out _ _ (HSS.out _ HM1.out.fr) (fun hHeld1 => ?_)
            clear hK K
            dsimp only [X.cells] at HM1
            generalize v0.alloc (.cells #[.int .i64 v.k, .string v.nm, .int .i64 v.n, .string v.s, .slice yka v.ks.length ykc, .slice yla v.l.length ylc] 25) = v1 at *
            try simp only [List.getElem_toArray, List.getElem_cons_zero, List.getElem_cons_succ, Act.put, List.setIfInBounds_toArray, List.set_cons_zero, List.set_cons_succ]
            refine wpAnyH_ready (rs := [3]) (by decide +kernel) (by simp) (AllReadyH.cons rfl (fun K hK => ?_) AllReadyH.nil)
            go_simp
            have HM2 := Lib.hid HM1.out.buildL
            refine hK.out _ _ (HSS.out _ HM2.out.fr) (fun hHeld2 => ?_)
            clear hK K
            dsimp only [Pc.v] at HM2
            generalize v1.alloc (.cells #[.slice yla v.l.length ylc] 23) = v2 at *
            try simp only [List.getElem_toArray, List.getElem_cons_zero, List.getElem_cons_succ, Act.put, List.setIfInBounds_toArray, List.set_cons_zero, List.set_cons_succ]
            refine wpAnyH_ready (rs := [4]) (by decide +kernel) (by simp) (AllReadyH.cons rfl (fun K hK => ?_) AllReadyH.nil)
            refine step_appL rfl (.tmp 51) (.tmp 54) rfl W.heap.size _ _ rfl HM2.out.own v1.heap.size ⟨yla, v.l.length, ylc⟩ rfl (HM2.out.fl _ rfl).1 HLP.out.1 HM2.out.cs ?_
            intro lv3 v3 h1 h2 h3
            have HM3 := Lib.hid (HM2.out.appL h1 h2 h3)
            clear h1 h2 h3
            refine hK.out _ _ (HSS.out _ HM3.out.fr) (fun hHeld3 => ?_)
            clear hK K
            try simp only [List.getElem_toArray, List.getElem_cons_zero, List.getElem_cons_succ, Act.put, List.setIfInBounds_toArray, List.set_cons_zero, List.set_cons_succ]
            refine wpAnyH_ready (rs := [8]) (by decide +kernel) (by simp) (AllReadyH.cons rfl (fun K hK => ?_) AllReadyH.nil)
            refine step_appN rfl (.tmp 56) (.tmp 58) rfl W.heap.size n0 _ _ rfl HM3.out.arn v0.heap.size ⟨v.k, v.nm, v.n, v.s, yka, v.ks.length, ykc, yla, v.l.length, ylc⟩ v rfl (HM3.out.fn _ rfl).1 (HY5.out.to HM3.out.b0 (Nat.le_refl _)) HLP.out.2 HNC.out HM3.out.cs ?_
            intro av4 v4 h1 h2 h3
            have HM4 := Lib.hid (HM3.out.appN h1 h2 h3)
            clear h1 h2 h3
            refine hK.out _ _ (HSS.out _ HM4.out.fr) (fun hHeld4 => ?_)
            clear hK K
            try simp only [List.getElem_toArray, List.getElem_cons_zero, List.getElem_cons_succ, Act.put, List.setIfInBounds_toArray, List.set_cons_zero, List.set_cons_succ]
            iterate 2
              (first
                | (refine wpAnyH_take (i := 9) (v := ?_) rfl (by kernel_rfl) (by decide +kernel) (by decide +kernel) (fun _ _ _ h => h) (Or.inl ⟨by rfl, ?_⟩) (by assumption) ?_; rotate_left; (focus (intro w0 hSw; (try dsimp only at hSw); go_simp; (try with_reducible rfl); done)))
                | (refine wpAnyH_take (i := 10) (v := ?_) rfl (by kernel_rfl) (by decide +kernel) (by decide +kernel) (fun _ _ _ h => h) (Or.inl ⟨by rfl, ?_⟩) (by assumption) ?_; rotate_left; (focus (intro w0 hSw; (try dsimp only at hSw); go_simp; (try with_reducible rfl); done)))
                )
            try simp only [List.getElem_toArray, List.getElem_cons_zero, List.getElem_cons_succ, Act.put, List.setIfInBounds_toArray, List.set_cons_zero, List.set_cons_succ]
            refine wpAnyH_done (by kernel_rfl) ?_ _
            have hmz := HM4.out
            rw [HF.out] at hmz
            have hsz := HLIM.out
            have HS6 := Lib.hid (Mid.st HS5.out HPS.out HPC.out hmz (by simp) HVB.out (by rw [szL_cons, List.length_cons]; omega))
            have HJ6 := Lib.hid (HS5.out.j hJ HJ5.out hmz.fr)
            clear hmz hsz
            gi_wp2_with fail
            gi_roundg (2 * szL (v.l :: r :: L) + (v.l :: r :: L).length)
            case measure =>
              have := HQ.out
              rw [szL_cons, szL_cons, List.length_cons, List.length_cons]
              omega
            case rel =>
              refine ⟨pre ++ [⟨A2, c2, ⟨v.k, v.nm, v.n, v.s, yka, v.ks.length, ykc, yla, v.l.length, ylc⟩, (Ar.reverse, v)⟩], v.l :: r :: L, v :: Ar, HS6, Lib.hid ?_, HJ6, Nat.le_refl _⟩
              rw [List.map_append, List.append_assoc]
              exact HSQ.out
      · gi_wp2_with fail
        refine bodyPost_ret (results_none rfl _ _ _) rfl ?_
        refine ⟨⟨_, rfl⟩, .inr ⟨pre ++ [⟨A2, c2, ⟨v.k, v.nm, v.n, v.s, yka, v.ks.length, ykc, yla, v.l.length, ylc⟩, (Ar.reverse, v)⟩], ?_, hJx4⟩⟩
        refine ⟨if isFn v then remR (r :: L) Ar else remR (v.l :: r :: L) (v :: Ar), ?_⟩
        rw [List.map_append, List.append_assoc]
        exact HSN.out _ rfl
end Go.Proofs.Ytgehgccgologpaa.Z
