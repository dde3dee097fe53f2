/-
  Copy, by contract.
-/
import Derived.Test.YtnjcofjphneccaaDoorCpy
import Derived.Test.YtnjcofjphneccaaDoorSize
import Derived.Test.YtnjcofjphneccaaDoorPop
import Derived.Deep.DeepCutAuto
namespace Go.Proofs.YtnjcofjphneccaaDoor
open Go.RowKit

def T1 (g : Nat) (v : V) : Ty := fun k => if k = g then some [v] else none
def K1 : Ky := fun _ => none
theorem out_first {w w1 : World} {g : Nat} {v : V} {x : X} (h : Is w v x) (ho : Opn w1 g x) (hg : w.heap.size + 2 ≤ g) (hb : Below w.heap.size w w1) (hz : w1.heap[w.heap.size + 1]? = some zrow) :
    Out w w.heap.size (w.heap.size + 2) (w.heap.size + 1) w1.heap.size g v [first g v] (w1.alloc (.cells #[.slice (some ⟨g + 1, 0, none⟩) 1 1] 41)) (T1 g v) K1 := by
  have hlt := ho.lt
  have hb2 : Below w.heap.size w (w1.alloc (.cells #[.slice (some ⟨g + 1, 0, none⟩) 1 1] 41)) := hb.trans ((below_alloc _ _).mono hb.size)
  have ho2 := ho.below (below_alloc w1 (.cells #[.slice (some ⟨g + 1, 0, none⟩) 1 1] 41))
  refine ⟨(first_stk hlt ho.own).less fun k hk => ?_, ⟨by omega, fun n l hn => ?_, nofun⟩, by omega, by omega, by simp; omega, hb2, hp_alloc hz, by simp [T1], fun p hp => ?_, fun n l hn => ?_⟩
  · rcases hk with (hk | hk | hk) | hk
    · omega
    · unfold T1 at hk
      split at hk
      · omega
      · simp at hk
    · simp [K1] at hk
    · omega
  · unfold T1 at hn
    split at hn
    · rename_i e
      subst e
      injection hn with hn
      subst hn
      refine ⟨hg, by simp, ⟨_, ho2.1⟩, fun i hi => ?_⟩
      have : i = 0 := by simp at hi; exact hi
      subst this
      exact ⟨x, at_of_block ho2.1, .inl (IsB.to hb2 (Nat.le_refl _) _ _ h)⟩
    · cases hn
  · simp at hp
    subst hp
    exact ⟨g, rfl, by simp [T1, first]⟩
  · unfold T1 at hn
    split at hn
    · rename_i e
      subst e
      exact .inl ⟨first n v, by simp, rfl⟩
    · cases hn

theorem put5_row {w : World} {n : Nat} {e : TypeId} {a b c d f : Value} (h : w.heap[n]? = some (.cells #[a, b, c, d, f] e (0, 0))) (y : X) : (put5 w n 0 y).heap[n]? = some (.cells y.cells e (0, 0)) :=
  hp_row_set (hp_row_set (hp_row_set (hp_row_set (hp_row_set h _) _) _) _) _
theorem put5_lit (w : World) (g : Nat) (k n : Int) (s : ByteArray) (ka : Option Addr) (kn kc : Nat) (la : Option Addr) (ln lc : Nat) : put5 w g 0 ⟨k, n, s, ka, kn, kc, la, ln, lc⟩ =
    ((((w.setCell ⟨g, 0, none⟩ (.int .i64 k)).setCell ⟨g, 1, none⟩ (.int .i64 n)).setCell ⟨g, 2, none⟩ (.string s)).setCell ⟨g, 3, none⟩ (.slice ka kn kc)).setCell ⟨g, 4, none⟩ (.slice la ln lc) := rfl
theorem put5_lit' (w : World) (g o : Nat) (k n : Int) (s : ByteArray) (ka : Option Addr) (kn kc : Nat) (la : Option Addr) (ln lc : Nat) : put5 w g o ⟨k, n, s, ka, kn, kc, la, ln, lc⟩ =
    ((((w.setCell ⟨g, o, none⟩ (.int .i64 k)).setCell ⟨g, o + 1, none⟩ (.int .i64 n)).setCell ⟨g, o + 2, none⟩ (.string s)).setCell ⟨g, o + 3, none⟩ (.slice ka kn kc)).setCell ⟨g, o + 4, none⟩ (.slice la ln lc) := rfl
theorem Out.copied {w wr : World} {b g : Nat} {v : V} {T : Ty} {K : Ky} {y : X} (h : Out w w.heap.size (w.heap.size + 2) (w.heap.size + 1) b g v [] wr T K) (hy : Own1 T K v y) : Copied w (put5 wr (w.heap.size + 1) 0 y) v y T K := by
  have hfr := put5_fr wr (w.heap.size + 1) 0 y
  have hF : ∀ k, FT w.heap.size T K k → k ≠ w.heap.size + 1 := by
    rintro k (hk | hk | hk)
    · omega
    · obtain ⟨l, hl⟩ := Option.ne_none_iff_exists'.1 hk
      have := (h.hp.t k l hl).1
      omega
    · obtain ⟨l, hl⟩ := Option.ne_none_iff_exists'.1 hk
      have := (h.hp.k k l hl).1
      omega
  have hp := h.hp.fr (hfr.mono hF)
  refine ⟨h.bel.trans (hfr.mono fun k (hk : k < w.heap.size) => by show k ≠ w.heap.size + 1; omega).below, ⟨Nat.le_refl _, fun n l hn => ?_, fun n ks hn => ?_⟩, hy, fun n l hn => ?_⟩
  · obtain ⟨e1, e2⟩ := hp.t n l hn
    exact ⟨by omega, e2⟩
  · obtain ⟨e1, e2⟩ := hp.k n ks hn
    exact ⟨by omega, e2⟩
  · rcases h.done n l hn with ⟨p, hp, _⟩ | hd
    · cases hp
    · exact hd.mono (fun _ _ h => h) (fun _ _ h => h) hfr (hF n (.inr (.inl (by rw [hn]; simp))))

set_option maxRecDepth 8000 in
set_option maxHeartbeats 1000000 in
theorem copy_any (v : V) (x : X) (w : World) (h : Is w v x) (hbk : v.bulk ≤ 4194304) :
    Calls Tryd.prog 21 #[x.v] w fun e w' => ∃ y T K, e = .returned y.v ∧ Copied w w' v y T K := by
  obtain ⟨i5, hi5, hz5, hs5, hb5⟩ := info_parts infoData
  have HW := Lib.hid fun w' => walkOf_opn x w'
  have HX := Lib.hid h
  have HOF := Lib.hid fun w1 g => out_first (w := w) (w1 := w1) (g := g) h
  obtain ⟨k, n, s, ka, kn, kc, la, ln, lc⟩ := x
  simp only [X.v] at *
  clear h
  go_enter Tryd.func21, Tryd.ntmps21
  go_wp2_with fail
  refine (HW.out _).mono ?_
  rintro e w1 ⟨g, rfl, hg0, ho, hb1⟩
  have hg0' : w.heap.size + 2 ≤ g := by simp at hg0; omega
  have hB1 : Below w.heap.size w w1 := ((below_alloc w _).trans ((below_alloc _ _).mono (by simp))).trans (hb1.mono (by simp; omega))
  have hz : w1.heap[w.heap.size + 1]? = some zrow := by
    rw [hb1.block _ (by simp)]
    exact hp_new (by simp)
  have HOut := Lib.hid (HOF.out w1 g ho hg0' hB1 hz)
  have hg1 := ho.lt
  have hcell : w1.cell? ⟨g + 1, 0, none⟩ = some (.slice (some ⟨g, 0, none⟩) 1 1) := by rw [cell_of_row w1 (g + 1) 0 _ _ _ ho.2]; rfl
  clear hz hB1 hb1 ho HW HOF hg0
  go_wp2_with fail
  obtain ⟨w2, hw2⟩ : ∃ w2, w2 = w1.alloc (.cells #[.slice (some ⟨g + 1, 0, none⟩) 1 1] 41) := ⟨_, rfl⟩
  obtain ⟨b1, hb1⟩ : ∃ b1, b1 = w1.heap.size := ⟨_, rfl⟩
  obtain ⟨lo, hlo⟩ : ∃ lo, lo = w.heap.size := ⟨_, rfl⟩
  rw [← hw2, ← hb1, ← hlo] at HOut
  rw [← hw2, ← hb1, ← hlo]
  have HLO := Lib.hid hlo
  clear hw2 hb1 hlo hcell hg1
  go_loopg [] v.bulk (fun q wr => ∃ (st : List Pl) (T : Ty) (K : Ky), Hid (Out w lo (lo + 2) (lo + 1) b1 g v st wr T K) ∧ sumL V.bulks st ≤ q ∧ q ≤ 4194304 ∧ Hid (∀ p ∈ st, p.d + q ≤ 4194305))
  case atStart =>
    refine ⟨[first g v], T1 g v, K1, HOut, ?_, hbk, ?_⟩
    · simp [sumL, first, V.bulks]
    · intro p hp
      simp at hp
      subst hp
      show 1 + v.bulk ≤ _
      omega
  case round =>
    obtain ⟨st, T, K, HO, hload, hq, hdep⟩ := hrel
    by_cases h0 : st = []
    · subst h0
      obtain ⟨A, c, hc⟩ := HO.out.stk.open
      obtain ⟨_, _, htg, hel⟩ := HO.out.hp.t g _ HO.out.root
      obtain ⟨y, hy, _⟩ := hel 0 (by simp)
      have hown : Hid (Own1 T K v y) := by
        rcases HO.out.done g _ HO.out.root with ⟨p, hp, _⟩ | hd
        · cases hp
        · obtain ⟨z, z1, z2⟩ := hd 0 (by simp)
          rw [at_inj hy z1]
          exact z2
      obtain ⟨c0, c1, c2, c3, c4⟩ := hy
      rw [Nat.zero_mul] at c0 c1 c2 c3 c4
      obtain ⟨yk, yn, ys, yka, ykn, ykc, yla, yln, ylc⟩ := y
      simp only at c0 c1 c2 c3 c4
      have hres := HO.out.res
      unfold zrow at hres
      have e0 : wr.cell? ⟨lo + 1, 0, none⟩ = some (.int .i64 0) := by rw [cell_of_row wr (lo + 1) 0 _ _ _ hres]; rfl
      have e1 : wr.cell? ⟨lo + 1, 1, none⟩ = some (.int .i64 0) := by rw [cell_of_row wr (lo + 1) 1 _ _ _ hres]; rfl
      have e2 : wr.cell? ⟨lo + 1, 2, none⟩ = some (.string ⟨#[]⟩) := by rw [cell_of_row wr (lo + 1) 2 _ _ _ hres]; rfl
      have e3 : wr.cell? ⟨lo + 1, 3, none⟩ = some (.slice none 0 0) := by rw [cell_of_row wr (lo + 1) 3 _ _ _ hres]; rfl
      have e4 : wr.cell? ⟨lo + 1, 4, none⟩ = some (.slice none 0 0) := by rw [cell_of_row wr (lo + 1) 4 _ _ _ hres]; rfl
      have q0 : ∀ o, wr.frozen? ⟨lo + 1, o, none⟩ = false := fun o => by simp [World.frozen?, hres]
      have f0 := q0 0
      have f1 := q0 1
      have f2 := q0 2
      have f3 := q0 3
      have f4 := q0 4
      have hres' := Lib.hid hres
      clear hel htg hres q0
      go_wp2_with fail
      have hlo := HLO.out
      subst hlo
      have p4 : (put5 wr (w.heap.size + 1) 0 ⟨yk, yn, ys, yka, ykn, ykc, yla, yln, ylc⟩).heap[w.heap.size + 1]? = some (.cells #[.int .i64 yk, .int .i64 yn, .string ys, .slice yka ykn ykc, .slice yla yln ylc] 25 (0, 0)) :=
        put5_row hres'.out ⟨yk, yn, ys, yka, ykn, ykc, yla, yln, ylc⟩
      have hcp := HO.out.copied (y := ⟨yk, yn, ys, yka, ykn, ykc, yla, yln, ylc⟩) hown.out
      rw [← put5_lit]
      generalize put5 wr (w.heap.size + 1) 0 ⟨yk, yn, ys, yka, ykn, ykc, yla, yln, ylc⟩ = we at *
      exact bodyPost_ret (results_cell_row rfl _ _ (w.heap.size + 1) 25 _ (0, 0) _ rfl p4 Tryd.underlying25 rfl (by rw [hi5]; simp [hs5])) rfl ⟨⟨yk, yn, ys, yka, ykn, ykc, yla, yln, ylc⟩, T, K, rfl, hcp⟩
    · obtain ⟨st', p, rfl⟩ := snoc_of st h0
      obtain ⟨pA, pc, pl, pd⟩ := p
      obtain ⟨n0, hA, hn0⟩ := HO.out.pls _ (List.mem_append.2 (.inr (List.mem_singleton.2 rfl)))
      simp only at hA hn0
      subst hA
      have hpl : Hid (∀ q ∈ st', ∃ n, q.A = some ⟨n, 0, none⟩ ∧ T n = some q.l) := fun q hq => HO.out.pls q (by simp [hq])
      have hne : pl ≠ [] := (HO.out.hp.t n0 _ hn0).2.1
      have hst' : st'.length ≤ 4194304 - 1 := by
        have := len_load (st := st' ++ [⟨some ⟨n0, 0, none⟩, pc, pl, pd⟩]) fun q hq => by
          obtain ⟨n, _, e⟩ := HO.out.pls q hq
          exact (HO.out.hp.t n _ e).2.1
        simp at this
        omega
      have hst2 : st'.length + pl.length ≤ 4194304 := by
        have := len_load (st := st') fun q hq => by
          obtain ⟨n, _, e⟩ := HO.out.pls q (by simp [hq])
          exact (HO.out.hp.t n _ e).2.1
        have h2 := length_le_bulks pl
        rw [sumL_one] at hload
        simp only at hload
        omega
      have hstk := HO.out.stk
      obtain ⟨A, c, hc⟩ := hstk.open
      rw [List.map_append] at hstk hc
      have hlen : ((st'.map Pl.pr) ++ [(⟨some ⟨n0, 0, none⟩, pc, pl, pd⟩ : Pl)].map Pl.pr).length = st'.length + 1 := by simp
      rw [hlen] at hc
      have HL := Lib.hid (leave_any (Fx lo (lo + 1) T K) b1 (st'.map Pl.pr) (Pl.pr ⟨some ⟨n0, 0, none⟩, pc, pl, pd⟩) wr HO.out.lt hstk (by simp; omega))
      have HI := Lib.hid fun wl hs hf => HO.out.inn (wl := wl) rfl hn0 hs hf #[.slice (some ⟨n0, 0, none⟩) pl.length pc, .int .i64 pd]
      have hdp := hdep.out _ (List.mem_append.2 (.inr (List.mem_singleton.2 rfl)))
      have hroot := Lib.hid HO.out.root
      rw [sumL_one] at hload
      simp only at hload hdp
      have hlp : 1 ≤ pl.length := by
        cases hl : pl with
        | nil => exact absurd hl hne
        | cons _ _ => simp
      have hbp := length_le_bulks pl
      have hplb : V.bulks pl ≤ 4194304 := by omega
      clear hstk hlen h0 hne HO
      simp only [Pl.pr, Pr.v] at HL
      go_wp2_with fail
      refine HL.out.mono ?_
      rintro e wl ⟨rfl, hs1, hf1⟩
      have HI0 := Lib.hid (HI.out wl hs1 hf1)
      obtain ⟨p5, hp5⟩ : ∃ p5, p5 = wl.heap.size := ⟨_, rfl⟩
      obtain ⟨wa, hwa⟩ : ∃ wa, wa = wl.alloc (.cells #[.slice (some ⟨n0, 0, none⟩) pl.length pc, .int .i64 pd] 44) := ⟨_, rfl⟩
      rw [← hp5, ← hwa] at HI0
      have HWA := Lib.hid hwa
      have HP5 := Lib.hid hp5
      clear HI HL hc hs1 hf1 hwa hp5
      go_wp2_with fail
      rw [← HWA.out, ← HP5.out]
      clear HWA HP5
      go_loopw [20] (fun i wr' => ∃ (j : Nat) (T' : Ty) (K' : Ky), j ≤ pl.length ∧ i = .int .i64 j ∧ Hid (Inn w lo (lo + 2) (lo + 1) p5 b1 n0 #[.slice (some ⟨n0, 0, none⟩) pl.length pc, .int .i64 pd] st' pl T j wr' T' K'))
        (fun i _ => pl.length - (intOf i).toNat)
      case atStart => exact ⟨0, T, K, Nat.zero_le _, rfl, HI0⟩
      case round =>
        obtain ⟨j, T', K', hj, rfl, HIn⟩ := hrel
        by_cases hlt : j < pl.length
        · obtain ⟨_, _, htyp, hel⟩ := HIn.out.hp.t n0 _ HIn.out.at0
          obtain ⟨y, hy, hey⟩ := hel j hlt
          obtain ⟨ys, hys, hrow, heys⟩ := HIn.out.hp.row HIn.out.lo_le hey
          have hIs := HIn.out.hp.read HIn.out.lo_le _ _ hey
          have HD := Lib.hid fun w' (hb : Below wr.heap.size wr w') => detached_any pl[j] y ys w' (Is.below hb _ _ hIs) hys (hrow.imp id fun ⟨g, o, e1, e2, e3⟩ => ⟨g, o, e1, Nat.lt_of_lt_of_le e2 hb.size, fun i hi => (e3 i hi).below e2 hb⟩) (Nat.le_trans (bulk_le_of_mem (List.getElem_mem hlt)) hplb)
          have HST := Lib.hid fun w1 (hb : Below wr.heap.size wr w1) ka kc la lc h1 h2 h3 h4 => HIn.out.step hlt hb (ka := ka) (kc := kc) (la := la) (lc := lc) h1 h2 h3 h4 hys heys
          have hplc : wr.cell? ⟨p5, 0, none⟩ = some (.slice (some ⟨n0, 0, none⟩) pl.length pc) := by rw [cell_of_row wr p5 0 _ _ _ HIn.out.pl]; rfl
          have hp5 : p5 < wr.heap.size := (Array.getElem?_eq_some_iff.1 HIn.out.pl).1
          have hnp := HIn.out.np.1
          have hn0s := htyp.lt
          have HTY := Lib.hid htyp
          have HY := Lib.hid hy
          obtain ⟨c0, c1, c2, c3, c4⟩ := hy
          obtain ⟨yk, yn, yS, yka, ykn, ykc, yla, yln, ylc⟩ := y
          simp only [X.v] at *
          clear htyp hel hey hrow heys hIs HIn hys
          go_wp2_with fail
          go_region_with
            ((first
              | (go_at_call 37; refine (HD.out _ (Below.refl _ _).drew).mono ?_; rintro e wd ⟨ka', kc', la', lc', rfl, hk1, hk2, hk3, hk4, hbd⟩; have hbd2 : Below wr.heap.size wr wd := (Below.refl _ wr).drew.trans hbd; have dp := (hbd2.cell (p := ⟨p5, 0, none⟩) hp5).trans hplc; obtain ⟨d0, d1, d2, d3, d4⟩ := HY.out.below hn0s hbd2; have hty := HTY.out.fr (Fr.of hbd2 fun _ h => h) hn0s; have f0 := hty.free (o := j * 5); have f1 := hty.free (o := j * 5 + 1); have f2 := hty.free (o := j * 5 + 2); have f3 := hty.free (o := j * 5 + 3); have f4 := hty.free (o := j * 5 + 4))))
          all_goals
            obtain ⟨T'', K'', HN⟩ := HST.out wd hbd2 ka' kc' la' lc' hk1 hk2 hk3 hk4
            have HNN := Lib.hid HN
            clear HN d0 d1 d2 d3 d4 f0 f1 f2 f3 f4 hty dp hbd hbd2 hk1 hk2 hk3 hk4 HST HD HY HTY c0 c1 c2 c3 c4
            rw [← put5_lit']
            generalize put5 wd n0 (j * 5) ⟨pl[j].k, pl[j].n, pl[j].s, ka', pl[j].ks.length, kc', la', pl[j].l.length, lc'⟩ = wn at *
            go_wp2_with fail
            go_roundw
            case rel => exact ⟨j + 1, T'', K'', by omega, by go_num, HNN⟩
            case measure => simp [intOf]; omega
        · obtain rfl : j = pl.length := by omega
          obtain ⟨ps, h1, h2, h3⟩ := HIn.out.pairs
          have hIs : ∀ q ∈ ps, Is wr q.1 q.2 := fun q hq => HIn.out.hp.read HIn.out.lo_le _ _ (.inr (h3 q hq))
          have hlen : (ps.map (·.2)).length = pl.length := by rw [← h1]; simp
          have hF0 : Fz lo (lo + 1) p5 T' K' n0 := .inl (.inr (.inl (by rw [HIn.out.at0]; simp)))
          have HE := Lib.hid (enter_any (Fz lo (lo + 1) p5 T' K') b1 (st'.map Pl.pr) (some ⟨n0, 0, none⟩) (ps.map (·.2)) pc pd wr HIn.out.lt HIn.out.stk (.inr ⟨n0, 0, rfl, hF0, h2⟩) (by rw [hlen]; simp; omega) (by omega) (by omega))
          rw [hlen, ← kidsP_pr pd ps hIs, ← List.map_append] at HE
          have HOO := Lib.hid fun we hs hf => HIn.out.out (we := we) (d := pd) h1 h2 h3 hs hf hpl.out hroot.out
          have hk2 := kidsP_sum V.bulks rfl pd ps hIs
          rw [h1] at hk2
          have hsb := sum_bulks pl
          have hload' : Hid (sumL V.bulks (st' ++ kidsP pd ps) ≤ gk - 1) := by
            rw [sumL_append, hk2]
            refine Lib.hid ?_
            omega
          have hdep' : Hid (∀ q ∈ st' ++ kidsP pd ps, q.d + (gk - 1) ≤ 4194305) := by
            intro q hq
            rcases List.mem_append.1 hq with hq | hq
            · have := hdep.out q (by simp [hq])
              omega
            · unfold kidsP at hq
              obtain ⟨u, _, rfl⟩ := List.mem_map.1 hq
              show pd + 1 + _ ≤ _
              omega
          have c0 : wr.cell? ⟨p5, 0, none⟩ = some (.slice (some ⟨n0, 0, none⟩) pl.length pc) := by rw [cell_of_row wr p5 0 _ _ _ HIn.out.pl]; rfl
          have c1 : wr.cell? ⟨p5, 1, none⟩ = some (.int .i64 pd) := by rw [cell_of_row wr p5 1 _ _ _ HIn.out.pl]; rfl
          generalize kidsP pd ps = kp at *
          clear hIs h1 h2 h3 hlen hF0 hk2 hsb HIn
          go_wp2_with fail
          refine HE.out.mono ?_
          rintro e we ⟨rfl, hs, hf⟩
          have HOX := Lib.hid (HOO.out we hs hf)
          clear hs hf HOO HE c0 c1
          go_wp2_with fail
          go_roundg (gk - 1)
          case measure => omega
          case rel => exact ⟨st' ++ kp, T', K', HOX, hload'.out, by omega, hdep'⟩
end Go.Proofs.YtnjcofjphneccaaDoor
