/-
 The reference's cut, by contract.
 The reference's length, by contract.
 The reference's Delete, by contract.
-/
import Derived.Test.YtcahijpbkjplmaaGreatDoorMLg
import Derived.Test.YtcahijpbkjplmaaGreatDoorMRm
import Derived.Test.YtcahijpbkjplmaaGreatDoorMZ0
set_option linter.unusedSimpArgs false
namespace Go.Proofs.YtcahijpbkjplmaaGreatDoor.G
open Go.RowKit Go.Shelf Go.Maps Go.Lib Go.Proofs.YtcahijpbkjplmaaGreatDoor
section
variable {w w' w1 w2 : World} {ow ow1 ow2 : Nat → Option Nat} {A i : Nat} {H H1 H2 Hc : Hs} {R R1 R2 : List Value} {o o' : Ob}
def bm : Option (Nat × Nat) → Int
 | none => -1
 | some q => q.2
def bp : Option (Nat × Nat) → Int
 | none => -1
 | some q => q.1
theorem bm_all (b : Option (Nat × Nat)) (x : Nat) : (b.all (fun y => decide (y.2 < x)) = true) ↔ (bm b < (x : Int)) := by
 cases b with
 | none => simp [bm]; omega
 | some q => simp [bm]
theorem worst_next {n k : Nat} {ps : List Pr} {p : Pr} {b : Option (Nat × Nat)} (hp : ps[k]? = some p) :
  worst ix n (ps.drop k) k b = worst ix n (ps.drop (k + 1)) (k + 1) (match ix p.key with
   | some x => if n ≤ x ∧ bm b < (x : Int) then some (k, x) else b
   | none => b) := by
 obtain ⟨h1, h2⟩ := List.getElem?_eq_some_iff.1 hp
 rw [List.drop_eq_getElem_cons h1, h2, worst]
 congr 1
 cases ix p.key with
 | none => rfl
 | some x =>
  dsimp only
  by_cases hx : n ≤ x ∧ bm b < (x : Int)
  ·rw [if_pos hx, if_pos ⟨hx.1, (bm_all b x).2 hx.2⟩]
  ·rw [if_neg hx, if_neg fun e => hx ⟨e.1, (bm_all b x).1 e.2⟩]
theorem elemPr : Tryz.prog.elem 71 = 31 := by kernel_rfl
theorem undPr : Tryz.prog.underlying 71 = some (.slice (Tryz.prog.elem 71)) := by rw [elemPr]; exact Tryz.underlying71
theorem sizePr (w : World) : (sizeOf (Tryz.prog.elem 71)).run Tryz.prog w = .ok 7 w := by
 obtain ⟨i0, hi, hz0, hz1, hz2⟩ := info_parts infoPr'
 rw [elemPr]
 simp [sizeOf, typeInfo, hi, hz1]
def cutP (c k : Nat) : Nat := if c = k then 0 else k * 7
theorem slice_hP (w : World) (g n c k : Nat) (hk : k ≤ c) : (Instr.slice 71 (.slice (some ⟨g, 0, none⟩) n c) none (some (.int .i64 (k : Int))) none).run Tryz.prog w = .ok (.slice (some ⟨g, 0, none⟩) k c) w := by
 rw [run_slice_h w _ _ n c undPr .i64 (k : Int) (by omega) (by omega), sizePr]
 simp only [Result.andThen, sliced, Int.toNat_natCast, Nat.zero_mul, Nat.sub_zero]
 split <;> rfl
theorem slice_lP (w : World) (g n c k : Nat) (hk : k ≤ n) : (Instr.slice 71 (.slice (some ⟨g, 0, none⟩) n c) (some (.int .i64 (k : Int))) none none).run Tryz.prog w = .ok (.slice (some ⟨g, cutP c k, none⟩) (n - k) (c - k)) w := by
 rw [run_slice_l w _ _ n c undPr .i64 (k : Int) (by omega) (by omega), sizePr]
 simp only [Result.andThen, sliced, Int.toNat_natCast, cutP]
 split
 ·rfl
 ·simp only [Option.map_some, add_lit, Nat.zero_add]
theorem flat_len7 (l : List Pr) : (l.map Pr.cs).flatten.length = l.length * 7 := by
 induction l with
 | nil => rfl
 | cons a l ih =>
  rw [List.map_cons, List.flatten_cons, List.length_append, prV_len, ih, List.length_cons]
  omega
theorem flat_one (l : List Pr) : ∀ u ∈ (l.map Pr.cs).flatten, u.oneCell' = true := by
 intro u hu
 obtain ⟨a, ha, hu⟩ := List.mem_flatten.1 hu
 obtain ⟨p, -, rfl⟩ := List.mem_map.1 ha
 simp only [Pr.cs, List.mem_cons, List.not_mem_nil, or_false] at hu
 rcases hu with rfl | rfl | rfl | rfl | rfl | rfl | rfl <;> rfl
theorem flat_take (l : List Pr) (k : Nat) {j : Nat} {u : Value} (h : ((l.take k).map Pr.cs).flatten[j]? = some u) : (l.map Pr.cs).flatten[j]? = some u := by
 have e : (l.map Pr.cs).flatten = ((l.take k).map Pr.cs).flatten ++ ((l.drop k).map Pr.cs).flatten := by
  rw [← List.flatten_append, ← List.map_append, List.take_append_drop]
 rw [e, List.getElem?_append_left (List.getElem?_eq_some_iff.1 h).1]
 exact h
theorem flat_drop (l : List Pr) (k : Nat) (hk : k ≤ l.length) {j : Nat} {u : Value} (h : ((l.drop k).map Pr.cs).flatten[j]? = some u) : (l.map Pr.cs).flatten[k * 7 + j]? = some u := by
 have e : (l.map Pr.cs).flatten = ((l.take k).map Pr.cs).flatten ++ ((l.drop k).map Pr.cs).flatten := by
  rw [← List.flatten_append, ← List.map_append, List.take_append_drop]
 have e2 : ((l.take k).map Pr.cs).flatten.length = k * 7 := by rw [flat_len7, List.length_take, Nat.min_eq_left hk]
 rw [e, List.getElem?_append_right (by rw [e2]; omega), e2, Nat.add_sub_cancel_left]
 exact h
theorem own_low0 {w : World} {B e size n : Nat} {v : Value} {xs : List Value} (h : w.ownsRow B e size v n xs) : w.ownsRow 0 e size v n xs := by
 refine ⟨h.1, ?_⟩
 rcases h.2 with h0 | ⟨g, cap, cur, h1, h2, h3⟩
 ·exact .inl h0
 ·exact .inr ⟨g, cap, cur, h1, Nat.zero_le _, h3⟩
theorem erase_two (l : List Pr) (k : Nat) : l.eraseIdx k = l.take k ++ l.drop (k + 1) := List.eraseIdx_eq_take_drop_succ ..
theorem set_set2 (a b : Ob) : (H.set i a).set i b = H.set i b := by
 unfold Hs.set
 rw [List.set_set]
set_option maxRecDepth 8000 in
set_option maxHeartbeats 4000000 in
theorem rcut_any (h : RH w A H ow R) (gd : Gd H) (ho : H.os[i]? = some o) (hcls : o.cls = AR) (n : Nat) (hn : n ≤ 1000) :
  Calls Tryz.prog 89 #[pv A, .int .i64 (i : Int), .int .i64 (n : Int)] w (RpR w A ow (.int .i64 (o.cut ix n).2) (H.set i (o.cut ix n).1)) := by
 obtain ⟨g, cap, hcap, hrg⟩ := Rg.start h ho
 have hil := (List.getElem?_eq_some_iff.1 ho).1
 have hii : (i : Int) < (H.os.length : Int) := by omega
 have hog := gd.og i o ho
 have HO0 := Lib.hid ho
 have HN := Lib.hid hn
 have HS0 : Hid (Rg w ow A g cap H.os.length (H.set i o) w ow R) := by rw [set_same ho]; exact hrg
 have HB0 : Hid (o.ps.length ≤ o.ps.length ∧ ∀ p ∈ o.ps, p.key.size ≤ 16777216 ∧ ∀ y, ix p.key = some y → y ≤ 1000) := ⟨Nat.le_refl _, fun p hp => ⟨(hog.s p hp).1, fun y hy => by have h1 := (hog.a hcls).2 p hp y hy; have h2 := (hog.a hcls).1; omega⟩⟩
 have HL0 : Hid (o.ps.length ≤ 100000) := Nat.le_trans hog.l gd.n100
 obtain ⟨oc, HOC⟩ : ∃ oc, Hid (o.cut ix n = oc) := ⟨_, rfl⟩
 rw [HOC.out]
 have HC0 : Hid (Ob.cut ix o n = oc) := HOC
 have c0 := hrg.c0
 clear h gd ho hcls hn hil hog hrg hcap
 go_enter Tryz.func89, Tryz.ntmps89
 go_wp2_with fail
 clear c0
 generalize hq0 : o.ps.length = q0 at HB0
 go_loopg [8, 9] q0 (fun q a b wr => ∃ (o' : Ob) (ow' : Nat → Option Nat) (R' : List Value), Hid (Rg w ow A g cap H.os.length (H.set i o') wr ow' R') ∧ Hid (Ob.cut ix o' n = oc) ∧ Hid (o'.ps.length ≤ q ∧ ∀ p ∈ o'.ps, p.key.size ≤ 16777216 ∧ ∀ y, ix p.key = some y → y ≤ 1000) ∧ Hid (o'.ps.length ≤ 100000))
 case atStart => exact ⟨o, ow, R, HS0, HC0, by rw [hq0]; exact HB0, HL0⟩
 case round =>
  obtain ⟨o', ow', R', HR, HC, HB, HL⟩ := hrel
  have HO : Hid ((H.set i o').os[i]? = some o') := set_getO HO0.out
  obtain ⟨r, hr, hc⟩ := HR.out.cell HO.out
  have HRR := Lib.hid hr
  have HPW := Lib.hid (HR.out.ph.prow HO.out hr)
  obtain ⟨rA, rc, hre, hlc, -⟩ := HPW.out
  subst hre
  have c4 := (hc 4 _ rfl).1
  have hpl : (o'.ps.length : Int) ≤ 100000 := by have := HL.out; omega
  have hwr : ∃ w3, w3 = wr := ⟨_, rfl⟩
  obtain ⟨w3, hwr⟩ := hwr
  subst hwr
  clear hr hc
  go_wp2_with fail
  go_loopw [8, 9, 25] (fun a c x wr => ∃ (k : Nat) (b : Option (Nat × Nat)), k ≤ o'.ps.length ∧ x = .int .i64 k ∧ a = .int .i64 (bm b) ∧ c = .int .i64 (bp b) ∧ Hid (worst ix n (o'.ps.drop k) k b = worst ix n o'.ps 0 none) ∧ Hid (Below w3.heap.size w3 wr)) (fun _ _ x _ => o'.ps.length - (intOf x).toNat)
  case atStart => exact ⟨0, none, Nat.zero_le _, rfl, rfl, rfl, Lib.hid rfl, Lib.hid (Below.refl _ _)⟩
  case round =>
   obtain ⟨k, b, hk, rfl, rfl, rfl, HW, HBW⟩ := hrel
   by_cases hlt : k < o'.ps.length
   ·obtain ⟨p, HP⟩ : ∃ p, Hid (o'.ps[k]? = some p) := ⟨_, List.getElem?_eq_getElem hlt⟩
    obtain ⟨rA', rc', e1, -, hcs⟩ := HPW.out.low HBW.out
    injection e1 with e1 _ e2
    subst e1 e2
    obtain ⟨gg, rfl, -, hc⟩ := hcs k p HP.out
    have d0 := hc 0 _ rfl
    have d1 := hc 1 _ rfl
    have d2 := hc 2 _ rfl
    have d3 := hc 3 _ rfl
    have d4 := hc 4 _ rfl
    have d5 := hc 5 _ rfl
    have d6 := hc 6 _ rfl
    simp only [Nat.add_zero] at d0
    have hi : (k : Int) < (o'.ps.length : Int) := by omega
    have HLT := Lib.hid hlt
    have HBN : Hid (∀ o : Obj, Below w3.heap.size w3 (wr.alloc o)) := fun o => HBW.out.trans ((below_new wr o).mono HBW.out.size)
    have HMB := HB.out.2 p (List.mem_of_getElem? HP.out)
    have HI := Lib.hid fun w => refIndex_any p.key w HMB.1
    have HNX := Lib.hid ((worst_next (b := b) HP.out).symm.trans HW.out)
    have HIX : Hid (ix p.key = idx (us p.key.data.toList)) := rfl
    have HX1 := Lib.hid HMB.2
    clear hcs hc hlt HMB HW
    go_wp2_with fail
    refine (HI.out _).mono ?_
    rintro e w4 ⟨rfl, hb⟩
    have HB4 := Lib.hid ((HBN.out _).trans (hb.mono (HBN.out _).size))
    clear hb HI HBN HBW
    cases hx : idx (us p.key.data.toList) with
    | none =>
     rw [HIX.out, hx] at HNX
     dsimp only at HNX
     simp only [idxRes]
     clear hx HIX HX1
     go_wp2_with fail
     go_roundw
     case rel => exact ⟨k + 1, b, HLT.out, rfl, rfl, rfl, HNX, HB4⟩
     case measure => simp [intOf]; omega
    | some x =>
     have hx1 := HX1.out x (HIX.out.trans hx)
     rw [HIX.out, hx] at HNX
     dsimp only at HNX
     simp only [idxRes]
     by_cases h1 : n ≤ x
     ·have hj : (n : Int) ≤ (x : Int) := by omega
      by_cases h2 : bm b < (x : Int)
      ·rw [if_pos ⟨h1, h2⟩] at HNX
       clear hx HIX HX1 h1
       go_wp2_with fail
       go_roundw
       case rel => exact ⟨k + 1, some (k, x), HLT.out, rfl, rfl, rfl, HNX, HB4⟩
       case measure => simp [intOf]; omega
      ·rw [if_neg (fun e => h2 e.2)] at HNX
       clear hx HIX HX1 h1
       go_wp2_with fail
       go_roundw
       case rel => exact ⟨k + 1, b, HLT.out, rfl, rfl, rfl, HNX, HB4⟩
       case measure => simp [intOf]; omega
     ·rw [if_neg (fun e => h1 e.1)] at HNX
      have hj : ¬ (n : Int) ≤ (x : Int) := by omega
      clear hx HIX HX1 h1
      go_wp2_with fail
      go_roundw
      case rel => exact ⟨k + 1, b, HLT.out, rfl, rfl, rfl, HNX, HB4⟩
      case measure => simp [intOf]; omega
   ·obtain rfl : k = o'.ps.length := by omega
    have HWB : Hid (worst ix n o'.ps 0 none = b) := by
     have := HW.out
     rw [List.drop_length, worst] at this
     exact this.symm
    have HR4 := Lib.hid (HR.out.low HBW.out)
    obtain ⟨hcell, hrow⟩ := HR4.out.pcell HO.out HRR.out
    have c4 := (hcell 4 _ rfl).1
    have c6 := (hcell 6 _ rfl).1
    have z6 := (hcell 6 _ rfl).2
    dsimp only at c6
    clear hcell HW HBW
    cases b with
    | none =>
     simp only [bm, bp]
     obtain ⟨HR5, -⟩ := HR4.out.put (j := 6) (o' := { o' with len := n }) (u := .int .i64 (n : Int)) HO.out HRR.out (by decide) rfl rfl
     have HR5 := Lib.hid HR5
     have HE := Lib.hid (HC.out.symm.trans (cut_none ix HWB.out))
     clear hrow
     go_wp2_with fail
     go_ret
     refine ⟨by rw [HE.out]; rfl, ow', R', ?_⟩
     rw [HE.out]
     have := HR5.out.out
     rw [set_set2] at this
     exact this
    | some q =>
     obtain ⟨pl, x⟩ := q
     simp only [bm, bp]
     obtain ⟨p, hp, hxp, hnx, -⟩ := worst_some ix HWB.out
     have HP := Lib.hid hp
     have hpl2 := (List.getElem?_eq_some_iff.1 hp).1
     have hx1 := (HB.out.2 p (List.mem_of_getElem? hp)).2 x hxp
     have hi : ¬ (pl : Int) < 0 := by omega
     have hi2 : (pl : Int) < (o'.ps.length : Int) := by omega
     obtain ⟨rA', rc', e1, hlc2, hcs⟩ := HR4.out.ph.prow HO.out HRR.out
     injection e1 with e1 _ e2
     subst e1 e2
     obtain ⟨rb, rfl, -, hpc⟩ := hcs pl p hp
     have d6 := hpc 6 _ rfl
     have hwx : IntKind.i64.wrap ((x : Int) + 1) = (x : Int) + 1 := IntWalk.i64_in _ (by omega)
     have HPL := Lib.hid hpl2
     clear hcs hpc hxp hnx
     cases hf : p.f with
     | false =>
      rw [hf] at d6
      have HE := Lib.hid (HC.out.symm.trans (cut_bar ix HWB.out hp hf))
      have hput := (HR4.out.put (j := 6) (o' := { o' with len := x + 1 }) (u := .int .i64 ((x + 1 : Nat) : Int)) HO.out HRR.out (by decide) rfl rfl).1
      rw [show ((x + 1 : Nat) : Int) = (x : Int) + 1 by omega, set_set2] at hput
      have HR5 := Lib.hid hput
      clear hrow hput hf hp hlc2
      go_wp2_with fail
      go_ret
      refine ⟨by rw [HE.out]; rfl, ow', R', ?_⟩
      rw [HE.out]
      exact HR5.out.out
     | true =>
      rw [hf] at d6
      have HE := Lib.hid ((cut_go ix HWB.out hp hf).symm.trans HC.out)
      have HRC := Lib.hid hlc2
      have HR5 := Lib.hid (HR4.out.low (below_draw wr))
      have hwp : IntKind.i64.wrap ((pl : Int) + 1) = (pl : Int) + 1 := IntWalk.i64_in _ (by omega)
      have hsh : ∀ w', (Instr.slice 71 (.slice (some ⟨rb, 0, none⟩) o'.ps.length rc) none (some (.int .i64 (pl : Int))) none).run Tryz.prog w' = .ok (.slice (some ⟨rb, 0, none⟩) pl rc) w' := fun w' => slice_hP w' rb _ rc pl (by omega)
      have hsl : ∀ w', (Instr.slice 71 (.slice (some ⟨rb, 0, none⟩) o'.ps.length rc) (some (.int .i64 ((pl : Int) + 1))) none none).run Tryz.prog w' = .ok (.slice (some ⟨rb, cutP rc (pl + 1), none⟩) (o'.ps.length - (pl + 1)) (rc - (pl + 1))) w' := fun w' => slice_lP w' rb _ rc (pl + 1) (by omega)
      have hsh2 : ∀ w', (Instr.sliceAt 71 (.slice (some ⟨rb, 0, none⟩) o'.ps.length rc) none (some (.int .i64 (pl : Int))) none).run Tryz.prog w' = .ok (.slice (some ⟨rb, 0, none⟩) pl rc) w' := fun w' => (run_sliceAt_slice w' _ _ _ _ _ undPr).trans (hsh w')
      have hsl2 : ∀ w', (Instr.sliceAt 71 (.slice (some ⟨rb, 0, none⟩) o'.ps.length rc) (some (.int .i64 ((pl : Int) + 1))) none none).run Tryz.prog w' = .ok (.slice (some ⟨rb, cutP rc (pl + 1), none⟩) (o'.ps.length - (pl + 1)) (rc - (pl + 1))) w' := fun w' => (run_sliceAt_slice w' _ _ _ _ _ undPr).trans (hsl w')
      clear hrow hf hp hlc2
      go_wp2_with fail
      refine wp_region_held_drew (S := (fun _ : World => True)) (by kernel_rfl) (trivial) (fun hHeld0 => ?_)
      generalize wr.drew = w5 at *
      clear c4 c6 z6 d6
      refine tk 0 ?_ ‹_› ?_ ?_; rotate_left; focus (intro w0 hSw; go_simp; try with_reducible rfl)
      refine tk 1 ?_ ‹_› ?_ ?_; rotate_left; focus (intro w0 hSw; go_simp; try with_reducible rfl)
      refine tk 2 ?_ ‹_› ?_ ?_; rotate_left; focus (intro w0 hSw; go_simp; try with_reducible rfl)
      refine tk 3 ?_ ‹_› ?_ ?_; rotate_left; focus (intro w0 hSw; go_simp; try with_reducible rfl)
      refine tk 5 ?_ ‹_› ?_ ?_; rotate_left; focus (intro w0 hSw; go_simp; try with_reducible rfl)
      refine tk 8 ?_ ‹_› ?_ ?_; rotate_left; focus (intro w0 hSw; go_simp; try with_reducible rfl)
      refine tk 9 ?_ ‹_› ?_ ?_; rotate_left; focus (intro w0 hSw; go_simp; try with_reducible rfl)
      refine tk 10 ?_ ‹_› ?_ ?_; rotate_left; focus (intro w0 hSw; go_simp; try with_reducible rfl)
      refine tk 12 ?_ ‹_› ?_ ?_; rotate_left; focus (intro w0 hSw; go_simp; try with_reducible rfl)
      refine tk 13 ?_ ‹_› ?_ ?_; rotate_left; focus (intro w0 hSw; go_simp; try with_reducible rfl)
      try simp only [PT]
      refine wpAnyH_ready (rs := [4, 11]) (by decide +kernel) (by simp) (AllReadyH.cons rfl (fun K hK => ?_) (AllReadyH.cons rfl (fun K hK => ?_) AllReadyH.nil))
      ·
       have c4 := ((HR5.out.pcell HO.out HRR.out).1 4 _ rfl).1
       go_simp
       refine hK.out _ _ trivial (fun hHeld1 => ?_)
       clear hK K hHeld0
       try simp only [PT]
       clear c4
       refine tk 6 ?_ ‹_› ?_ ?_; rotate_left; focus (intro w0 hSw; go_simp; try with_reducible rfl)
       try simp only [PT]
       refine wpAnyH_ready (rs := [7, 11]) (by decide +kernel) (by simp) (AllReadyH.cons rfl (fun K hK => ?_) (AllReadyH.cons rfl (fun K hK => ?_) AllReadyH.nil))
       ·
        obtain ⟨v6, w6, hr6, hrow6, hg6, hn6⟩ := run_appK (w := w5) 71 31 71 _ 7 56 Tryz.underlying71 infoPr' rfl (by decide) (by decide) w5.heap.size (.slice none 0 0) 0 [] (row_nil _ _ _ _) rb 0 pl rc ((o'.ps.take pl).map Pr.cs).flatten (by rw [flat_len7, List.length_take, Nat.min_eq_left (by have := HPL.out; omega)]) (fun j u hj => by rw [Nat.zero_add]; exact (rows_cell (HR5.out.pcell HO.out HRR.out).2 rfl (flat_take _ _ hj)).1) (flat_one _) (by have := HPL.out; have := HL.out; omega) (Nat.le_refl _)
        have HB6 := Lib.hid (grow_low (Below.refl _ _) (Nat.le_refl _) (row_nil w5 w5.heap.size 31 7) hg6)
        have HR6 := Lib.hid (HR5.out.low HB6.out)
        have HW6 := Lib.hid hrow6
        refine step_appK rfl (.const (.slice none 0 0)) (.tmp 76) 71 rfl _ _ rfl rfl _ w6 hr6 ?_
        clear hr6 hrow6 hg6 hn6
        refine hK.out _ _ trivial (fun hHeld2 => ?_)
        clear hK K hHeld1
        try simp only [PT]
        refine wpAnyH_ready (rs := [11]) (by decide +kernel) (by simp) (AllReadyH.cons rfl (fun K hK => ?_) AllReadyH.nil)
        have c4 := ((HR6.out.pcell HO.out HRR.out).1 4 _ rfl).1
        go_simp
        refine hK.out _ _ trivial (fun hHeld3 => ?_)
        clear hK K hHeld2
        try simp only [PT]
        clear c4
        refine tk 14 ?_ ‹_› ?_ ?_; rotate_left; focus (intro w0 hSw; go_simp; try with_reducible rfl)
        try simp only [PT]
        refine wpAnyH_ready (rs := [15]) (by decide +kernel) (by simp) (AllReadyH.cons rfl (fun K hK => ?_) AllReadyH.nil)
        obtain ⟨v7, w7, hr7, hrow7, hg7, hn7⟩ := run_appK (w := w6) 71 31 71 _ 7 56 Tryz.underlying71 infoPr' rfl (by decide) (by decide) w5.heap.size _ _ _ HW6.out rb (cutP rc (pl + 1)) (o'.ps.length - (pl + 1)) (rc - (pl + 1)) ((o'.ps.drop (pl + 1)).map Pr.cs).flatten (by rw [flat_len7, List.length_drop]) (fun j u hj => by
          have hjl := (List.getElem?_eq_some_iff.1 hj).1
          rw [flat_len7, List.length_drop] at hjl
          have h3 := HRC.out
          have h4 := HPL.out
          rw [show cutP rc (pl + 1) = (pl + 1) * 7 from if_neg (by omega)]
          exact (rows_cell (HR6.out.pcell HO.out HRR.out).2 rfl (flat_drop _ _ (by omega) hj)).1) (flat_one _) (by have := HPL.out; have := HL.out; omega) HB6.out.size
        have HB7 := Lib.hid (grow_low HB6.out (Nat.le_refl _) HW6.out hg7)
        obtain ⟨nA, nc, rfl, -, -⟩ := rows_form hrow7
        have HW7 := Lib.hid hrow7
        refine step_appK rfl (.tmp 77) (.tmp 84) 71 rfl _ _ rfl rfl _ w7 hr7 ?_
        clear hr7 hrow7 hg7 hn7
        refine hK.out _ _ trivial (fun hHeld4 => ?_)
        clear hK K hHeld3
        try simp only [PT]
        refine tk 16 ?_ ‹_› ?_ ?_; rotate_left; focus (intro w0 hSw; go_simp; try with_reducible rfl)
        refine tk 17 ?_ ‹_› ?_ ?_; rotate_left; focus (intro w0 hSw; go_simp; try with_reducible rfl)
        try simp only [PT]
        refine wpAnyH_ready (rs := [18]) (by decide +kernel) (by simp) (AllReadyH.cons rfl (fun K hK => ?_) AllReadyH.nil)
        obtain ⟨c4, z4⟩ := HR5.out.gcell HO.out HRR.out (fun k h1 _ => HB7.out.block k h1) (j := 4) rfl
        go_simp
        have hlen : 0 + pl + (o'.ps.length - (pl + 1)) = (o'.ps.eraseIdx pl).length := by rw [List.length_eraseIdx_of_lt HPL.out]; have := HPL.out; omega
        obtain ⟨ow8, HR8, -⟩ := HR5.out.row HO.out HRR.out (ps' := o'.ps.eraseIdx pl) (by
         have h1 := own_low0 HW7.out
         rw [hlen, List.nil_append, ← List.flatten_append, ← List.map_append, ← erase_two] at h1
         rw [← hlen] at h1 ⊢
         exact h1) (fun k h1 _ => HB7.out.block k h1) (.inr fun k e => (HW7.out.lt k e).1) HB7.out.size ⟨HB7.out.os, HB7.out.tape, HB7.out.output⟩
        rw [set_set2, Nat.zero_add] at HR8
        have HR8 := Lib.hid HR8
        have HLE : Hid ((o'.ps.eraseIdx pl).length + 1 = o'.ps.length) := by show _ = _; rw [List.length_eraseIdx_of_lt HPL.out]; have := HPL.out; omega
        refine hK.out _ _ trivial (fun hHeld5 => ?_)
        clear hK K hHeld4 hlen
        refine wpAnyH_done (by kernel_rfl) ?_ _
        clear hHeld5 c4 z4
        go_wp2_with fail
        go_roundg (gk - 1)
        case measure => have := HLE.out; have := HB.out.1; omega
        case rel => exact ⟨{ o' with ps := o'.ps.eraseIdx pl }, ow8, _, HR8, HE, ⟨by have := HLE.out; have := HB.out.1; show (o'.ps.eraseIdx pl).length ≤ _; omega, fun q hq => HB.out.2 q (List.mem_of_mem_eraseIdx hq)⟩, by have := HLE.out; have := HL.out; show (o'.ps.eraseIdx pl).length ≤ _; omega⟩
       ·
        have c4 := ((HR5.out.pcell HO.out HRR.out).1 4 _ rfl).1
        go_simp
        refine hK.out _ _ trivial (fun hHeld2 => ?_)
        clear hK K hHeld1
        try simp only [PT]
        clear c4
        refine tk 14 ?_ ‹_› ?_ ?_; rotate_left; focus (intro w0 hSw; go_simp; try with_reducible rfl)
        try simp only [PT]
        refine wpAnyH_ready (rs := [7]) (by decide +kernel) (by simp) (AllReadyH.cons rfl (fun K hK => ?_) AllReadyH.nil)
        obtain ⟨v6, w6, hr6, hrow6, hg6, hn6⟩ := run_appK (w := w5) 71 31 71 _ 7 56 Tryz.underlying71 infoPr' rfl (by decide) (by decide) w5.heap.size (.slice none 0 0) 0 [] (row_nil _ _ _ _) rb 0 pl rc ((o'.ps.take pl).map Pr.cs).flatten (by rw [flat_len7, List.length_take, Nat.min_eq_left (by have := HPL.out; omega)]) (fun j u hj => by rw [Nat.zero_add]; exact (rows_cell (HR5.out.pcell HO.out HRR.out).2 rfl (flat_take _ _ hj)).1) (flat_one _) (by have := HPL.out; have := HL.out; omega) (Nat.le_refl _)
        have HB6 := Lib.hid (grow_low (Below.refl _ _) (Nat.le_refl _) (row_nil w5 w5.heap.size 31 7) hg6)
        have HR6 := Lib.hid (HR5.out.low HB6.out)
        have HW6 := Lib.hid hrow6
        refine step_appK rfl (.const (.slice none 0 0)) (.tmp 76) 71 rfl _ _ rfl rfl _ w6 hr6 ?_
        clear hr6 hrow6 hg6 hn6
        refine hK.out _ _ trivial (fun hHeld3 => ?_)
        clear hK K hHeld2
        try simp only [PT]
        refine wpAnyH_ready (rs := [15]) (by decide +kernel) (by simp) (AllReadyH.cons rfl (fun K hK => ?_) AllReadyH.nil)
        obtain ⟨v7, w7, hr7, hrow7, hg7, hn7⟩ := run_appK (w := w6) 71 31 71 _ 7 56 Tryz.underlying71 infoPr' rfl (by decide) (by decide) w5.heap.size _ _ _ HW6.out rb (cutP rc (pl + 1)) (o'.ps.length - (pl + 1)) (rc - (pl + 1)) ((o'.ps.drop (pl + 1)).map Pr.cs).flatten (by rw [flat_len7, List.length_drop]) (fun j u hj => by
          have hjl := (List.getElem?_eq_some_iff.1 hj).1
          rw [flat_len7, List.length_drop] at hjl
          have h3 := HRC.out
          have h4 := HPL.out
          rw [show cutP rc (pl + 1) = (pl + 1) * 7 from if_neg (by omega)]
          exact (rows_cell (HR6.out.pcell HO.out HRR.out).2 rfl (flat_drop _ _ (by omega) hj)).1) (flat_one _) (by have := HPL.out; have := HL.out; omega) HB6.out.size
        have HB7 := Lib.hid (grow_low HB6.out (Nat.le_refl _) HW6.out hg7)
        obtain ⟨nA, nc, rfl, -, -⟩ := rows_form hrow7
        have HW7 := Lib.hid hrow7
        refine step_appK rfl (.tmp 77) (.tmp 84) 71 rfl _ _ rfl rfl _ w7 hr7 ?_
        clear hr7 hrow7 hg7 hn7
        refine hK.out _ _ trivial (fun hHeld4 => ?_)
        clear hK K hHeld3
        try simp only [PT]
        refine tk 16 ?_ ‹_› ?_ ?_; rotate_left; focus (intro w0 hSw; go_simp; try with_reducible rfl)
        refine tk 17 ?_ ‹_› ?_ ?_; rotate_left; focus (intro w0 hSw; go_simp; try with_reducible rfl)
        try simp only [PT]
        refine wpAnyH_ready (rs := [18]) (by decide +kernel) (by simp) (AllReadyH.cons rfl (fun K hK => ?_) AllReadyH.nil)
        obtain ⟨c4, z4⟩ := HR5.out.gcell HO.out HRR.out (fun k h1 _ => HB7.out.block k h1) (j := 4) rfl
        go_simp
        have hlen : 0 + pl + (o'.ps.length - (pl + 1)) = (o'.ps.eraseIdx pl).length := by rw [List.length_eraseIdx_of_lt HPL.out]; have := HPL.out; omega
        obtain ⟨ow8, HR8, -⟩ := HR5.out.row HO.out HRR.out (ps' := o'.ps.eraseIdx pl) (by
         have h1 := own_low0 HW7.out
         rw [hlen, List.nil_append, ← List.flatten_append, ← List.map_append, ← erase_two] at h1
         rw [← hlen] at h1 ⊢
         exact h1) (fun k h1 _ => HB7.out.block k h1) (.inr fun k e => (HW7.out.lt k e).1) HB7.out.size ⟨HB7.out.os, HB7.out.tape, HB7.out.output⟩
        rw [set_set2, Nat.zero_add] at HR8
        have HR8 := Lib.hid HR8
        have HLE : Hid ((o'.ps.eraseIdx pl).length + 1 = o'.ps.length) := by show _ = _; rw [List.length_eraseIdx_of_lt HPL.out]; have := HPL.out; omega
        refine hK.out _ _ trivial (fun hHeld5 => ?_)
        clear hK K hHeld4 hlen
        refine wpAnyH_done (by kernel_rfl) ?_ _
        clear hHeld5 c4 z4
        go_wp2_with fail
        go_roundg (gk - 1)
        case measure => have := HLE.out; have := HB.out.1; omega
        case rel => exact ⟨{ o' with ps := o'.ps.eraseIdx pl }, ow8, _, HR8, HE, ⟨by have := HLE.out; have := HB.out.1; show (o'.ps.eraseIdx pl).length ≤ _; omega, fun q hq => HB.out.2 q (List.mem_of_mem_eraseIdx hq)⟩, by have := HLE.out; have := HL.out; show (o'.ps.eraseIdx pl).length ≤ _; omega⟩
      ·
       have c4 := ((HR5.out.pcell HO.out HRR.out).1 4 _ rfl).1
       go_simp
       refine hK.out _ _ trivial (fun hHeld1 => ?_)
       clear hK K hHeld0
       try simp only [PT]
       clear c4
       refine tk 14 ?_ ‹_› ?_ ?_; rotate_left; focus (intro w0 hSw; go_simp; try with_reducible rfl)
       try simp only [PT]
       refine wpAnyH_ready (rs := [4]) (by decide +kernel) (by simp) (AllReadyH.cons rfl (fun K hK => ?_) AllReadyH.nil)
       have c4 := ((HR5.out.pcell HO.out HRR.out).1 4 _ rfl).1
       go_simp
       refine hK.out _ _ trivial (fun hHeld2 => ?_)
       clear hK K hHeld1
       try simp only [PT]
       clear c4
       refine tk 6 ?_ ‹_› ?_ ?_; rotate_left; focus (intro w0 hSw; go_simp; try with_reducible rfl)
       try simp only [PT]
       refine wpAnyH_ready (rs := [7]) (by decide +kernel) (by simp) (AllReadyH.cons rfl (fun K hK => ?_) AllReadyH.nil)
       obtain ⟨v6, w6, hr6, hrow6, hg6, hn6⟩ := run_appK (w := w5) 71 31 71 _ 7 56 Tryz.underlying71 infoPr' rfl (by decide) (by decide) w5.heap.size (.slice none 0 0) 0 [] (row_nil _ _ _ _) rb 0 pl rc ((o'.ps.take pl).map Pr.cs).flatten (by rw [flat_len7, List.length_take, Nat.min_eq_left (by have := HPL.out; omega)]) (fun j u hj => by rw [Nat.zero_add]; exact (rows_cell (HR5.out.pcell HO.out HRR.out).2 rfl (flat_take _ _ hj)).1) (flat_one _) (by have := HPL.out; have := HL.out; omega) (Nat.le_refl _)
       have HB6 := Lib.hid (grow_low (Below.refl _ _) (Nat.le_refl _) (row_nil w5 w5.heap.size 31 7) hg6)
       have HR6 := Lib.hid (HR5.out.low HB6.out)
       have HW6 := Lib.hid hrow6
       refine step_appK rfl (.const (.slice none 0 0)) (.tmp 76) 71 rfl _ _ rfl rfl _ w6 hr6 ?_
       clear hr6 hrow6 hg6 hn6
       refine hK.out _ _ trivial (fun hHeld3 => ?_)
       clear hK K hHeld2
       try simp only [PT]
       refine wpAnyH_ready (rs := [15]) (by decide +kernel) (by simp) (AllReadyH.cons rfl (fun K hK => ?_) AllReadyH.nil)
       obtain ⟨v7, w7, hr7, hrow7, hg7, hn7⟩ := run_appK (w := w6) 71 31 71 _ 7 56 Tryz.underlying71 infoPr' rfl (by decide) (by decide) w5.heap.size _ _ _ HW6.out rb (cutP rc (pl + 1)) (o'.ps.length - (pl + 1)) (rc - (pl + 1)) ((o'.ps.drop (pl + 1)).map Pr.cs).flatten (by rw [flat_len7, List.length_drop]) (fun j u hj => by
         have hjl := (List.getElem?_eq_some_iff.1 hj).1
         rw [flat_len7, List.length_drop] at hjl
         have h3 := HRC.out
         have h4 := HPL.out
         rw [show cutP rc (pl + 1) = (pl + 1) * 7 from if_neg (by omega)]
         exact (rows_cell (HR6.out.pcell HO.out HRR.out).2 rfl (flat_drop _ _ (by omega) hj)).1) (flat_one _) (by have := HPL.out; have := HL.out; omega) HB6.out.size
       have HB7 := Lib.hid (grow_low HB6.out (Nat.le_refl _) HW6.out hg7)
       obtain ⟨nA, nc, rfl, -, -⟩ := rows_form hrow7
       have HW7 := Lib.hid hrow7
       refine step_appK rfl (.tmp 77) (.tmp 84) 71 rfl _ _ rfl rfl _ w7 hr7 ?_
       clear hr7 hrow7 hg7 hn7
       refine hK.out _ _ trivial (fun hHeld4 => ?_)
       clear hK K hHeld3
       try simp only [PT]
       refine tk 16 ?_ ‹_› ?_ ?_; rotate_left; focus (intro w0 hSw; go_simp; try with_reducible rfl)
       refine tk 17 ?_ ‹_› ?_ ?_; rotate_left; focus (intro w0 hSw; go_simp; try with_reducible rfl)
       try simp only [PT]
       refine wpAnyH_ready (rs := [18]) (by decide +kernel) (by simp) (AllReadyH.cons rfl (fun K hK => ?_) AllReadyH.nil)
       obtain ⟨c4, z4⟩ := HR5.out.gcell HO.out HRR.out (fun k h1 _ => HB7.out.block k h1) (j := 4) rfl
       go_simp
       have hlen : 0 + pl + (o'.ps.length - (pl + 1)) = (o'.ps.eraseIdx pl).length := by rw [List.length_eraseIdx_of_lt HPL.out]; have := HPL.out; omega
       obtain ⟨ow8, HR8, -⟩ := HR5.out.row HO.out HRR.out (ps' := o'.ps.eraseIdx pl) (by
        have h1 := own_low0 HW7.out
        rw [hlen, List.nil_append, ← List.flatten_append, ← List.map_append, ← erase_two] at h1
        rw [← hlen] at h1 ⊢
        exact h1) (fun k h1 _ => HB7.out.block k h1) (.inr fun k e => (HW7.out.lt k e).1) HB7.out.size ⟨HB7.out.os, HB7.out.tape, HB7.out.output⟩
       rw [set_set2, Nat.zero_add] at HR8
       have HR8 := Lib.hid HR8
       have HLE : Hid ((o'.ps.eraseIdx pl).length + 1 = o'.ps.length) := by show _ = _; rw [List.length_eraseIdx_of_lt HPL.out]; have := HPL.out; omega
       refine hK.out _ _ trivial (fun hHeld5 => ?_)
       clear hK K hHeld4 hlen
       refine wpAnyH_done (by kernel_rfl) ?_ _
       clear hHeld5 c4 z4
       go_wp2_with fail
       go_roundg (gk - 1)
       case measure => have := HLE.out; have := HB.out.1; omega
       case rel => exact ⟨{ o' with ps := o'.ps.eraseIdx pl }, ow8, _, HR8, HE, ⟨by have := HLE.out; have := HB.out.1; show (o'.ps.eraseIdx pl).length ≤ _; omega, fun q hq => HB.out.2 q (List.mem_of_mem_eraseIdx hq)⟩, by have := HLE.out; have := HL.out; show (o'.ps.eraseIdx pl).length ≤ _; omega⟩
end
section
variable {w w' w1 w2 : World} {ow ow1 ow2 : Nat → Option Nat} {A i : Nat} {H H1 H2 Hc : Hs} {R R1 R2 : List Value} {o o' : Ob}
theorem length_bad {x : Vl} (h : x.k ≠ 3 ∨ x.n < 0 ∨ 1000 < x.n) : o.length ix x = (o, 100) := by
 unfold Ob.length
 rw [if_pos h]
theorem length_cut {x : Vl} {m : Nat} (h : ¬ (x.k ≠ 3 ∨ x.n < 0 ∨ 1000 < x.n)) (hm : x.n = (m : Int)) (hl : m < o.len) : o.length ix x = o.cut ix m := by
 unfold Ob.length
 rw [if_neg h, if_pos (by omega), hm]
 rfl
theorem length_set {x : Vl} {m : Nat} (h : ¬ (x.k ≠ 3 ∨ x.n < 0 ∨ 1000 < x.n)) (hm : x.n = (m : Int)) (hl : ¬ m < o.len) : o.length ix x = ({ o with len := m }, 0) := by
 unfold Ob.length
 rw [if_neg h, if_neg (by omega), hm]
 rfl
set_option maxRecDepth 8000 in
set_option maxHeartbeats 2000000 in
theorem rlength_any (h : RH w A H ow R) (gd : Gd H) (ho : H.os[i]? = some o) (hcls : o.cls = AR) (x : Vl) :
  Calls Tryz.prog 73 #[pv A, .int .i64 (i : Int), x.v] w (RpR w A ow (.int .i64 (o.length ix x).2) (H.set i (o.length ix x).1)) := by
 obtain ⟨g, cap, hcap, hrg⟩ := Rg.start h ho
 have hb0 := below_new w (.cells x.cs.toArray 29)
 have HB := Lib.hid hb0
 have HR0 := Lib.hid (hrg.low hb0)
 have HO := Lib.hid ho
 have HSS := Lib.hid (set_same ho)
 have hil := (List.getElem?_eq_some_iff.1 ho).1
 have hii : (i : Int) < (H.os.length : Int) := by omega
 obtain ⟨r, hr, hc⟩ := HR0.out.cell ho
 have HRR := Lib.hid hr
 have HX0 := Lib.hid (Blk.new w 29 x.cs)
 obtain ⟨rl, HRL⟩ : ∃ rl, Hid (o.length ix x = rl) := ⟨_, rfl⟩
 rw [HRL.out]
 by_cases hbad : x.k ≠ 3 ∨ x.n < 0 ∨ 1000 < x.n
 ·have HE := Lib.hid (HRL.out.symm.trans (length_bad hbad))
  obtain ⟨xk, xn, xs⟩ := x
  dsimp only at hbad
  simp only [Vl.v, Vl.cs] at HR0 ⊢
  clear hrg hb0 h gd ho hcls hil hr hc hcap HB HX0
  go_enter Tryz.func73, Tryz.ntmps73
  by_cases h1 : xk = 3
  ·subst h1
   by_cases h2 : xn < 0
   ·clear hbad
    go_wp2_with fail
    go_ret
    exact ⟨by rw [HE.out]; rfl, ow, R, by rw [HE.out, HSS.out]; exact HR0.out.out⟩
   ·have h3 : 1000 < xn := by omega
    clear hbad
    go_wp2_with fail
    go_ret
    exact ⟨by rw [HE.out]; rfl, ow, R, by rw [HE.out, HSS.out]; exact HR0.out.out⟩
  ·clear hbad
   go_wp2_with fail
   go_ret
   exact ⟨by rw [HE.out]; rfl, ow, R, by rw [HE.out, HSS.out]; exact HR0.out.out⟩
 ·have hk3 : x.k = 3 := by omega
  obtain ⟨m, hm⟩ : ∃ m : Nat, x.n = (m : Int) := ⟨x.n.toNat, by omega⟩
  have hm1 : (m : Int) ≤ 1000 := by omega
  have c0 := HR0.out.c0
  have c6 := (hc 6 _ rfl).1
  dsimp only at c6
  by_cases hl : m < o.len
  ·have HE := Lib.hid (HRL.out.symm.trans (length_cut hbad hm hl))
   have HCUT := Lib.hid fun k => rcut_any ((h.low hb0).low (below_drewN _ (w.alloc (.cells x.cs.toArray 29)) k)) gd ho hcls m (by omega)
   have hli : (m : Int) < (o.len : Int) := by omega
   obtain ⟨xk, xn, xs⟩ := x
   dsimp only at hk3 hm
   subst hk3 hm
   simp only [Vl.v, Vl.cs] at HR0 HX0 HCUT HB c0 c6 ⊢
   clear hrg hb0 h gd ho hcls hil hr hc hcap hbad hl
   have hm2 : ¬ (m : Int) < 0 := by omega
   have hm3 : ¬ (1000 : Int) < (m : Int) := by omega
   go_enter Tryz.func73, Tryz.ntmps73
   go_wp2_with fail
   go_quiet (fail)
   go_wp2_with fail
   refine (HCUT.out _).mono ?_
   rintro e w2 ⟨rfl, ow2, R2, hch⟩
   have HCH := Lib.hid (hch.low (HB.out.trans (below_drewN _ _ _)))
   clear hch HCUT c0 c6
   go_wp2_with fail
   go_ret
   exact ⟨by rw [HE.out]; rfl, ow2, R2, by rw [HE.out]; exact HCH.out⟩
  ·have HE := Lib.hid (HRL.out.symm.trans (length_set hbad hm hl))
   have hli : ¬ (m : Int) < (o.len : Int) := by omega
   obtain ⟨xk, xn, xs⟩ := x
   dsimp only at hk3 hm
   subst hk3 hm
   have HPO : Hid (ow w.heap.size = none) := h.off (Nat.le_refl _)
   simp only [Vl.v, Vl.cs] at HR0 HX0 HB c0 c6 ⊢
   clear hrg hb0 h gd ho hcls hil hr hc hcap hbad hl
   have hm2 : ¬ (m : Int) < 0 := by omega
   have hm3 : ¬ (1000 : Int) < (m : Int) := by omega
   go_enter Tryz.func73, Tryz.ntmps73
   go_wp2_with fail
   go_quiet (fail)
   have HR1 := Lib.hid ((HR0.out.low (below_drewN _ _ nq)).low (below_draw _))
   have HX1 : Hid (Blk (World.drewN (w.alloc (.cells #[.int .i64 3, .int .i64 (m : Int), .string xs] 29)) nq).drew w.heap.size 29 [.int .i64 3, .int .i64 (m : Int), .string xs]) := (HX0.out.low (below_drewN _ _ nq)).low (below_draw _)
   have hs0 : (fun w' : World => w'.cell? ⟨w.heap.size, 1, none⟩ = some (.int .i64 (m : Int)) ∧ w'.cell? ⟨A, 0, none⟩ = some (.slice (some ⟨g, 0, none⟩) H.os.length cap)) (World.drewN (w.alloc (.cells #[.int .i64 3, .int .i64 (m : Int), .string xs] 29)) nq).drew := ⟨HX1.out.cell (k := 1) rfl, HR1.out.c0⟩
   dsimp only at hs0
   clear c0 c6 HR0 HX0 HB
   go_wp2_with fail
   refine wp_region_held_drew (S := (fun w' : World => w'.cell? ⟨w.heap.size, 1, none⟩ = some (.int .i64 (m : Int)) ∧ w'.cell? ⟨A, 0, none⟩ = some (.slice (some ⟨g, 0, none⟩) H.os.length cap))) (by kernel_rfl) (hs0) (fun hHeld0 => ?_)
   generalize (World.drewN (w.alloc (.cells #[.int .i64 3, .int .i64 (m : Int), .string xs] 29)) nq).drew = w2 at *
   refine tk 0 ?_ ‹_› ?_ ?_; rotate_left; focus (intro w0 hSw; obtain ⟨e0, e1⟩ := hSw; go_simp; try with_reducible rfl)
   refine tk 1 ?_ ‹_› ?_ ?_; rotate_left; focus (intro w0 hSw; obtain ⟨e0, e1⟩ := hSw; go_simp; try with_reducible rfl)
   refine tk 2 ?_ ‹_› ?_ ?_; rotate_left; focus (intro w0 hSw; obtain ⟨e0, e1⟩ := hSw; go_simp; try with_reducible rfl)
   refine tk 3 ?_ ‹_› ?_ ?_; rotate_left; focus (intro w0 hSw; obtain ⟨e0, e1⟩ := hSw; go_simp; try with_reducible rfl)
   refine tk 4 ?_ ‹_› ?_ ?_; rotate_left; focus (intro w0 hSw; obtain ⟨e0, e1⟩ := hSw; go_simp; try with_reducible rfl)
   refine tk 5 ?_ ‹_› ?_ ?_; rotate_left; focus (intro w0 hSw; obtain ⟨e0, e1⟩ := hSw; go_simp; try with_reducible rfl)
   refine tk 6 ?_ ‹_› ?_ ?_; rotate_left; focus (intro w0 hSw; obtain ⟨e0, e1⟩ := hSw; go_simp; try with_reducible rfl)
   refine tk 7 ?_ ‹_› ?_ ?_; rotate_left; focus (intro w0 hSw; obtain ⟨e0, e1⟩ := hSw; go_simp; try with_reducible rfl)
   refine tk 8 ?_ ‹_› ?_ ?_; rotate_left; focus (intro w0 hSw; obtain ⟨e0, e1⟩ := hSw; go_simp; try with_reducible rfl)
   try simp only [PT]
   refine wpAnyH_ready (rs := [9]) (by decide +kernel) (by simp) (AllReadyH.cons rfl (fun K hK => ?_) AllReadyH.nil)
   obtain ⟨hc, -⟩ := HR1.out.pcell HO.out HRR.out
   have c6 := (hc 6 _ rfl).1
   have z6 := (hc 6 _ rfl).2
   dsimp only at c6
   obtain ⟨HR3, -⟩ := HR1.out.put (j := 6) (o' := { o with len := m }) (u := .int .i64 (m : Int)) HO.out HRR.out (by decide) rfl rfl
   have HR3 := Lib.hid HR3
   clear hc
   have HPG : Hid (w.heap.size ≠ g) := fun e => by
    have h1 := HR1.out.og
    rw [← e, HPO.out] at h1
    cases h1
   have hs3 : (fun w' : World => w'.cell? ⟨w.heap.size, 1, none⟩ = some (.int .i64 (m : Int)) ∧ w'.cell? ⟨A, 0, none⟩ = some (.slice (some ⟨g, 0, none⟩) H.os.length cap)) (w2.setCell ⟨g, i * 8 + 6, none⟩ (.int .i64 (m : Int))) := ⟨(HX1.out.other (p := ⟨g, i * 8 + 6, none⟩) HPG.out _).cell (k := 1) rfl, HR3.out.c0⟩
   dsimp only at hs3
   go_simp
   refine hK.out _ _ hs3 (fun hHeld1 => ?_)
   clear hK K hHeld0
   refine wpAnyH_done (by kernel_rfl) ?_ _
   clear hHeld1 hs0 hs3 c6 z6
   go_wp2_with fail
   go_ret
   exact ⟨by rw [HE.out]; rfl, ow, R, by rw [HE.out]; exact HR3.out.out⟩
end
section
variable {w w' w1 w2 : World} {ow ow1 ow2 : Nat → Option Nat} {A i : Nat} {H H1 H2 Hc : Hs} {R R1 R2 : List Value} {o o' : Ob}
theorem del_len {v : Vl} {key : ByteArray} (hat : H.at v = some i) (ho : H.os[i]? = some o) (hl : (decide (o.cls = AR) && decide (key = LK)) = true) : H.delete LK AR v key = (H, 110) := by
 unfold Hs.delete Ob.isLen
 simp only [hat, ho, hl, if_true]
theorem del_no {v : Vl} {key : ByteArray} (hat : H.at v = some i) (ho : H.os[i]? = some o) (hl : (decide (o.cls = AR) && decide (key = LK)) = false) (hf : o.ps.findIdx? (has key) = none) : H.delete LK AR v key = (H, 0) := by
 unfold Hs.delete Ob.isLen
 simp only [hat, ho, hl, hf]
 rfl
theorem del_bar {v : Vl} {key : ByteArray} {k : Nat} {q : Pr} (hat : H.at v = some i) (ho : H.os[i]? = some o) (hl : (decide (o.cls = AR) && decide (key = LK)) = false) (hf : o.ps.findIdx? (has key) = some k) (hq : o.ps[k]? = some q) (hff : q.f = false) : H.delete LK AR v key = (H, 110) := by
 unfold Hs.delete Ob.isLen
 simp only [hat, ho, hl, hf, hq, hff, if_true]
 rfl
theorem del_go {v : Vl} {key : ByteArray} {k : Nat} {q : Pr} (hat : H.at v = some i) (ho : H.os[i]? = some o) (hl : (decide (o.cls = AR) && decide (key = LK)) = false) (hf : o.ps.findIdx? (has key) = some k) (hq : o.ps[k]? = some q) (hff : q.f = true) : H.delete LK AR v key = (H.set i { o with ps := o.ps.eraseIdx k }, 0) := by
 unfold Hs.delete Ob.isLen
 simp only [hat, ho, hl, hf, hq, hff]
 rfl
theorem del_out {v : Vl} {key : ByteArray} (hat : H.at v = none) : H.delete LK AR v key = (H, 110) := by
 unfold Hs.delete
 simp only [hat]
theorem idx_lt_len {ps : List Pr} {key : ByteArray} {k : Nat} (h : ps.findIdx? (has key) = some k) : k < ps.length := by
 obtain ⟨h1, -⟩ := List.findIdx?_eq_some_iff_getElem.1 h
 exact h1
set_option maxRecDepth 8000 in
set_option maxHeartbeats 4000000 in
theorem rdelete_any (h : RH w A H ow R) (gd : Gd H) (v : Vl) (key : ByteArray) (hs : key.size ≤ 16777216) :
  Calls Tryz.prog 37 #[pv A, v.v, .string key] w (RpR w A ow (.int .i64 (H.delete LK AR v key).2) (H.delete LK AR v key).1) := by
 have hol := gd.os100
 cases hat : H.at v with
 | none =>
  rw [del_out hat]
  refine (rdelete_none h v key hol hat).mono ?_
  rintro e w1 ⟨rfl, hb⟩
  exact ⟨rfl, ow, R, Rch.below h hb⟩
 | some i =>
  obtain ⟨o, ho⟩ : ∃ o, H.os[i]? = some o := ⟨H.os[i]'(at_lt hat), List.getElem?_eq_getElem (at_lt hat)⟩
  have hi := at_lt hat
  have hob := obj_some hat ho
  obtain ⟨g, cap, hcap, hrg⟩ := Rg.start h ho
  have hb0 := below_new w (.cells v.cs.toArray 29)
  have HB := Lib.hid hb0
  have HR0 := Lib.hid (hrg.low hb0)
  have HV0 := Lib.hid (Blk.new w 29 v.cs)
  have HO := Lib.hid ho
  have hii : (i : Int) < (H.os.length : Int) := by omega
  have hi0 : ¬ (i : Int) < 0 := by omega
  have HLO : Hid (o.ps.length ≤ 100000) := Nat.le_trans (gd.og i o ho).l gd.n100
  have HT := Lib.hid (rat_any (h.low hb0) v hol)
  rw [hat] at HT
  have HL := Lib.hid fun w' (hb : Below w.heap.size w w') => rislen_any (h.low hb) v key hol
  rw [hob, show (decide (clsR (some o) = AR) && decide (key = LK)) = (decide (o.cls = AR) && decide (key = LK)) from rfl] at HL
  have HPR := Lib.hid fun w' (hb : Below w.heap.size w w') => rprop_any (h.low hb) gd v key hs
  rw [hob] at HPR
  obtain ⟨rl, HRL⟩ : ∃ rl, Hid (H.delete LK AR v key = rl) := ⟨_, rfl⟩
  have HD1 := Lib.hid fun hl => HRL.out.symm.trans (del_len (key := key) hat ho hl)
  have HD2 := Lib.hid fun hl hf => HRL.out.symm.trans (del_no (key := key) hat ho hl hf)
  have HD3 := Lib.hid fun hl k q hf hq hff => HRL.out.symm.trans (del_bar (key := key) (k := k) (q := q) hat ho hl hf hq hff)
  have HD4 := Lib.hid fun hl k q hf hq hff => HRL.out.symm.trans (del_go (key := key) (k := k) (q := q) hat ho hl hf hq hff)
  rw [HRL.out]
  obtain ⟨r, hr, -⟩ := HR0.out.cell ho
  have HRR := Lib.hid hr
  obtain ⟨d0, d1, d2⟩ := Blk.three HV0.out
  clear h gd hat ho hi hob hrg hb0 hr hcap hol
  obtain ⟨vk, vn, vs⟩ := v
  simp only [Vl.v, Vl.cs, atI] at HB HR0 HV0 HT HL HPR d0 d1 d2 ⊢
  go_enter Tryz.func37, Tryz.ntmps37
  go_wp2_with fail
  refine HT.out.mono ?_
  rintro e w1 ⟨rfl, hb⟩
  have HB1 := Lib.hid (HB.out.trans (hb.mono HB.out.size))
  have HR1 := Lib.hid (HR0.out.low hb)
  have HV1 := Lib.hid (HV0.out.low hb)
  have HL := HL.out w1 HB1.out
  clear hb d0 d1 d2 HR0 HV0 HT HB
  obtain ⟨d0, d1, d2⟩ := Blk.three (v := ⟨vk, vn, vs⟩) HV1.out
  dsimp only at d0 d1 d2
  cases hl : (decide (o.cls = AR) && decide (key = LK)) with
  | true =>
   rw [hl] at HL
   have HE := Lib.hid (HD1.out hl)
   go_wp2_with fail
   refine HL.mono ?_
   rintro e w2 ⟨rfl, hb⟩
   have HR2 := Lib.hid (HR1.out.low hb)
   clear hb HL hl d0 d1 d2
   go_wp2_with fail
   go_ret
   exact ⟨by rw [HE.out]; rfl, ow, R, by rw [HE.out]; exact HR2.out.out⟩
  | false =>
   rw [hl] at HL
   have HLF := Lib.hid hl
   go_wp2_with fail
   refine HL.mono ?_
   rintro e w2 ⟨rfl, hb⟩
   have HB2 := Lib.hid (HB1.out.trans (hb.mono HB1.out.size))
   have HR2 := Lib.hid (HR1.out.low hb)
   have HV2 := Lib.hid (HV1.out.low hb)
   have HPR := HPR.out w2 HB2.out
   clear hb HL hl d0 d1 d2 HR1 HV1 HB1
   obtain ⟨d0, d1, d2⟩ := Blk.three (v := ⟨vk, vn, vs⟩) HV2.out
   dsimp only at d0 d1 d2
   cases hf : o.ps.findIdx? (has key) with
   | none =>
    have HE := Lib.hid (HD2.out HLF.out hf)
    rw [propR_none hf] at HPR
    go_wp2_with fail
    refine HPR.mono ?_
    rintro e w3 ⟨rfl, hb⟩
    have HR3 := Lib.hid (HR2.out.low hb)
    clear hb HPR hf d0 d1 d2
    go_wp2_with fail
    go_ret
    exact ⟨by rw [HE.out]; rfl, ow, R, by rw [HE.out]; exact HR3.out.out⟩
   | some pl =>
    rw [propR_some hf] at HPR
    have hpl2 := idx_lt_len hf
    obtain ⟨p, hp⟩ : ∃ p, o.ps[pl]? = some p := ⟨_, List.getElem?_eq_getElem hpl2⟩
    have HPL := Lib.hid hpl2
    have hk0 : ¬ (pl : Int) < 0 := by omega
    have hk1 : (pl : Int) < (o.ps.length : Int) := by omega
    go_wp2_with fail
    refine HPR.mono ?_
    rintro e w3 ⟨rfl, hb⟩
    have HR3 := Lib.hid (HR2.out.low hb)
    obtain ⟨hcell, hrow⟩ := HR3.out.pcell HO.out HRR.out
    obtain ⟨rA, rc, hre, hlc2, hcs⟩ := HR3.out.ph.prow HO.out HRR.out
    subst hre
    obtain ⟨rb, rfl, -, hpc⟩ := hcs pl p hp
    have d6 := hpc 6 _ rfl
    have c4 := (hcell 4 _ rfl).1
    have c0 := HR3.out.c0
    clear hb HPR d0 d1 d2 hcs hpc hcell
    cases hff : p.f with
    | false =>
     rw [hff] at d6
     have HE := Lib.hid (HD3.out HLF.out pl p hf hp hff)
     clear hrow hf hp hlc2
     go_wp2_with fail
     go_ret
     exact ⟨by rw [HE.out]; rfl, ow, R, by rw [HE.out]; exact HR3.out.out⟩
    | true =>
     rw [hff] at d6
     have HE := Lib.hid (HD4.out HLF.out pl p hf hp hff)
     have HRC := Lib.hid hlc2
     have HR5 := Lib.hid (HR3.out.low (below_draw w3))
     have hs5 : (fun w' : World => w'.cell? ⟨A, 0, none⟩ = some (.slice (some ⟨g, 0, none⟩) H.os.length cap)) w3.drew := HR5.out.c0
     dsimp only at hs5
     have hwp : IntKind.i64.wrap ((pl : Int) + 1) = (pl : Int) + 1 := IntWalk.i64_in _ (by have := HLO.out; omega)
     have hsh : ∀ w', (Instr.slice 71 (.slice (some ⟨rb, 0, none⟩) o.ps.length rc) none (some (.int .i64 (pl : Int))) none).run Tryz.prog w' = .ok (.slice (some ⟨rb, 0, none⟩) pl rc) w' := fun w' => slice_hP w' rb _ rc pl (by omega)
     have hsl : ∀ w', (Instr.slice 71 (.slice (some ⟨rb, 0, none⟩) o.ps.length rc) (some (.int .i64 ((pl : Int) + 1))) none none).run Tryz.prog w' = .ok (.slice (some ⟨rb, cutP rc (pl + 1), none⟩) (o.ps.length - (pl + 1)) (rc - (pl + 1))) w' := fun w' => slice_lP w' rb _ rc (pl + 1) (by omega)
     have hsh2 : ∀ w', (Instr.sliceAt 71 (.slice (some ⟨rb, 0, none⟩) o.ps.length rc) none (some (.int .i64 (pl : Int))) none).run Tryz.prog w' = .ok (.slice (some ⟨rb, 0, none⟩) pl rc) w' := fun w' => (run_sliceAt_slice w' _ _ _ _ _ undPr).trans (hsh w')
     have hsl2 : ∀ w', (Instr.sliceAt 71 (.slice (some ⟨rb, 0, none⟩) o.ps.length rc) (some (.int .i64 ((pl : Int) + 1))) none none).run Tryz.prog w' = .ok (.slice (some ⟨rb, cutP rc (pl + 1), none⟩) (o.ps.length - (pl + 1)) (rc - (pl + 1))) w' := fun w' => (run_sliceAt_slice w' _ _ _ _ _ undPr).trans (hsl w')
     clear hrow hf hp hlc2
     go_wp2_with fail
     refine wp_region_held_drew (S := (fun w' : World => w'.cell? ⟨A, 0, none⟩ = some (.slice (some ⟨g, 0, none⟩) H.os.length cap))) (by kernel_rfl) (hs5) (fun hHeld0 => ?_)
     generalize w3.drew = w5 at *
     clear c4 c0 d6
     refine tk 0 ?_ ‹_› ?_ ?_; rotate_left; focus (intro w0 hSw; have e0 := hSw; go_simp; try with_reducible rfl)
     refine tk 1 ?_ ‹_› ?_ ?_; rotate_left; focus (intro w0 hSw; have e0 := hSw; go_simp; try with_reducible rfl)
     refine tk 2 ?_ ‹_› ?_ ?_; rotate_left; focus (intro w0 hSw; have e0 := hSw; go_simp; try with_reducible rfl)
     refine tk 3 ?_ ‹_› ?_ ?_; rotate_left; focus (intro w0 hSw; have e0 := hSw; go_simp; try with_reducible rfl)
     refine tk 4 ?_ ‹_› ?_ ?_; rotate_left; focus (intro w0 hSw; have e0 := hSw; go_simp; try with_reducible rfl)
     refine tk 5 ?_ ‹_› ?_ ?_; rotate_left; focus (intro w0 hSw; have e0 := hSw; go_simp; try with_reducible rfl)
     refine tk 6 ?_ ‹_› ?_ ?_; rotate_left; focus (intro w0 hSw; have e0 := hSw; go_simp; try with_reducible rfl)
     refine tk 7 ?_ ‹_› ?_ ?_; rotate_left; focus (intro w0 hSw; have e0 := hSw; go_simp; try with_reducible rfl)
     refine tk 8 ?_ ‹_› ?_ ?_; rotate_left; focus (intro w0 hSw; have e0 := hSw; go_simp; try with_reducible rfl)
     refine tk 9 ?_ ‹_› ?_ ?_; rotate_left; focus (intro w0 hSw; have e0 := hSw; go_simp; try with_reducible rfl)
     refine tk 10 ?_ ‹_› ?_ ?_; rotate_left; focus (intro w0 hSw; have e0 := hSw; go_simp; try with_reducible rfl)
     refine tk 11 ?_ ‹_› ?_ ?_; rotate_left; focus (intro w0 hSw; have e0 := hSw; go_simp; try with_reducible rfl)
     refine tk 13 ?_ ‹_› ?_ ?_; rotate_left; focus (intro w0 hSw; have e0 := hSw; go_simp; try with_reducible rfl)
     refine tk 16 ?_ ‹_› ?_ ?_; rotate_left; focus (intro w0 hSw; have e0 := hSw; go_simp; try with_reducible rfl)
     refine tk 17 ?_ ‹_› ?_ ?_; rotate_left; focus (intro w0 hSw; have e0 := hSw; go_simp; try with_reducible rfl)
     refine tk 18 ?_ ‹_› ?_ ?_; rotate_left; focus (intro w0 hSw; have e0 := hSw; go_simp; try with_reducible rfl)
     refine tk 19 ?_ ‹_› ?_ ?_; rotate_left; focus (intro w0 hSw; have e0 := hSw; go_simp; try with_reducible rfl)
     refine tk 20 ?_ ‹_› ?_ ?_; rotate_left; focus (intro w0 hSw; have e0 := hSw; go_simp; try with_reducible rfl)
     refine tk 21 ?_ ‹_› ?_ ?_; rotate_left; focus (intro w0 hSw; have e0 := hSw; go_simp; try with_reducible rfl)
     refine tk 22 ?_ ‹_› ?_ ?_; rotate_left; focus (intro w0 hSw; have e0 := hSw; go_simp; try with_reducible rfl)
     refine tk 24 ?_ ‹_› ?_ ?_; rotate_left; focus (intro w0 hSw; have e0 := hSw; go_simp; try with_reducible rfl)
     refine tk 25 ?_ ‹_› ?_ ?_; rotate_left; focus (intro w0 hSw; have e0 := hSw; go_simp; try with_reducible rfl)
     try simp only [PT]
     refine wpAnyH_ready (rs := [12, 23]) (by decide +kernel) (by simp) (AllReadyH.cons rfl (fun K hK => ?_) (AllReadyH.cons rfl (fun K hK => ?_) AllReadyH.nil))
     ·
      have c4 := ((HR5.out.pcell HO.out HRR.out).1 4 _ rfl).1
      go_simp
      refine hK.out _ _ HR5.out.c0 (fun hHeld1 => ?_)
      clear hK K hHeld0
      try simp only [PT]
      clear c4
      refine tk 14 ?_ ‹_› ?_ ?_; rotate_left; focus (intro w0 hSw; have e0 := hSw; go_simp; try with_reducible rfl)
      try simp only [PT]
      refine wpAnyH_ready (rs := [15, 23]) (by decide +kernel) (by simp) (AllReadyH.cons rfl (fun K hK => ?_) (AllReadyH.cons rfl (fun K hK => ?_) AllReadyH.nil))
      ·
       obtain ⟨v6, w6, hr6, hrow6, hg6, hn6⟩ := run_appK (w := w5) 71 31 71 _ 7 56 Tryz.underlying71 infoPr' rfl (by decide) (by decide) w5.heap.size (.slice none 0 0) 0 [] (row_nil _ _ _ _) rb 0 pl rc ((o.ps.take pl).map Pr.cs).flatten (by rw [flat_len7, List.length_take, Nat.min_eq_left (by have := HPL.out; omega)]) (fun j u hj => by rw [Nat.zero_add]; exact (rows_cell (HR5.out.pcell HO.out HRR.out).2 rfl (flat_take _ _ hj)).1) (flat_one _) (by have := HPL.out; have := HLO.out; omega) (Nat.le_refl _)
       have HB6 := Lib.hid (grow_low (Below.refl _ _) (Nat.le_refl _) (row_nil w5 w5.heap.size 31 7) hg6)
       have HR6 := Lib.hid (HR5.out.low HB6.out)
       have HW6 := Lib.hid hrow6
       refine step_appK rfl (.const (.slice none 0 0)) (.tmp 53) 71 rfl _ _ rfl rfl _ w6 hr6 ?_
       clear hr6 hrow6 hg6 hn6
       refine hK.out _ _ HR6.out.c0 (fun hHeld2 => ?_)
       clear hK K hHeld1
       try simp only [PT]
       refine wpAnyH_ready (rs := [23]) (by decide +kernel) (by simp) (AllReadyH.cons rfl (fun K hK => ?_) AllReadyH.nil)
       have c4 := ((HR6.out.pcell HO.out HRR.out).1 4 _ rfl).1
       go_simp
       refine hK.out _ _ HR6.out.c0 (fun hHeld3 => ?_)
       clear hK K hHeld2
       try simp only [PT]
       clear c4
       refine tk 26 ?_ ‹_› ?_ ?_; rotate_left; focus (intro w0 hSw; have e0 := hSw; go_simp; try with_reducible rfl)
       try simp only [PT]
       refine wpAnyH_ready (rs := [27]) (by decide +kernel) (by simp) (AllReadyH.cons rfl (fun K hK => ?_) AllReadyH.nil)
       obtain ⟨v7, w7, hr7, hrow7, hg7, hn7⟩ := run_appK (w := w6) 71 31 71 _ 7 56 Tryz.underlying71 infoPr' rfl (by decide) (by decide) w5.heap.size _ _ _ HW6.out rb (cutP rc (pl + 1)) (o.ps.length - (pl + 1)) (rc - (pl + 1)) ((o.ps.drop (pl + 1)).map Pr.cs).flatten (by rw [flat_len7, List.length_drop]) (fun j u hj => by
         have hjl := (List.getElem?_eq_some_iff.1 hj).1
         rw [flat_len7, List.length_drop] at hjl
         have h3 := HRC.out
         have h4 := HPL.out
         rw [show cutP rc (pl + 1) = (pl + 1) * 7 from if_neg (by omega)]
         exact (rows_cell (HR6.out.pcell HO.out HRR.out).2 rfl (flat_drop _ _ (by omega) hj)).1) (flat_one _) (by have := HPL.out; have := HLO.out; omega) HB6.out.size
       have HB7 := Lib.hid (grow_low HB6.out (Nat.le_refl _) HW6.out hg7)
       have HR7 := Lib.hid (HR5.out.low HB7.out)
       obtain ⟨nA, nc, rfl, -, -⟩ := rows_form hrow7
       have HW7 := Lib.hid hrow7
       refine step_appK rfl (.tmp 54) (.tmp 65) 71 rfl _ _ rfl rfl _ w7 hr7 ?_
       clear hr7 hrow7 hg7 hn7
       refine hK.out _ _ HR7.out.c0 (fun hHeld4 => ?_)
       clear hK K hHeld3
       try simp only [PT]
       refine tk 28 ?_ ‹_› ?_ ?_; rotate_left; focus (intro w0 hSw; have e0 := hSw; go_simp; try with_reducible rfl)
       refine tk 29 ?_ ‹_› ?_ ?_; rotate_left; focus (intro w0 hSw; have e0 := hSw; go_simp; try with_reducible rfl)
       try simp only [PT]
       refine wpAnyH_ready (rs := [30]) (by decide +kernel) (by simp) (AllReadyH.cons rfl (fun K hK => ?_) AllReadyH.nil)
       obtain ⟨c4, z4⟩ := HR5.out.gcell HO.out HRR.out (fun k h1 _ => HB7.out.block k h1) (j := 4) rfl
       go_simp
       have hlen : 0 + pl + (o.ps.length - (pl + 1)) = (o.ps.eraseIdx pl).length := by rw [List.length_eraseIdx_of_lt HPL.out]; have := HPL.out; omega
       obtain ⟨ow8, HR8, -⟩ := HR5.out.row HO.out HRR.out (ps' := o.ps.eraseIdx pl) (by
        have h1 := own_low0 HW7.out
        rw [hlen, List.nil_append, ← List.flatten_append, ← List.map_append, ← erase_two] at h1
        rw [← hlen] at h1 ⊢
        exact h1) (fun k h1 _ => HB7.out.block k h1) (.inr fun k e => (HW7.out.lt k e).1) HB7.out.size ⟨HB7.out.os, HB7.out.tape, HB7.out.output⟩
       rw [Nat.zero_add] at HR8
       have HR8 := Lib.hid HR8
       refine hK.out _ _ HR8.out.c0 (fun hHeld5 => ?_)
       clear hK K hHeld4 hlen
       refine wpAnyH_done (by kernel_rfl) ?_ _
       clear hHeld5 c4 z4
       go_wp2_with fail
       go_ret
       exact ⟨by rw [HE.out]; rfl, ow8, _, by rw [HE.out]; exact HR8.out.out⟩
      ·
       have c4 := ((HR5.out.pcell HO.out HRR.out).1 4 _ rfl).1
       go_simp
       refine hK.out _ _ HR5.out.c0 (fun hHeld2 => ?_)
       clear hK K hHeld1
       try simp only [PT]
       clear c4
       refine tk 26 ?_ ‹_› ?_ ?_; rotate_left; focus (intro w0 hSw; have e0 := hSw; go_simp; try with_reducible rfl)
       try simp only [PT]
       refine wpAnyH_ready (rs := [15]) (by decide +kernel) (by simp) (AllReadyH.cons rfl (fun K hK => ?_) AllReadyH.nil)
       obtain ⟨v6, w6, hr6, hrow6, hg6, hn6⟩ := run_appK (w := w5) 71 31 71 _ 7 56 Tryz.underlying71 infoPr' rfl (by decide) (by decide) w5.heap.size (.slice none 0 0) 0 [] (row_nil _ _ _ _) rb 0 pl rc ((o.ps.take pl).map Pr.cs).flatten (by rw [flat_len7, List.length_take, Nat.min_eq_left (by have := HPL.out; omega)]) (fun j u hj => by rw [Nat.zero_add]; exact (rows_cell (HR5.out.pcell HO.out HRR.out).2 rfl (flat_take _ _ hj)).1) (flat_one _) (by have := HPL.out; have := HLO.out; omega) (Nat.le_refl _)
       have HB6 := Lib.hid (grow_low (Below.refl _ _) (Nat.le_refl _) (row_nil w5 w5.heap.size 31 7) hg6)
       have HR6 := Lib.hid (HR5.out.low HB6.out)
       have HW6 := Lib.hid hrow6
       refine step_appK rfl (.const (.slice none 0 0)) (.tmp 53) 71 rfl _ _ rfl rfl _ w6 hr6 ?_
       clear hr6 hrow6 hg6 hn6
       refine hK.out _ _ HR6.out.c0 (fun hHeld3 => ?_)
       clear hK K hHeld2
       try simp only [PT]
       refine wpAnyH_ready (rs := [27]) (by decide +kernel) (by simp) (AllReadyH.cons rfl (fun K hK => ?_) AllReadyH.nil)
       obtain ⟨v7, w7, hr7, hrow7, hg7, hn7⟩ := run_appK (w := w6) 71 31 71 _ 7 56 Tryz.underlying71 infoPr' rfl (by decide) (by decide) w5.heap.size _ _ _ HW6.out rb (cutP rc (pl + 1)) (o.ps.length - (pl + 1)) (rc - (pl + 1)) ((o.ps.drop (pl + 1)).map Pr.cs).flatten (by rw [flat_len7, List.length_drop]) (fun j u hj => by
         have hjl := (List.getElem?_eq_some_iff.1 hj).1
         rw [flat_len7, List.length_drop] at hjl
         have h3 := HRC.out
         have h4 := HPL.out
         rw [show cutP rc (pl + 1) = (pl + 1) * 7 from if_neg (by omega)]
         exact (rows_cell (HR6.out.pcell HO.out HRR.out).2 rfl (flat_drop _ _ (by omega) hj)).1) (flat_one _) (by have := HPL.out; have := HLO.out; omega) HB6.out.size
       have HB7 := Lib.hid (grow_low HB6.out (Nat.le_refl _) HW6.out hg7)
       have HR7 := Lib.hid (HR5.out.low HB7.out)
       obtain ⟨nA, nc, rfl, -, -⟩ := rows_form hrow7
       have HW7 := Lib.hid hrow7
       refine step_appK rfl (.tmp 54) (.tmp 65) 71 rfl _ _ rfl rfl _ w7 hr7 ?_
       clear hr7 hrow7 hg7 hn7
       refine hK.out _ _ HR7.out.c0 (fun hHeld4 => ?_)
       clear hK K hHeld3
       try simp only [PT]
       refine tk 28 ?_ ‹_› ?_ ?_; rotate_left; focus (intro w0 hSw; have e0 := hSw; go_simp; try with_reducible rfl)
       refine tk 29 ?_ ‹_› ?_ ?_; rotate_left; focus (intro w0 hSw; have e0 := hSw; go_simp; try with_reducible rfl)
       try simp only [PT]
       refine wpAnyH_ready (rs := [30]) (by decide +kernel) (by simp) (AllReadyH.cons rfl (fun K hK => ?_) AllReadyH.nil)
       obtain ⟨c4, z4⟩ := HR5.out.gcell HO.out HRR.out (fun k h1 _ => HB7.out.block k h1) (j := 4) rfl
       go_simp
       have hlen : 0 + pl + (o.ps.length - (pl + 1)) = (o.ps.eraseIdx pl).length := by rw [List.length_eraseIdx_of_lt HPL.out]; have := HPL.out; omega
       obtain ⟨ow8, HR8, -⟩ := HR5.out.row HO.out HRR.out (ps' := o.ps.eraseIdx pl) (by
        have h1 := own_low0 HW7.out
        rw [hlen, List.nil_append, ← List.flatten_append, ← List.map_append, ← erase_two] at h1
        rw [← hlen] at h1 ⊢
        exact h1) (fun k h1 _ => HB7.out.block k h1) (.inr fun k e => (HW7.out.lt k e).1) HB7.out.size ⟨HB7.out.os, HB7.out.tape, HB7.out.output⟩
       rw [Nat.zero_add] at HR8
       have HR8 := Lib.hid HR8
       refine hK.out _ _ HR8.out.c0 (fun hHeld5 => ?_)
       clear hK K hHeld4 hlen
       refine wpAnyH_done (by kernel_rfl) ?_ _
       clear hHeld5 c4 z4
       go_wp2_with fail
       go_ret
       exact ⟨by rw [HE.out]; rfl, ow8, _, by rw [HE.out]; exact HR8.out.out⟩
     ·
      have c4 := ((HR5.out.pcell HO.out HRR.out).1 4 _ rfl).1
      go_simp
      refine hK.out _ _ HR5.out.c0 (fun hHeld1 => ?_)
      clear hK K hHeld0
      try simp only [PT]
      clear c4
      refine tk 26 ?_ ‹_› ?_ ?_; rotate_left; focus (intro w0 hSw; have e0 := hSw; go_simp; try with_reducible rfl)
      try simp only [PT]
      refine wpAnyH_ready (rs := [12]) (by decide +kernel) (by simp) (AllReadyH.cons rfl (fun K hK => ?_) AllReadyH.nil)
      have c4 := ((HR5.out.pcell HO.out HRR.out).1 4 _ rfl).1
      go_simp
      refine hK.out _ _ HR5.out.c0 (fun hHeld2 => ?_)
      clear hK K hHeld1
      try simp only [PT]
      clear c4
      refine tk 14 ?_ ‹_› ?_ ?_; rotate_left; focus (intro w0 hSw; have e0 := hSw; go_simp; try with_reducible rfl)
      try simp only [PT]
      refine wpAnyH_ready (rs := [15]) (by decide +kernel) (by simp) (AllReadyH.cons rfl (fun K hK => ?_) AllReadyH.nil)
      obtain ⟨v6, w6, hr6, hrow6, hg6, hn6⟩ := run_appK (w := w5) 71 31 71 _ 7 56 Tryz.underlying71 infoPr' rfl (by decide) (by decide) w5.heap.size (.slice none 0 0) 0 [] (row_nil _ _ _ _) rb 0 pl rc ((o.ps.take pl).map Pr.cs).flatten (by rw [flat_len7, List.length_take, Nat.min_eq_left (by have := HPL.out; omega)]) (fun j u hj => by rw [Nat.zero_add]; exact (rows_cell (HR5.out.pcell HO.out HRR.out).2 rfl (flat_take _ _ hj)).1) (flat_one _) (by have := HPL.out; have := HLO.out; omega) (Nat.le_refl _)
      have HB6 := Lib.hid (grow_low (Below.refl _ _) (Nat.le_refl _) (row_nil w5 w5.heap.size 31 7) hg6)
      have HR6 := Lib.hid (HR5.out.low HB6.out)
      have HW6 := Lib.hid hrow6
      refine step_appK rfl (.const (.slice none 0 0)) (.tmp 53) 71 rfl _ _ rfl rfl _ w6 hr6 ?_
      clear hr6 hrow6 hg6 hn6
      refine hK.out _ _ HR6.out.c0 (fun hHeld3 => ?_)
      clear hK K hHeld2
      try simp only [PT]
      refine wpAnyH_ready (rs := [27]) (by decide +kernel) (by simp) (AllReadyH.cons rfl (fun K hK => ?_) AllReadyH.nil)
      obtain ⟨v7, w7, hr7, hrow7, hg7, hn7⟩ := run_appK (w := w6) 71 31 71 _ 7 56 Tryz.underlying71 infoPr' rfl (by decide) (by decide) w5.heap.size _ _ _ HW6.out rb (cutP rc (pl + 1)) (o.ps.length - (pl + 1)) (rc - (pl + 1)) ((o.ps.drop (pl + 1)).map Pr.cs).flatten (by rw [flat_len7, List.length_drop]) (fun j u hj => by
        have hjl := (List.getElem?_eq_some_iff.1 hj).1
        rw [flat_len7, List.length_drop] at hjl
        have h3 := HRC.out
        have h4 := HPL.out
        rw [show cutP rc (pl + 1) = (pl + 1) * 7 from if_neg (by omega)]
        exact (rows_cell (HR6.out.pcell HO.out HRR.out).2 rfl (flat_drop _ _ (by omega) hj)).1) (flat_one _) (by have := HPL.out; have := HLO.out; omega) HB6.out.size
      have HB7 := Lib.hid (grow_low HB6.out (Nat.le_refl _) HW6.out hg7)
      have HR7 := Lib.hid (HR5.out.low HB7.out)
      obtain ⟨nA, nc, rfl, -, -⟩ := rows_form hrow7
      have HW7 := Lib.hid hrow7
      refine step_appK rfl (.tmp 54) (.tmp 65) 71 rfl _ _ rfl rfl _ w7 hr7 ?_
      clear hr7 hrow7 hg7 hn7
      refine hK.out _ _ HR7.out.c0 (fun hHeld4 => ?_)
      clear hK K hHeld3
      try simp only [PT]
      refine tk 28 ?_ ‹_› ?_ ?_; rotate_left; focus (intro w0 hSw; have e0 := hSw; go_simp; try with_reducible rfl)
      refine tk 29 ?_ ‹_› ?_ ?_; rotate_left; focus (intro w0 hSw; have e0 := hSw; go_simp; try with_reducible rfl)
      try simp only [PT]
      refine wpAnyH_ready (rs := [30]) (by decide +kernel) (by simp) (AllReadyH.cons rfl (fun K hK => ?_) AllReadyH.nil)
      obtain ⟨c4, z4⟩ := HR5.out.gcell HO.out HRR.out (fun k h1 _ => HB7.out.block k h1) (j := 4) rfl
      go_simp
      have hlen : 0 + pl + (o.ps.length - (pl + 1)) = (o.ps.eraseIdx pl).length := by rw [List.length_eraseIdx_of_lt HPL.out]; have := HPL.out; omega
      obtain ⟨ow8, HR8, -⟩ := HR5.out.row HO.out HRR.out (ps' := o.ps.eraseIdx pl) (by
       have h1 := own_low0 HW7.out
       rw [hlen, List.nil_append, ← List.flatten_append, ← List.map_append, ← erase_two] at h1
       rw [← hlen] at h1 ⊢
       exact h1) (fun k h1 _ => HB7.out.block k h1) (.inr fun k e => (HW7.out.lt k e).1) HB7.out.size ⟨HB7.out.os, HB7.out.tape, HB7.out.output⟩
      rw [Nat.zero_add] at HR8
      have HR8 := Lib.hid HR8
      refine hK.out _ _ HR8.out.c0 (fun hHeld5 => ?_)
      clear hK K hHeld4 hlen
      refine wpAnyH_done (by kernel_rfl) ?_ _
      clear hHeld5 c4 z4
      go_wp2_with fail
      go_ret
      exact ⟨by rw [HE.out]; rfl, ow8, _, by rw [HE.out]; exact HR8.out.out⟩
end
end Go.Proofs.YtcahijpbkjplmaaGreatDoor.G
