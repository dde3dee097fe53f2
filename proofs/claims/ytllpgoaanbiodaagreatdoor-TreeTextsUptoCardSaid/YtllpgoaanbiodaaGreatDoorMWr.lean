/-

-/
import Derived.Test.YtllpgoaanbiodaaGreatDoorMWq
import Derived.Test.YtllpgoaanbiodaaGreatDoorMC4
set_option maxRecDepth 8000
namespace Go.Proofs.YtllpgoaanbiodaaGreatDoor.R
open Go.RowKit Go.Shelf Go.Proofs.YtllpgoaanbiodaaGreatDoor Go.Proofs.YtllpgoaanbiodaaGreatDoor.T
attribute [local go_sem] Oper.semAt_some
theorem small2_of {v : V} (h : v.bulk ≤ 4194304) : Small2 v := by
 have e : v.bulk = 1 + v.nm.size + v.s.size + keysBulk v.ks + V.bulks v.l := by cases v; rfl
 have h1 := length_le_keysBulk v.ks
 have h2 := length_le_bulks v.l
 refine ⟨⟨by omega, by omega, by omega, fun k hk => by have := key_le_keysBulk hk; omega, by omega⟩, fun u hu => ?_⟩
 have h3 := bulk_le_of_mem hu
 have h4 := length_le_bulks u.l
 have h5 := bulk_ge u
 omega
theorem keepsFrom_below {B : Nat} {W W' : World} (h : Below W.heap.size W W') : KeepsFrom B W W' := ⟨h.size, fun k _ _ hk _ => (h.block k (Array.getElem?_eq_some_iff.1 hk).1).trans hk⟩
theorem Num.lt {w W : World} {B : Nat} {m : Int} (h : Num w W B m) : B < W.heap.size := by
 obtain ⟨o, ho, _⟩ := cells_of_cell h.c
 exact (Array.getElem?_eq_some_iff.1 ho).1
theorem Num.after {w W W' : World} {B : Nat} {m : Int} (h : Num w W B m) (hb : Below W.heap.size W W') : Num w W' B m := h.low hb h.lt h.b.size
theorem Num.took {w W : World} {B D : Nat} {m : Int} {o o' : Obj} (h : Num w W B m) (hK : W.heap[D]? = some o) (hD : B < D) (hw : w.heap.size ≤ D) : Num w (W.putObj D o') B m :=
 h.low (n := D) (below_put W D o o' (Nat.le_refl _) hK) hD hw
theorem predB_right {l : List V} (h : V.bulks l ≤ 4194304) : PredB 27 right l := fun v hv x w hx => isRight_any v x w hx (small2_of (by have := bulk_le_of_mem hv; omega))
theorem check_any (v : V) (x : X) (w : World) (hx : Is w v x) (hb : v.bulk ≤ 4194304) :
  Calls Tryz.prog 11 #[x.v] w fun e w' => e = .returned (.int .i64 v.chk) ∧ Below w.heap.size w w' := by
 obtain ⟨ch, hch0⟩ : ∃ ch, v.chk = ch := ⟨_, rfl⟩
 rw [hch0]
 have HC := Lib.hid hch0
 clear hch0
 by_cases hk41 : v.k = 41
 ·have HL := Lib.hid (lists_any x)
  have HI := Lib.hid hx
  have HT := Lib.hid (three_num w x 27)
  have HD := Lib.hid fun w' (h : Below w.heap.size w w') => deep_any v x w' (Is.below h _ _ hx) hb
  have hxk : x.k = 41 := by
   have := (isB_iff w w.heap.size v x).1 hx
   rw [this.1.1, hk41]
  obtain ⟨xk, xnm, xn, xs, xka, xkn, xkc, xla, xln, xlc⟩ := x
  simp only [X.v, X.cells] at HL HT HD
  simp only at hxk
  subst hxk
  clear hx
  refine (callsIn_wide (n := 9)).1 ?_
  refine callsIn_of_wp_marks Tryz.func11 rfl trivial ?_ rfl
  simp only [X.v, Tryz.ntmps11, List.size_toArray, List.length_cons, List.length_nil, Nat.reduceAdd, Nat.reduceSub, Array.replicate_succ, Array.replicate_zero, List.push_toArray, List.append_toArray, List.nil_append, List.cons_append]
  gi_wp2_with fail
  refine ⟨trivial, (callsIn_wide.2 (HL.out _)).mono ?_⟩
  rintro e w1 ⟨rfl, rfl⟩
  gi_wp2_with fail
  obtain ⟨W0, hW0, hz, hnum, hat, hat0⟩ := HT.out
  rw [hW0]
  have hb0 := hnum.b
  have HN0 : Hid (W0.heap.size = w.heap.size + 3) := hz
  refine range_low rfl (by omega) (gf := 35) (lb := #[.pointer (some ⟨w.heap.size + 2, 0, none⟩)]) rfl trivial (enters_of Tryz.func35 (by kernel_rfl) rfl)
   (lists_seq Fence.wide 8 trivial rfl (by omega) (w.heap.size + 2) w.heap.size (w.heap.size + 1) v _ W0 (by omega) (by omega) (by omega) (IsB.to hb0 (Nat.le_refl _) _ _ HI.out) hat hb)
   (fun x A C h k => h.kept x A C k) (fun h k => h.trans k) (fun W l o o' hl h hc hw => Kp.turn (by omega) W l o o' hl h hc hw) (Below.refl _ _) (fun _ => rfl)
   (fun (pre : List El) W => Num w W (w.heap.size + 1) 0 ∧ rightP (pre.map (·.2)) = true ∧ At W w.heap.size 0 ⟨41, xnm, xn, xs, xka, xkn, xkc, xla, xln, xlc⟩)
   (fun c (pre : List El) W => c = .ret ∧ Num w W (w.heap.size + 1) 70 ∧ rightP (pre.map (·.2)) = false)
   (fun _ _ _ h k => ⟨Num.low h.1 k (by omega) (by omega), h.2.1, h.2.2.below (B := W0.heap.size) (by omega) k⟩) (fun _ _ _ _ h k => ⟨h.1, Num.low h.2.1 k (by omega) (by omega), h.2.2⟩) ⟨hnum, rfl, hat0⟩
   (fun x => { tmps := #[.agg #[.int .i64 41, .string xnm, .int .i64 xn, .string xs, .slice xka xkn xkc, .slice xla xln xlc], .pointer (some ⟨w.heap.size, 0, none⟩), .pointer (some ⟨w.heap.size + 1, 0, none⟩), undef, .slice x.1.A x.1.n x.1.c, .pointer (some ⟨w.heap.size, 0, none⟩), .int .i64 41, .bool false,
    .agg #[.int .i64 41, .string xnm, .int .i64 xn, .string xs, .slice xka xkn xkc, .slice xla xln xlc], .func (.func 35) #[] #[.pointer (some ⟨w.heap.size + 1 + 1, 0, none⟩)], .int .i64 x.1.d, .slice x.1.A x.1.n x.1.c, undef, undef, undef, undef, undef, undef], defers := [] }) ?assign ?body ?done ?stop
  case assign =>
   intro l x W C hC
   gi_wp2
   exact hC
  case body =>
   rintro l pre x W ⟨⟨hc, hf, hB⟩, hr, ha0⟩ ⟨hg1, ⟨c, hc2, hp⟩, hg3, hg4⟩ hlt
   have HB := Lib.hid hB
   have hl4 := length_le_bulks x.2.2
   have HA := Lib.hid (all_any 27 right (enters_of Tryz.func27 (by kernel_rfl) rfl) x.2.2 (predB_right (by omega)) x.1.A x.1.c W (hp.row.row hg1 hc2) (by omega))
   have hpn : x.1.n = x.2.2.length := hp.n
   rw [<- hpn] at HA
   have HR : Hid (rightP ((pre ++ [x]).map (·.2)) = x.2.2.all right) := by
    show rightP ((pre ++ [x]).map (·.2)) = x.2.2.all right
    rw [List.map_append, List.map_singleton, rightP_snoc, hr, Bool.true_and]
   clear hp hg4 hc2 hB hz hat hat0 hnum HI HL HT HD hlt hl4 hpn hr hg3
   generalize x.2.2.all right = b at *
   gi_wp2_with fail
   refine ⟨trivial, (CallsIn.inRound l (callsIn_wide.2 HA.out)).mono ?_⟩
   rintro e w1 ⟨rfl, hb1⟩
   have HA1 := Lib.hid (ha0.below (B := W.heap.size) (by have := Num.lt (w := w) (W := W) ⟨hc, hf, HB.out⟩; omega) hb1)
   have hn1 := Num.after (w := w) (W := W) ⟨hc, hf, HB.out⟩ hb1
   have HN1 := Lib.hid hn1
   obtain ⟨hc1, hf1, -⟩ := hn1
   have HK1 : Hid (KeepsFrom W0.heap.size W w1 ∧ Kp w.heap.size (w.heap.size + 1) W w1) := ⟨keepsFrom_below hb1, Kp.of_below hg1 hb1⟩
   clear hb1 hc hf hg1
   cases b
   ·gi_wp2
    exact ⟨HK1.out.1.trans ((KeepsOthers.setCell _ _ _).from _), rfl, HN1.out.set (by omega) 70, HR.out⟩
   ·gi_wp2
    exact ⟨HK1.out.1, HK1.out.2, HN1.out, HR.out, HA1.out⟩
  case done =>
   rintro D xs' W hD hS ⟨⟨hc, hf, hB⟩, hr, ha0⟩ hK
   have hok : v.ok = true := by
    have := hS.kept.oks
    rw [hr] at this
    exact this.symm
   have hch : v.chk = if (64 : Int) < (v.deep : Int) then 31 else 0 := by
    unfold V.chk
    rw [if_pos ⟨hk41, hok⟩]
    by_cases h : 64 < v.deep
    ·rw [if_pos h, if_pos (by omega)]
    ·rw [if_neg h, if_neg (by omega)]
   rw [HC.out] at hch
   have HB := Lib.hid hB
   have hDD : w.heap.size + 1 < D := by omega
   obtain ⟨a0, a1, a2, a3, a4, a5⟩ := ha0
   clear hok hS hr hB hz hat hat0 hnum HL HT hk41
   gi_wp2_with fail
   refine ⟨trivial, (callsIn_wide.2 (HD.out W HB.out)).mono ?_⟩
   rintro e w2 ⟨rfl, hb2⟩
   have hn2 := Num.after (w := w) (W := W) ⟨hc, hf, HB.out⟩ hb2
   have hK2 : w2.heap[D]? = some (.deferred (some [])) := (hb2.block D (Array.getElem?_eq_some_iff.1 hK).1).trans hK
   have HN2 := Lib.hid hn2
   have HK2 := Lib.hid hK2
   have HDD := Lib.hid hDD
   obtain ⟨hc2, hf2, -⟩ := hn2
   clear hb2 hc hf hK hK2 HD HI
   generalize (v.deep : Int) = dd at *
   by_cases hdd : (64 : Int) < dd
   ·rw [if_pos hdd] at hch
    have HCH := Lib.hid hch
    clear hch
    gi_wp2
    have hs3 := HN2.out.set (by omega) 31
    have hK3 := (KeepsOthers.setCell w2 ⟨w.heap.size + 1, 0, none⟩ (.int .i64 31)).same D _ HK2.out rfl
    have hs4 := hs3.took (o' := .deferred none) hK3 HDD.out (by have := HDD.out; omega)
    have hc4 := hs4.c
    refine ⟨by simp, .inl ⟨_, _, rfl, run_takeDeferred hK3, ?_⟩⟩
    exact ⟨.int .i64 31, by simp [results, Tryz.f11, go_sem, hc4], by rw [HCH.out], hs4.b⟩
   ·rw [if_neg hdd] at hch
    have HCH := Lib.hid hch
    clear hch
    gi_wp2
    have hs3 := HN2.out.set (by omega) 0
    have hK3 := (KeepsOthers.setCell w2 ⟨w.heap.size + 1, 0, none⟩ (.int .i64 0)).same D _ HK2.out rfl
    have hs4 := hs3.took (o' := .deferred none) hK3 HDD.out (by have := HDD.out; omega)
    have hc4 := hs4.c
    refine ⟨by simp, .inl ⟨_, _, rfl, run_takeDeferred hK3, ?_⟩⟩
    exact ⟨.int .i64 0, by simp [results, Tryz.f11, go_sem, hc4], by rw [HCH.out], hs4.b⟩
  case stop =>
   rintro D c pre W hD ⟨st, hre⟩ ⟨rfl, hN, hr⟩ hK
   have hok : v.ok = false := by
    have := hre.kept.oks
    rw [hr] at this
    exact this.symm
   have hch : v.chk = 70 := by
    unfold V.chk
    rw [if_neg (by rw [hok]; simp)]
   rw [HC.out] at hch
   have HCH := Lib.hid hch
   have HN := Lib.hid hN
   have HDD : Hid (w.heap.size + 1 < D) := by
    show w.heap.size + 1 < D
    omega
   clear hch hok hre hr hz hat hnum HL HT hk41 HD HI hN
   gi_wp2
   have hs4 := HN.out.took (o' := .deferred none) hK HDD.out (by have := HDD.out; omega)
   have hc4 := hs4.c
   refine ⟨by simp, .inl ⟨_, _, rfl, run_takeDeferred hK, ?_⟩⟩
   exact ⟨.int .i64 70, by simp [results, Tryz.f11, go_sem, hc4], by rw [HCH.out], hs4.b⟩
 ·have hch : v.chk = 70 := by
   unfold V.chk
   rw [if_neg (fun h => hk41 h.1)]
  rw [HC.out] at hch
  subst hch
  have hxk : ¬ x.k = 41 := by
   have := (isB_iff w w.heap.size v x).1 hx
   rw [this.1.1]
   exact hk41
  obtain ⟨xk, xnm, xn, xs, xka, xkn, xkc, xla, xln, xlc⟩ := x
  simp only at hxk
  have hxb : (xk == 41) = false := by rw [beq_eq_false_iff_ne]; exact hxk
  simp only [X.v]
  clear hx hk41 hxk HC
  go_enter Tryz.func11, Tryz.ntmps11
  go_wp2_with fail
  refine bodyPost_ret (v := .int .i64 70) (by simp [results, Tryz.f11, go_sem]) rfl ⟨rfl, ?_⟩
  exact (below_alloc w _).alloc (by simp) _
end Go.Proofs.YtllpgoaanbiodaaGreatDoor.R
