/-
 The reference's calls at what is no object, and where no cell is left, by contract.
 The reference's Make, Array, Put, Define, Delete where nothing is done, by contract.
 The reference's Array where it makes none, by contract.
 SameNames; two values, two properties compared.
 do beside a reference where nothing is done: an op in memory; what is kept.
 How many names there are; what Len answers.
-/
import Derived.Test.YtcahijpbkjplmaaGreatDoorMTi
set_option linter.unusedSimpArgs false
namespace Go.Proofs.YtcahijpbkjplmaaGreatDoor.G
open Go.RowKit Go.Shelf Go.Maps Go.Lib Go.Proofs.YtcahijpbkjplmaaGreatDoor
section
variable {w w' : World} {ow : Nat → Option Nat} {A : Nat} {H : Hs} {R : List Value}
theorem obj_none {v : Vl} (h : H.at v = none) : H.obj v = none := by
 unfold Hs.obj
 rw [h]
 rfl
set_option maxRecDepth 8000 in
theorem rlen_none (h : RH w A H ow R) (v : Vl) (hl : H.os.length ≤ 100000) (hat : H.at v = none) :
  Calls Tryz.prog 45 #[pv A, v.v] w fun e w' => e = .returned (.tuple #[.int .i64 0, .bool false]) ∧ Below w.heap.size w w' := by
 have hb0 := below_new w (.cells v.cs.toArray 29)
 have HB := Lib.hid hb0
 have HT := Lib.hid (rclass_any (h.low hb0) v hl)
 rw [obj_none hat] at HT
 clear h hb0 hat
 obtain ⟨vk, vn, vs⟩ := v
 simp only [Vl.v, Vl.cs, clsR, nil] at HB HT ⊢
 go_enter Tryz.func45, Tryz.ntmps45
 go_wp2_with fail
 refine HT.out.mono ?_
 rintro e w1 ⟨rfl, hb⟩
 go_wp2_with fail
 go_ret2
 exact ⟨rfl, HB.out.trans (hb.mono HB.out.size)⟩
set_option maxRecDepth 8000 in
theorem rprop_none (h : RH w A H ow R) (v : Vl) (key : ByteArray) (hl : H.os.length ≤ 100000) (hat : H.at v = none) :
  Calls Tryz.prog 74 #[pv A, v.v, .string key] w fun e w' => e = .returned (.int .i64 (-1)) ∧ Below w.heap.size w w' := by
 have hb0 := below_new w (.cells v.cs.toArray 29)
 have HB := Lib.hid hb0
 have HT := Lib.hid (rat_any (h.low hb0) v hl)
 rw [hat] at HT
 clear h hb0 hat
 obtain ⟨vk, vn, vs⟩ := v
 simp only [Vl.v, Vl.cs, atI] at HB HT ⊢
 go_enter Tryz.func74, Tryz.ntmps74
 go_wp2_with fail
 refine HT.out.mono ?_
 rintro e w1 ⟨rfl, hb⟩
 go_wp2_with fail
 go_ret
 exact ⟨rfl, HB.out.trans (hb.mono HB.out.size)⟩
set_option maxRecDepth 8000 in
theorem rown_none (h : RH w A H ow R) (v : Vl) (key : ByteArray) (hl : H.os.length ≤ 100000) (hat : H.at v = none) :
  Calls Tryz.prog 39 #[pv A, v.v, .string key] w fun e w' => e = .returned (ownR none) ∧ Below w.heap.size w w' := by
 obtain ⟨W0, eW, hr0, hr1, hb0⟩ := two_new w 29 31 v.cs pr0.cs
 have HB := Lib.hid hb0
 have HH := Lib.hid (h.low hb0)
 have HT := Lib.hid (rislen_any (h.low hb0) v key hl)
 have HP := Lib.hid fun w' (hb : Below W0.heap.size W0 w') => rprop_none (HH.out.low hb) v key hl hat
 have HR := Lib.hid hr1
 have HF : (decide (clsR (H.obj v) = AR) && decide (key = LK)) = false := by
  rw [obj_none hat, show decide (clsR none = AR) = false from by decide]
  rfl
 rw [HF] at HT
 have HE := Lib.hid eW
 clear h hb0 hat hr0 hr1 eW HF
 obtain ⟨vk, vn, vs⟩ := v
 simp only [Vl.v, Vl.cs, Pr.cs, pr0] at HB HT HR HE HP ⊢
 go_enter Tryz.func39, Tryz.ntmps39
 go_wp2_with fail
 rw [HE.out]
 refine HT.out.mono ?_
 rintro e w1 ⟨rfl, hb⟩
 have H1 := Lib.hid (HB.out.trans (hb.mono HB.out.size))
 have HP1 := Lib.hid (HP.out _ hb)
 have HR1 := Lib.hid (HR.out.low hb)
 have hcv : w1.cell? ⟨w.heap.size, 0, none⟩ = some (.int .i64 vk) ∧ w1.cell? ⟨w.heap.size, 1, none⟩ = some (.int .i64 vn) ∧ w1.cell? ⟨w.heap.size, 2, none⟩ = some (.string vs) := by
  have hv : Blk W0 w.heap.size 29 [.int .i64 vk, .int .i64 vn, .string vs] := by
   rw [← HE.out]
   exact (Blk.new w _ _).fr (Below.heap_alloc _ _ _ (by simp))
  exact Blk.three (v := ⟨vk, vn, vs⟩) (hv.low hb)
 obtain ⟨q0, q1, q2⟩ := hcv
 clear hb HT HP HR
 go_wp2_with fail
 refine HP1.out.mono ?_
 rintro e w2 ⟨rfl, hb⟩
 have HR2 := Lib.hid (HR1.out.low hb)
 have H2 := Lib.hid (H1.out.trans (hb.mono H1.out.size))
 obtain ⟨d0, d1, d2, d3, d4, d5, d6⟩ := Blk.seven (p := pr0) HR2.out
 have z2 := HR2.out.fz
 dsimp only [pr0] at d0 d1 d2 d3 d4 d5 d6
 clear hb HP1 HR1 q0 q1 q2
 go_wp2_with fail
 refine bodyPost_ret (res_pt rfl _ _ (w.heap.size + 1) pr0 _ (by rfl) (by rfl) ?_) rfl ⟨rfl, ?_⟩
 ·exact ((((((HR2.out.set 0 _).set 1 _).set 2 _).set 3 _).set 4 _).set 5 _).set 6 _
 ·exact (((((((H2.out.setCell (p := ⟨w.heap.size + 1, 0, none⟩) (Nat.le_succ _) _).setCell (p := ⟨w.heap.size + 1, 1, none⟩) (Nat.le_succ _) _).setCell (p := ⟨w.heap.size + 1, 2, none⟩) (Nat.le_succ _) _).setCell (p := ⟨w.heap.size + 1, 3, none⟩) (Nat.le_succ _) _).setCell (p := ⟨w.heap.size + 1, 4, none⟩) (Nat.le_succ _) _).setCell (p := ⟨w.heap.size + 1, 5, none⟩) (Nat.le_succ _) _).setCell (p := ⟨w.heap.size + 1, 6, none⟩) (Nat.le_succ _) _)
end
section
variable {w w' : World} {ow : Nat → Option Nat} {A : Nat} {H : Hs} {R : List Value}
theorem blk_two (w : World) (T T' : TypeId) (xs ys : List Value) : Blk ((w.alloc (.cells xs.toArray T)).alloc (.cells ys.toArray T')) w.heap.size T xs ∧ Blk ((w.alloc (.cells xs.toArray T)).alloc (.cells ys.toArray T')) (w.heap.size + 1) T' ys := by
 obtain ⟨W0, e, h1, h2, -⟩ := two_new w T T' xs ys
 rw [← e] at h1 h2
 exact ⟨h1, h2⟩
set_option maxRecDepth 8000 in
theorem rmake_none (h : RH w A H ow R) (cls : ByteArray) (v : Vl) (hm : H.most ≤ H.n) :
  Calls Tryz.prog 32 #[pv A, .string cls, v.v] w fun e w' => e = .returned (makeR none) ∧ Below w.heap.size w w' := by
 have hb0 := two_low (w := w) 29 29 v.cs (Vl.cs vundef)
 have HB := Lib.hid hb0
 have HT := Lib.hid (rtake_none (h.low hb0) hm)
 have HR := Lib.hid (blk_two w 29 29 v.cs (Vl.cs vundef)).2
 clear h hb0 hm
 obtain ⟨vk, vn, vs⟩ := v
 simp only [Vl.v, Vl.cs, vundef, nil] at HB HT HR ⊢
 go_enter Tryz.func32, Tryz.ntmps32
 go_wp2_with fail
 refine HT.out.mono ?_
 rintro e w1 ⟨rfl, hb⟩
 have HR1 := Lib.hid (HR.out.low hb)
 have H1 := Lib.hid (HB.out.trans (hb.mono HB.out.size))
 obtain ⟨d0, d1, d2⟩ := Blk.three (v := ⟨0, 0, ⟨#[]⟩⟩) HR1.out
 have z := HR1.out.fz
 dsimp only at d0 d1 d2
 clear hb HT HR HB
 go_wp2_with fail
 refine bodyPost_ret (res_vt rfl _ _ (w.heap.size + 1) ⟨0, 0, ⟨#[]⟩⟩ _ (by rfl) (by rfl) ?_) rfl ⟨rfl, ?_⟩
 ·exact ((HR1.out.set 0 _).set 1 _).set 2 _
 ·exact ((H1.out.setCell (p := ⟨w.heap.size + 1, 0, none⟩) (Nat.le_succ _) _).setCell (p := ⟨w.heap.size + 1, 1, none⟩) (Nat.le_succ _) _).setCell (p := ⟨w.heap.size + 1, 2, none⟩) (Nat.le_succ _) _
set_option maxRecDepth 8000 in
theorem rput_none (h : RH w A H ow R) (v : Vl) (key : ByteArray) (x : Vl) (hl : H.os.length ≤ 100000) (hat : H.at v = none) :
  Calls Tryz.prog 34 #[pv A, v.v, .string key, x.v] w fun e w' => e = .returned (.int .i64 110) ∧ Below w.heap.size w w' := by
 have hb0 := two_low (w := w) 29 29 v.cs x.cs
 have HB := Lib.hid hb0
 have HT := Lib.hid (rat_any (h.low hb0) v hl)
 rw [hat] at HT
 clear h hb0 hat
 obtain ⟨vk, vn, vs⟩ := v
 obtain ⟨xk, xn, xs⟩ := x
 simp only [Vl.v, Vl.cs, atI] at HB HT ⊢
 go_enter Tryz.func34, Tryz.ntmps34
 go_wp2_with fail
 refine HT.out.mono ?_
 rintro e w1 ⟨rfl, hb⟩
 go_wp2_with fail
 go_ret
 exact ⟨rfl, HB.out.trans (hb.mono HB.out.size)⟩
set_option maxRecDepth 8000 in
theorem rdefine_none (h : RH w A H ow R) (v : Vl) (p : Pr) (hl : H.os.length ≤ 100000) (hat : H.at v = none) :
  Calls Tryz.prog 35 #[pv A, v.v, p.v'] w fun e w' => e = .returned (.int .i64 110) ∧ Below w.heap.size w w' := by
 have hb0 := two_low (w := w) 29 31 v.cs p.cs
 have HB := Lib.hid hb0
 have HT := Lib.hid (rat_any (h.low hb0) v hl)
 rw [hat] at HT
 clear h hb0 hat
 obtain ⟨vk, vn, vs⟩ := v
 obtain ⟨pk, ⟨pvk, pvn, pvs⟩, pw, pe, pf⟩ := p
 simp only [Vl.v, Vl.cs, atI, Pr.v', Pr.cs] at HB HT ⊢
 go_enter Tryz.func35, Tryz.ntmps35
 go_wp2_with fail
 refine HT.out.mono ?_
 rintro e w1 ⟨rfl, hb⟩
 go_wp2_with fail
 go_ret
 exact ⟨rfl, HB.out.trans (hb.mono HB.out.size)⟩
set_option maxRecDepth 8000 in
theorem rdelete_none (h : RH w A H ow R) (v : Vl) (key : ByteArray) (hl : H.os.length ≤ 100000) (hat : H.at v = none) :
  Calls Tryz.prog 37 #[pv A, v.v, .string key] w fun e w' => e = .returned (.int .i64 110) ∧ Below w.heap.size w w' := by
 have hb0 := below_new w (.cells v.cs.toArray 29)
 have HB := Lib.hid hb0
 have HT := Lib.hid (rat_any (h.low hb0) v hl)
 rw [hat] at HT
 clear h hb0 hat
 obtain ⟨vk, vn, vs⟩ := v
 simp only [Vl.v, Vl.cs, atI] at HB HT ⊢
 go_enter Tryz.func37, Tryz.ntmps37
 go_wp2_with fail
 refine HT.out.mono ?_
 rintro e w1 ⟨rfl, hb⟩
 go_wp2_with fail
 go_ret
 exact ⟨rfl, HB.out.trans (hb.mono HB.out.size)⟩
set_option maxRecDepth 8000 in
theorem rkeys_none (h : RH w A H ow R) (v : Vl) (hl : H.os.length ≤ 100000) (hat : H.at v = none) :
  Calls Tryz.prog 15 #[pv A, v.v] w fun e w' => e = .returned (.slice none 0 0) ∧ Below w.heap.size w w' := by
 have hb0 := below_new w (.cells v.cs.toArray 29)
 have HB := Lib.hid hb0
 have HT := Lib.hid (rat_any (h.low hb0) v hl)
 rw [hat] at HT
 clear h hb0 hat
 obtain ⟨vk, vn, vs⟩ := v
 simp only [Vl.v, Vl.cs, atI] at HB HT ⊢
 go_enter Tryz.func15, Tryz.ntmps15
 go_wp2_with fail
 refine HT.out.mono ?_
 rintro e w1 ⟨rfl, hb⟩
 go_wp2_with fail
 go_ret
 exact ⟨rfl, HB.out.trans (hb.mono HB.out.size)⟩
end
section
variable {w w' : World} {ow : Nat → Option Nat} {A : Nat} {H : Hs} {R : List Value}
set_option maxRecDepth 8000 in
theorem rarray_none (h : RH w A H ow R) (v : Vl) (a : Option Addr) (n c : Nat) (hno : 1000 < n ∨ H.most < H.n + (n + 1)) (_hmx : H.most ≤ 100000) (hn : H.n ≤ H.most) :
  Calls Tryz.prog 33 #[pv A, v.v, .slice a n c] w fun e w' => e = .returned (makeR none) ∧ Below w.heap.size w w' := by
 have hb0 := two_low (w := w) 29 29 v.cs (Vl.cs vundef)
 have HB := Lib.hid hb0
 obtain ⟨ov, hov, -, -⟩ := (h.low hb0).hb
 have HR := Lib.hid (blk_two w 29 29 v.cs (Vl.cs vundef)).2
 have HOV := Lib.hid hov
 clear h hb0 hov
 obtain ⟨vk, vn, vs⟩ := v
 simp only [Vl.v, Vl.cs, vundef, nil] at HB HR HOV ⊢
 by_cases h1 : 1000 < n
 ·have h1' : (1000 : Int) < (n : Int) := by omega
  clear hno h1
  go_enter Tryz.func33, Tryz.ntmps33
  go_wp2_with fail
  go_quiet (fail)
  go_wp2_with fail
  refine bodyPost_ret (res_vt rfl _ _ (w.heap.size + 1) ⟨0, 0, ⟨#[]⟩⟩ _ (by rfl) (by rfl) ?_) rfl ⟨rfl, ?_⟩
  ·exact (((HR.out.fr (w' := World.drewN _ _) rfl).set 0 _).set 1 _).set 2 _
  ·exact (((HB.out.trans (below_drewN _ _ _)).setCell (p := ⟨w.heap.size + 1, 0, none⟩) (Nat.le_succ _) _).setCell (p := ⟨w.heap.size + 1, 1, none⟩) (Nat.le_succ _) _).setCell (p := ⟨w.heap.size + 1, 2, none⟩) (Nat.le_succ _) _
 ·have h1' : ¬ (1000 : Int) < (n : Int) := by omega
  have h2 : H.most < H.n + (n + 1) := by omega
  have h3 : (H.most : Int) - (H.n : Int) < (n : Int) + 1 := by omega
  have hw1 : IntKind.i64.wrap ((H.most : Int) - (H.n : Int)) = (H.most : Int) - (H.n : Int) := IntWalk.i64_in _ (by omega)
  have hw2 : IntKind.i64.wrap ((n : Int) + 1) = (n : Int) + 1 := IntWalk.i64_in _ (by omega)
  have c1 := HOV.out.cell (k := 1) rfl
  have c2 := HOV.out.cell (k := 2) rfl
  clear hno h1 h2
  go_enter Tryz.func33, Tryz.ntmps33
  go_wp2_with fail
  go_quiet (fail)
  go_wp2_with fail
  refine bodyPost_ret (res_vt rfl _ _ (w.heap.size + 1) ⟨0, 0, ⟨#[]⟩⟩ _ (by rfl) (by rfl) ?_) rfl ⟨rfl, ?_⟩
  ·exact (((HR.out.fr (w' := World.drewN _ _) rfl).set 0 _).set 1 _).set 2 _
  ·exact (((HB.out.trans (below_drewN _ _ _)).setCell (p := ⟨w.heap.size + 1, 0, none⟩) (Nat.le_succ _) _).setCell (p := ⟨w.heap.size + 1, 1, none⟩) (Nat.le_succ _) _).setCell (p := ⟨w.heap.size + 1, 2, none⟩) (Nat.le_succ _) _
end
def Nm (w : World) (r : Value) (ks : List ByteArray) : Prop := ∃ A c, r = .slice A ks.length c ∧ (ks = [] ∨ ∃ g, A = some ⟨g, 0, none⟩ ∧ g < w.heap.size ∧ ∀ j s, ks[j]? = some s → w.cell? ⟨g, j, none⟩ = some (.string s))
theorem Nm.nil (w : World) : Nm w (.slice none 0 0) [] := ⟨none, 0, rfl, .inl rfl⟩
theorem Nm.low {w w' : World} {r : Value} {ks : List ByteArray} (h : Nm w r ks) (hb : Below w.heap.size w w') : Nm w' r ks := by
 obtain ⟨A, c, h1, h2⟩ := h
 refine ⟨A, c, h1, h2.imp id ?_⟩
 rintro ⟨g, h3, h4, h5⟩
 exact ⟨g, h3, Nat.lt_of_lt_of_le h4 hb.size, fun j s e => (World.cell?_of_block (w := w) (a := ⟨g, j, none⟩) (hb.block g h4)).trans (h5 j s e)⟩
theorem Txs.nm {w : World} {b : Nat} {r : Value} {ks : List ByteArray} (h : Txs w b r ks) : Nm w r ks := by
 obtain ⟨A, c, e⟩ := row_len h
 refine ⟨A, c, e, ?_⟩
 rcases Nat.eq_zero_or_pos ks.length with h0 | h0
 ·exact .inl (List.length_eq_zero_iff.1 h0)
 ·obtain ⟨g, cap, e2, -⟩ := row_form h h0
  right
  have e3 := e.symm.trans e2
  injection e3 with e4
  refine ⟨g, e4, (World.ownsRow.lt h g (by rw [e2]; rfl)).2, fun j s hj => ?_⟩
  have := World.ownsRow.cells h (g := g) (by rw [e2]; rfl) j (.string s) (by rw [List.getElem?_map, hj]; rfl)
  rw [add_lit, Nat.zero_add] at this
  exact this
def AnsB (w : World) (b : Bool) (e : Ending) (w' : World) : Prop := e = .returned (.bool b) ∧ Below w.heap.size w w'
theorem eq_of_all {L M : List ByteArray} (hl : L.length = M.length) (h : ∀ j (h1 : j < L.length) (h2 : j < M.length), L[j] = M[j]) : L = M := List.ext_getElem hl h
set_option maxRecDepth 8000 in
set_option maxHeartbeats 1000000 in
theorem names_any (L M : List ByteArray) (r s : Value) (w : World) (hA : Nm w r L) (hB : Nm w s M) (hl : L.length ≤ 100000000000) (hl2 : M.length ≤ 100000000000) :
  Calls Tryz.prog 30 #[r, s] w (AnsB w (decide (L = M))) := by
 obtain ⟨A, c, rfl, hA⟩ := hA
 obtain ⟨B, d, rfl, hB⟩ := hB
 have HA := Lib.hid hA
 have HB := Lib.hid hB
 have hli : (L.length : Int) ≤ 100000000000 := by omega
 clear hA hB
 by_cases hlm : L.length = M.length
 ·have HLM := Lib.hid hlm
  rw [← hlm]
  clear hlm
  go_enter Tryz.func30, Tryz.ntmps30
  go_wp2_with fail
  go_loopw [13] (fun i wr => ∃ k : Nat, k ≤ L.length ∧ i = .int .i64 k ∧ Hid (Below w.heap.size w wr) ∧ Hid (∀ j (h : j < k) (h1 : j < L.length) (h2 : j < M.length), L[j] = M[j])) (fun i _ => L.length - (intOf i).toNat)
  case atStart => exact ⟨0, Nat.zero_le _, rfl, Lib.hid (Below.refl _ _), Lib.hid fun j h => absurd h (Nat.not_lt_zero _)⟩
  case round =>
   obtain ⟨k, hk, rfl, hb, hno⟩ := hrel
   by_cases hlt : k < L.length
   ·have hlt2 : k < M.length := by have := HLM.out; omega
    obtain ⟨g, rfl, hg, c1⟩ : ∃ g, A = some ⟨g, 0, none⟩ ∧ g < w.heap.size ∧ wr.cell? ⟨g, k, none⟩ = some (.string L[k]) := by
     rcases HA.out with e | ⟨g, e1, e2, e3⟩
     ·subst e
      exact absurd hlt (Nat.not_lt_zero _)
     ·exact ⟨g, e1, e2, (World.cell?_of_block (w := w) (a := ⟨g, k, none⟩) (hb.out.block g e2)).trans (e3 k _ (List.getElem?_eq_getElem hlt))⟩
    obtain ⟨g2, rfl, hg2, c2⟩ : ∃ g, B = some ⟨g, 0, none⟩ ∧ g < w.heap.size ∧ wr.cell? ⟨g, k, none⟩ = some (.string M[k]) := by
     rcases HB.out with e | ⟨g, e1, e2, e3⟩
     ·subst e
      exact absurd hlt2 (Nat.not_lt_zero _)
     ·exact ⟨g, e1, e2, (World.cell?_of_block (w := w) (a := ⟨g, k, none⟩) (hb.out.block g e2)).trans (e3 k _ (List.getElem?_eq_getElem hlt2))⟩
    have HY : Hid (¬ L[k] = M[k] → ¬ L = M) := fun e e2 => e (by subst e2; rfl)
    have HN : Hid (L[k] = M[k] → ∀ j (h : j < k + 1) (h1 : j < L.length) (h2 : j < M.length), L[j] = M[j]) := fun e j hj h1 h2 => by
     by_cases hjk : j = k
     ·subst hjk; exact e
     ·exact hno.out j (by omega) h1 h2
    clear hg hg2
    by_cases he : L[k] = M[k]
    ·have HNE := Lib.hid (HN.out he)
     rw [← he] at c2
     clear HY HN he
     generalize L[k] = s at *
     go_wp2_with fail
     go_region_held3 (fun w' => w'.cell? ⟨g, k, none⟩ = some (.string s) ∧ w'.cell? ⟨g2, k, none⟩ = some (.string s)) (first | go_keep) ((fail))
     go_wp2_with fail
     go_roundw
     case rel => exact ⟨k + 1, hlt, by go_num, Lib.hid (hb.out.drew), HNE⟩
     case measure => simp [intOf]; omega
    ·have HNE := Lib.hid (HY.out he)
     clear HY HN
     generalize L[k] = s at *
     generalize M[k] = t at *
     have hst := (toList_eq_is s t).trans (decide_eq_false he)
     clear he
     go_wp2_with fail
     go_region_held3 (fun w' => w'.cell? ⟨g, k, none⟩ = some (.string s) ∧ w'.cell? ⟨g2, k, none⟩ = some (.string t)) (first | go_keep) ((fail))
     go_wp2_with fail
     go_ret
     exact ⟨by rw [decide_eq_false HNE.out]; rfl, hb.out.drew⟩
   ·obtain rfl : k = L.length := by omega
    have HNE := Lib.hid (eq_of_all HLM.out fun j h1 h2 => hno.out j h1 h1 h2)
    go_wp2_with fail
    go_ret
    exact ⟨by rw [decide_eq_true HNE.out]; rfl, hb.out⟩
 ·have hd : decide (L = M) = false := decide_eq_false fun e => hlm (by rw [e])
  rw [hd]
  have h1 : ¬ (L.length : Int) = (M.length : Int) := by omega
  clear hlm
  go_enter Tryz.func30, Tryz.ntmps30
  go_wp2_with fail
  go_ret
  exact ⟨rfl, Below.refl _ _⟩
abbrev opC (o : Op) (sl : Value) : List Value := [.int .i64 o.d, .int .i64 o.v.k, .int .i64 o.v.n, .string o.v.s, .int .i64 o.x.k, .int .i64 o.x.n, .string o.x.s, .string o.key, .string o.p.key, .int .i64 o.p.v.k, .int .i64 o.p.v.n, .string o.p.v.s, .bool o.p.w, .bool o.p.e, .bool o.p.f, sl]
abbrev opV (o : Op) (sl : Value) : Value := .agg #[.int .i64 o.d, .int .i64 o.v.k, .int .i64 o.v.n, .string o.v.s, .int .i64 o.x.k, .int .i64 o.x.n, .string o.x.s, .string o.key, .string o.p.key, .int .i64 o.p.v.k, .int .i64 o.p.v.n, .string o.p.v.s, .bool o.p.w, .bool o.p.e, .bool o.p.f, sl]
section
variable {w w1 w2 : World} {ow ow1 ow2 : Nat → Option Nat} {A X B : Nat} {H H1 H2 : Hs} {L L1 L2 : List OL} {o : Op} {sl : Value} {bk : Nat}
theorem op_cells (h : Blk w B 34 (opC o sl)) : (w.cell? ⟨B, 1, none⟩ = some (.int .i64 o.v.k) ∧ w.cell? ⟨B, 2, none⟩ = some (.int .i64 o.v.n) ∧ w.cell? ⟨B, 3, none⟩ = some (.string o.v.s)) ∧ (w.cell? ⟨B, 4, none⟩ = some (.int .i64 o.x.k) ∧ w.cell? ⟨B, 5, none⟩ = some (.int .i64 o.x.n) ∧ w.cell? ⟨B, 6, none⟩ = some (.string o.x.s)) ∧ w.cell? ⟨B, 7, none⟩ = some (.string o.key) ∧
  (w.cell? ⟨B, 8, none⟩ = some (.string o.p.key) ∧ w.cell? ⟨B, 9, none⟩ = some (.int .i64 o.p.v.k) ∧ w.cell? ⟨B, 10, none⟩ = some (.int .i64 o.p.v.n) ∧ w.cell? ⟨B, 11, none⟩ = some (.string o.p.v.s) ∧ w.cell? ⟨B, 12, none⟩ = some (.bool o.p.w) ∧ w.cell? ⟨B, 13, none⟩ = some (.bool o.p.e) ∧ w.cell? ⟨B, 14, none⟩ = some (.bool o.p.f)) ∧ w.cell? ⟨B, 15, none⟩ = some sl :=
 ⟨⟨h.cell rfl, h.cell rfl, h.cell rfl⟩, ⟨h.cell rfl, h.cell rfl, h.cell rfl⟩, h.cell rfl, ⟨h.cell rfl, h.cell rfl, h.cell rfl, h.cell rfl, h.cell rfl, h.cell rfl, h.cell rfl⟩, h.cell rfl⟩
theorem makeR_is (q : Option Nat) : ∃ (v : Vl) (b : Bool), makeR q = .tuple #[v.v, .bool b] := by
 cases q with
 | none => exact ⟨_, _, rfl⟩
 | some i => exact ⟨_, _, rfl⟩
theorem getR_is (q : Option Pr) : ∃ (v : Vl) (b : Bool), getR q = .tuple #[v.v, .bool b] := by
 cases q with
 | none => exact ⟨_, _, rfl⟩
 | some i => exact ⟨_, _, rfl⟩
end
theorem enumP_len : ∀ (ps : List Pr) (met : List ByteArray), (enumP ps met).1.length ≤ ps.length
 | [], _ => Nat.le_refl _
 | p :: r, met => by
  have := enumP_len r (met ++ [p.key])
  rw [enumP, List.length_cons]
  dsimp only
  split
  ·rw [List.length_cons]
   omega
  ·omega
theorem enumC_len {os : List Ob} (h : ∀ (i : Nat) (o : Ob), os[i]? = some o → o.ps.length ≤ 100000) : ∀ (l : List Nat) (met : List ByteArray), (enumC LK AR os l met).length ≤ l.length * 100000
 | [], _ => Nat.zero_le _
 | i :: r, met => by
  rw [enumC]
  cases ho : os[i]? with
  | none => exact Nat.zero_le _
  | some o =>
   have h1 := h i o ho
   have h2 := enumP_len o.ps met
   have h3 := enumC_len h r (enumO LK AR o met).2
   dsimp only
   rw [List.length_append, List.length_cons]
   have h4 : (enumO LK AR o met).1.length = (enumP o.ps met).1.length := rfl
   omega
theorem Gd.enum_len {H : Hs} (g : Gd H) (q : Option Nat) : (H.enum LK AR q).length ≤ 100000000000 := by
 have h := enumC_len (os := H.os) (fun i o ho => Nat.le_trans (g.og i o ho).l g.n100) (H.chain q) []
 have h2 : (H.chain q).length ≤ 100000 := Nat.le_trans (up_len H.os H.os.length q) g.os100
 unfold Hs.enum
 omega
theorem Gd.keys_len {H : Hs} (g : Gd H) (v : Vl) : (keysR (H.obj v)).length ≤ 100000000000 := by
 unfold Hs.obj
 cases H.at v with
 | none => exact Nat.zero_le _
 | some i =>
  show (keysR H.os[i]?).length ≤ _
  cases ho : H.os[i]? with
  | none => exact Nat.zero_le _
  | some o =>
   have := Nat.le_trans (g.og i o ho).l g.n100
   show (o.ps.map (·.key)).length ≤ _
   rw [List.length_map]
   omega
theorem lenR_is (q : Option Ob) : ∃ (n : Int) (b : Bool), lenR q = .tuple #[.int .i64 n, .bool b] := by
 unfold lenR
 split
 ·split
  ·exact ⟨_, _, rfl⟩
  ·exact ⟨_, _, rfl⟩
 ·exact ⟨_, _, rfl⟩
end Go.Proofs.YtcahijpbkjplmaaGreatDoor.G
