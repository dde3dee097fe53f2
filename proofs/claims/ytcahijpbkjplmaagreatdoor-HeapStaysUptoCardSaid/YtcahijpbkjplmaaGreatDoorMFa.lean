/-
  The reference's calls at what is no object, and where no cell is left, by contract.
  The reference's Make, Array, Put, Define, Delete where nothing is done, by contract.
  The reference's Array where it makes none, by contract.
  SameNames; two values, two properties compared.
  do beside a reference where nothing is done: an op in memory; what is kept. (gen_fa.py)
-/
import Derived.Test.YtcahijpbkjplmaaGreatDoorMTi
namespace Go.Proofs.YtcahijpbkjplmaaGreatDoor.G
open Go.RowKit Go.Shelf Go.Maps Go.Lib Go.Proofs.YtcahijpbkjplmaaGreatDoor

section
variable {w w' : World} {ow : Nat → Option Nat} {A : Nat} {H : Hs} {R : List Value}
theorem obj_none {v : Vl} (h : H.at v = none) : H.obj v = none := by
  unfold Hs.obj
  rw [h]
  rfl
set_option maxRecDepth 8000 in
theorem rlen_none (h : RH w A H ow R) (v : Vl) (hl : H.os.length ≤ 100000) (hat : H.at v = none) :
    Calls Tryz.prog 45 #[pv A, v.v] w fun e w' => e = .returned (.tuple #[.int .i64 0, .bool false]) ∧ Below w.heap.size w w' := by
  have hb0 := below_new w (.cells v.cs.toArray 29)
  have HB := Lib.hid hb0
  have HT := Lib.hid (rclass_any (h.low hb0) v hl)
  rw [obj_none hat] at HT
  clear h hb0 hat
  obtain ⟨vk, vn, vs⟩ := v
  simp only [Vl.v, Vl.cs, clsR, nil] at HB HT ⊢
  go_enter Tryz.func45, Tryz.ntmps45
  go_wp2_with fail
  refine HT.out.mono ?_
  rintro e w1 ⟨rfl, hb⟩
  go_wp2_with fail
  go_ret2
  exact ⟨rfl, HB.out.trans (hb.mono HB.out.size)⟩
set_option maxRecDepth 8000 in
theorem rclose_none (h : RH w A H ow R) (v : Vl) (hl : H.os.length ≤ 100000) (hat : H.at v = none) :
    Calls Tryz.prog 42 #[pv A, v.v] w fun e w' => e = .returned (.bool false) ∧ Below w.heap.size w w' := by
  have hb0 := below_new w (.cells v.cs.toArray 29)
  have HB := Lib.hid hb0
  have HT := Lib.hid (rat_any (h.low hb0) v hl)
  rw [hat] at HT
  clear h hb0 hat
  obtain ⟨vk, vn, vs⟩ := v
  simp only [Vl.v, Vl.cs, atI] at HB HT ⊢
  go_enter Tryz.func42, Tryz.ntmps42
  go_wp2_with fail
  refine HT.out.mono ?_
  rintro e w1 ⟨rfl, hb⟩
  go_wp2_with fail
  go_ret
  exact ⟨rfl, HB.out.trans (hb.mono HB.out.size)⟩
set_option maxRecDepth 8000 in
theorem rprop_none (h : RH w A H ow R) (v : Vl) (key : ByteArray) (hl : H.os.length ≤ 100000) (hat : H.at v = none) :
    Calls Tryz.prog 74 #[pv A, v.v, .string key] w fun e w' => e = .returned (.int .i64 (-1)) ∧ Below w.heap.size w w' := by
  have hb0 := below_new w (.cells v.cs.toArray 29)
  have HB := Lib.hid hb0
  have HT := Lib.hid (rat_any (h.low hb0) v hl)
  rw [hat] at HT
  clear h hb0 hat
  obtain ⟨vk, vn, vs⟩ := v
  simp only [Vl.v, Vl.cs, atI] at HB HT ⊢
  go_enter Tryz.func74, Tryz.ntmps74
  go_wp2_with fail
  refine HT.out.mono ?_
  rintro e w1 ⟨rfl, hb⟩
  go_wp2_with fail
  go_ret
  exact ⟨rfl, HB.out.trans (hb.mono HB.out.size)⟩
set_option maxRecDepth 8000 in
theorem rown_none (h : RH w A H ow R) (v : Vl) (key : ByteArray) (hl : H.os.length ≤ 100000) (hat : H.at v = none) :
    Calls Tryz.prog 39 #[pv A, v.v, .string key] w fun e w' => e = .returned (ownR none) ∧ Below w.heap.size w w' := by
  obtain ⟨W0, eW, hr0, hr1, hb0⟩ := two_new w 29 31 v.cs pr0.cs
  have HB := Lib.hid hb0
  have HH := Lib.hid (h.low hb0)
  have HT := Lib.hid (rislen_any (h.low hb0) v key hl)
  have HP := Lib.hid fun w' (hb : Below W0.heap.size W0 w') => rprop_none (HH.out.low hb) v key hl hat
  have HR := Lib.hid hr1
  have HF : (decide (clsR (H.obj v) = AR) && decide (key = LK)) = false := by
    rw [obj_none hat, show decide (clsR none = AR) = false from by decide]
    rfl
  rw [HF] at HT
  have HE := Lib.hid eW
  clear h hb0 hat hr0 hr1 eW HF
  obtain ⟨vk, vn, vs⟩ := v
  simp only [Vl.v, Vl.cs, Pr.cs, pr0] at HB HT HR HE HP ⊢
  go_enter Tryz.func39, Tryz.ntmps39
  go_wp2_with fail
  rw [HE.out]
  refine HT.out.mono ?_
  rintro e w1 ⟨rfl, hb⟩
  have H1 := Lib.hid (HB.out.trans (hb.mono HB.out.size))
  have HP1 := Lib.hid (HP.out _ hb)
  have HR1 := Lib.hid (HR.out.low hb)
  have hcv : w1.cell? ⟨w.heap.size, 0, none⟩ = some (.int .i64 vk) ∧ w1.cell? ⟨w.heap.size, 1, none⟩ = some (.int .i64 vn) ∧ w1.cell? ⟨w.heap.size, 2, none⟩ = some (.string vs) := by
    have hv : Blk W0 w.heap.size 29 [.int .i64 vk, .int .i64 vn, .string vs] := by
      rw [← HE.out]
      exact (Blk.new w _ _).fr (Below.heap_alloc _ _ _ (by simp))
    exact Blk.three (v := ⟨vk, vn, vs⟩) (hv.low hb)
  obtain ⟨q0, q1, q2⟩ := hcv
  clear hb HT HP HR
  go_wp2_with fail
  refine HP1.out.mono ?_
  rintro e w2 ⟨rfl, hb⟩
  have HR2 := Lib.hid (HR1.out.low hb)
  have H2 := Lib.hid (H1.out.trans (hb.mono H1.out.size))
  obtain ⟨d0, d1, d2, d3, d4, d5, d6⟩ := Blk.seven (p := pr0) HR2.out
  have z2 := HR2.out.fz
  dsimp only [pr0] at d0 d1 d2 d3 d4 d5 d6
  clear hb HP1 HR1 q0 q1 q2
  go_wp2_with fail
  refine bodyPost_ret (res_pt rfl _ _ (w.heap.size + 1) pr0 _ (by rfl) (by rfl) ?_) rfl ⟨rfl, ?_⟩
  · exact ((((((HR2.out.set 0 _).set 1 _).set 2 _).set 3 _).set 4 _).set 5 _).set 6 _
  · exact (((((((H2.out.setCell (p := ⟨w.heap.size + 1, 0, none⟩) (Nat.le_succ _) _).setCell (p := ⟨w.heap.size + 1, 1, none⟩) (Nat.le_succ _) _).setCell (p := ⟨w.heap.size + 1, 2, none⟩) (Nat.le_succ _) _).setCell (p := ⟨w.heap.size + 1, 3, none⟩) (Nat.le_succ _) _).setCell (p := ⟨w.heap.size + 1, 4, none⟩) (Nat.le_succ _) _).setCell (p := ⟨w.heap.size + 1, 5, none⟩) (Nat.le_succ _) _).setCell (p := ⟨w.heap.size + 1, 6, none⟩) (Nat.le_succ _) _)
end
end Go.Proofs.YtcahijpbkjplmaaGreatDoor.G
namespace Go.Proofs.YtcahijpbkjplmaaGreatDoor.G
open Go.RowKit Go.Shelf Go.Maps Go.Lib Go.Proofs.YtcahijpbkjplmaaGreatDoor

section
variable {w w' : World} {ow : Nat → Option Nat} {A : Nat} {H : Hs} {R : List Value}
theorem blk_two (w : World) (T T' : TypeId) (xs ys : List Value) : Blk ((w.alloc (.cells xs.toArray T)).alloc (.cells ys.toArray T')) w.heap.size T xs ∧ Blk ((w.alloc (.cells xs.toArray T)).alloc (.cells ys.toArray T')) (w.heap.size + 1) T' ys := by
  obtain ⟨W0, e, h1, h2, -⟩ := two_new w T T' xs ys
  rw [← e] at h1 h2
  exact ⟨h1, h2⟩
set_option maxRecDepth 8000 in
theorem rmake_none (h : RH w A H ow R) (cls : ByteArray) (v : Vl) (hm : H.most ≤ H.n) :
    Calls Tryz.prog 32 #[pv A, .string cls, v.v] w fun e w' => e = .returned (makeR none) ∧ Below w.heap.size w w' := by
  have hb0 := two_low (w := w) 29 29 v.cs (Vl.cs vundef)
  have HB := Lib.hid hb0
  have HT := Lib.hid (rtake_none (h.low hb0) hm)
  have HR := Lib.hid (blk_two w 29 29 v.cs (Vl.cs vundef)).2
  clear h hb0 hm
  obtain ⟨vk, vn, vs⟩ := v
  simp only [Vl.v, Vl.cs, vundef, nil] at HB HT HR ⊢
  go_enter Tryz.func32, Tryz.ntmps32
  go_wp2_with fail
  refine HT.out.mono ?_
  rintro e w1 ⟨rfl, hb⟩
  have HR1 := Lib.hid (HR.out.low hb)
  have H1 := Lib.hid (HB.out.trans (hb.mono HB.out.size))
  obtain ⟨d0, d1, d2⟩ := Blk.three (v := ⟨0, 0, ⟨#[]⟩⟩) HR1.out
  have z := HR1.out.fz
  dsimp only at d0 d1 d2
  clear hb HT HR HB
  go_wp2_with fail
  refine bodyPost_ret (res_vt rfl _ _ (w.heap.size + 1) ⟨0, 0, ⟨#[]⟩⟩ _ (by rfl) (by rfl) ?_) rfl ⟨rfl, ?_⟩
  · exact ((HR1.out.set 0 _).set 1 _).set 2 _
  · exact ((H1.out.setCell (p := ⟨w.heap.size + 1, 0, none⟩) (Nat.le_succ _) _).setCell (p := ⟨w.heap.size + 1, 1, none⟩) (Nat.le_succ _) _).setCell (p := ⟨w.heap.size + 1, 2, none⟩) (Nat.le_succ _) _
set_option maxRecDepth 8000 in
theorem rput_none (h : RH w A H ow R) (v : Vl) (key : ByteArray) (x : Vl) (hl : H.os.length ≤ 100000) (hat : H.at v = none) :
    Calls Tryz.prog 34 #[pv A, v.v, .string key, x.v] w fun e w' => e = .returned (.int .i64 110) ∧ Below w.heap.size w w' := by
  have hb0 := two_low (w := w) 29 29 v.cs x.cs
  have HB := Lib.hid hb0
  have HT := Lib.hid (rat_any (h.low hb0) v hl)
  rw [hat] at HT
  clear h hb0 hat
  obtain ⟨vk, vn, vs⟩ := v
  obtain ⟨xk, xn, xs⟩ := x
  simp only [Vl.v, Vl.cs, atI] at HB HT ⊢
  go_enter Tryz.func34, Tryz.ntmps34
  go_wp2_with fail
  refine HT.out.mono ?_
  rintro e w1 ⟨rfl, hb⟩
  go_wp2_with fail
  go_ret
  exact ⟨rfl, HB.out.trans (hb.mono HB.out.size)⟩
set_option maxRecDepth 8000 in
theorem rdefine_none (h : RH w A H ow R) (v : Vl) (p : Pr) (hl : H.os.length ≤ 100000) (hat : H.at v = none) :
    Calls Tryz.prog 35 #[pv A, v.v, p.v'] w fun e w' => e = .returned (.int .i64 110) ∧ Below w.heap.size w w' := by
  have hb0 := two_low (w := w) 29 31 v.cs p.cs
  have HB := Lib.hid hb0
  have HT := Lib.hid (rat_any (h.low hb0) v hl)
  rw [hat] at HT
  clear h hb0 hat
  obtain ⟨vk, vn, vs⟩ := v
  obtain ⟨pk, ⟨pvk, pvn, pvs⟩, pw, pe, pf⟩ := p
  simp only [Vl.v, Vl.cs, atI, Pr.v', Pr.cs] at HB HT ⊢
  go_enter Tryz.func35, Tryz.ntmps35
  go_wp2_with fail
  refine HT.out.mono ?_
  rintro e w1 ⟨rfl, hb⟩
  go_wp2_with fail
  go_ret
  exact ⟨rfl, HB.out.trans (hb.mono HB.out.size)⟩
set_option maxRecDepth 8000 in
theorem rdelete_none (h : RH w A H ow R) (v : Vl) (key : ByteArray) (hl : H.os.length ≤ 100000) (hat : H.at v = none) :
    Calls Tryz.prog 37 #[pv A, v.v, .string key] w fun e w' => e = .returned (.int .i64 110) ∧ Below w.heap.size w w' := by
  have hb0 := below_new w (.cells v.cs.toArray 29)
  have HB := Lib.hid hb0
  have HT := Lib.hid (rat_any (h.low hb0) v hl)
  rw [hat] at HT
  clear h hb0 hat
  obtain ⟨vk, vn, vs⟩ := v
  simp only [Vl.v, Vl.cs, atI] at HB HT ⊢
  go_enter Tryz.func37, Tryz.ntmps37
  go_wp2_with fail
  refine HT.out.mono ?_
  rintro e w1 ⟨rfl, hb⟩
  go_wp2_with fail
  go_ret
  exact ⟨rfl, HB.out.trans (hb.mono HB.out.size)⟩
set_option maxRecDepth 8000 in
theorem rkeys_none (h : RH w A H ow R) (v : Vl) (hl : H.os.length ≤ 100000) (hat : H.at v = none) :
    Calls Tryz.prog 15 #[pv A, v.v] w fun e w' => e = .returned (.slice none 0 0) ∧ Below w.heap.size w w' := by
  have hb0 := below_new w (.cells v.cs.toArray 29)
  have HB := Lib.hid hb0
  have HT := Lib.hid (rat_any (h.low hb0) v hl)
  rw [hat] at HT
  clear h hb0 hat
  obtain ⟨vk, vn, vs⟩ := v
  simp only [Vl.v, Vl.cs, atI] at HB HT ⊢
  go_enter Tryz.func15, Tryz.ntmps15
  go_wp2_with fail
  refine HT.out.mono ?_
  rintro e w1 ⟨rfl, hb⟩
  go_wp2_with fail
  go_ret
  exact ⟨rfl, HB.out.trans (hb.mono HB.out.size)⟩
set_option maxRecDepth 8000 in
theorem renum_none (h : RH w A H ow R) (v : Vl) (hl : H.os.length ≤ 100000) (hat : H.at v = none) :
    Calls Tryz.prog 41 #[pv A, v.v] w fun e w' => e = .returned (.slice none 0 0) ∧ Below w.heap.size w w' := by
  have hb0 := below_new w (.cells v.cs.toArray 29)
  have HB := Lib.hid hb0
  have HT := Lib.hid (rat_any (h.low hb0) v hl)
  have HV := Blk.three (Blk.new w 29 v.cs)
  rw [hat] at HT
  clear h hb0 hat
  obtain ⟨vk, vn, vs⟩ := v
  simp only [Vl.v, Vl.cs, atI] at HB HT HV ⊢
  obtain ⟨c0, c1, c2⟩ := HV
  go_enter Tryz.func41, Tryz.ntmps41
  go_wp2_with fail
  generalize w.alloc (.cells #[.int .i64 vk, .int .i64 vn, .string vs] 29) = w0 at *
  go_loopg [5, 6] 1 (fun q x y wr => x = .slice none 0 0 ∧ y = .slice none 0 0 ∧ wr = w0)
  case atStart => exact ⟨rfl, rfl, rfl⟩
  case round =>
    obtain ⟨rfl, rfl, rfl⟩ := hrel
    go_wp2_with fail
    refine HT.out.mono ?_
    rintro e w1 ⟨rfl, hb⟩
    go_wp2_with fail
    go_ret
    exact ⟨rfl, HB.out.trans (hb.mono HB.out.size)⟩
set_option maxRecDepth 8000 in
theorem rfind_none (h : RH w A H ow R) (v : Vl) (key : ByteArray) (hl : H.os.length ≤ 100000) (hat : H.at v = none) :
    Calls Tryz.prog 75 #[pv A, v.v, .string key] w fun e w' => e = .returned (ownR none) ∧ Below w.heap.size w w' := by
  have hb0 := two_low (w := w) 29 31 v.cs pr0.cs
  have HB := Lib.hid hb0
  have HT := Lib.hid (rat_any (h.low hb0) v hl)
  obtain ⟨hr0, hr1⟩ := blk_two w 29 31 v.cs pr0.cs
  have HV := Blk.three hr0
  have HR := Lib.hid hr1
  rw [hat] at HT
  clear h hb0 hat hr0 hr1
  obtain ⟨vk, vn, vs⟩ := v
  simp only [Vl.v, Vl.cs, atI, Pr.cs, pr0] at HB HT HV HR ⊢
  obtain ⟨c0, c1, c2⟩ := HV
  go_enter Tryz.func75, Tryz.ntmps75
  go_wp2_with fail
  generalize HW : ((w.alloc (.cells #[.int .i64 vk, .int .i64 vn, .string vs] 29)).alloc _) = w0 at *
  have HW := Lib.hid HW
  go_loopg [9] 1 (fun q x wr => wr = w0)
  case atStart => rfl
  case round =>
    obtain rfl := hrel
    go_wp2_with fail
    refine HT.out.mono ?_
    rintro e w1 ⟨rfl, hb⟩
    have HR2 := Lib.hid (HR.out.low hb)
    have H2 := Lib.hid (HB.out.trans (hb.mono HB.out.size))
    obtain ⟨d0, d1, d2, d3, d4, d5, d6⟩ := Blk.seven (p := pr0) HR2.out
    have z2 := HR2.out.fz
    dsimp only [pr0] at d0 d1 d2 d3 d4 d5 d6
    clear hb HT HR c0 c1 c2
    go_wp2_with fail
    refine bodyPost_ret (res_pt rfl _ _ (w.heap.size + 1) pr0 _ (by rfl) (by rfl) ?_) rfl ⟨rfl, ?_⟩
    · exact ((((((HR2.out.set 0 _).set 1 _).set 2 _).set 3 _).set 4 _).set 5 _).set 6 _
    · exact (((((((H2.out.setCell (p := ⟨w.heap.size + 1, 0, none⟩) (Nat.le_succ _) _).setCell (p := ⟨w.heap.size + 1, 1, none⟩) (Nat.le_succ _) _).setCell (p := ⟨w.heap.size + 1, 2, none⟩) (Nat.le_succ _) _).setCell (p := ⟨w.heap.size + 1, 3, none⟩) (Nat.le_succ _) _).setCell (p := ⟨w.heap.size + 1, 4, none⟩) (Nat.le_succ _) _).setCell (p := ⟨w.heap.size + 1, 5, none⟩) (Nat.le_succ _) _).setCell (p := ⟨w.heap.size + 1, 6, none⟩) (Nat.le_succ _) _)
set_option maxRecDepth 8000 in
theorem rget_none (h : RH w A H ow R) (v : Vl) (key : ByteArray) (hl : H.os.length ≤ 100000) (hat : H.at v = none) :
    Calls Tryz.prog 38 #[pv A, v.v, .string key] w fun e w' => e = .returned (getR none) ∧ Below w.heap.size w w' := by
  have hb0 := two_low (w := w) 29 29 v.cs vl0.cs
  have HB := Lib.hid hb0
  have HT := Lib.hid (rfind_none (h.low hb0) v key hl hat)
  have HR := Lib.hid (blk_two w 29 29 v.cs vl0.cs).2
  clear h hb0 hat
  obtain ⟨vk, vn, vs⟩ := v
  simp only [Vl.v, Vl.cs, vl0, ownR, Pr.v', pr0] at HB HT HR ⊢
  go_enter Tryz.func38, Tryz.ntmps38
  go_wp2_with fail
  refine HT.out.mono ?_
  rintro e w1 ⟨rfl, hb⟩
  have HR1 := Lib.hid (HR.out.low hb)
  have H1 := Lib.hid (HB.out.trans (hb.mono HB.out.size))
  have hb2 := below_new w1 (.cells #[.string ⟨#[]⟩, .int .i64 0, .int .i64 0, .string ⟨#[]⟩, .bool false, .bool false, .bool false] 31)
  have HR2 := Lib.hid (HR1.out.low hb2)
  have H2 := Lib.hid (H1.out.trans (hb2.mono H1.out.size))
  obtain ⟨d0, d1, d2⟩ := Blk.three (v := vl0) HR2.out
  have z := HR2.out.fz
  dsimp only [vl0] at d0 d1 d2
  clear hb hb2 HT HR HB HR1 H1
  go_wp2_with fail
  refine bodyPost_ret (res_vt rfl _ _ (w.heap.size + 1) ⟨0, 0, ⟨#[]⟩⟩ _ (by rfl) (by rfl) ?_) rfl ⟨rfl, ?_⟩
  · exact ((HR2.out.set 0 _).set 1 _).set 2 _
  · exact ((H2.out.setCell (p := ⟨w.heap.size + 1, 0, none⟩) (Nat.le_succ _) _).setCell (p := ⟨w.heap.size + 1, 1, none⟩) (Nat.le_succ _) _).setCell (p := ⟨w.heap.size + 1, 2, none⟩) (Nat.le_succ _) _
end
end Go.Proofs.YtcahijpbkjplmaaGreatDoor.G
namespace Go.Proofs.YtcahijpbkjplmaaGreatDoor.G
open Go.RowKit Go.Shelf Go.Maps Go.Lib Go.Proofs.YtcahijpbkjplmaaGreatDoor

section
variable {w w' : World} {ow : Nat → Option Nat} {A : Nat} {H : Hs} {R : List Value}
set_option maxRecDepth 8000 in
theorem rarray_none (h : RH w A H ow R) (v : Vl) (a : Option Addr) (n c : Nat) (hno : 1000 < n ∨ H.most < H.n + (n + 1)) (_hmx : H.most ≤ 100000) (hn : H.n ≤ H.most) :
    Calls Tryz.prog 33 #[pv A, v.v, .slice a n c] w fun e w' => e = .returned (makeR none) ∧ Below w.heap.size w w' := by
  have hb0 := two_low (w := w) 29 29 v.cs (Vl.cs vundef)
  have HB := Lib.hid hb0
  obtain ⟨ov, hov, -, -⟩ := (h.low hb0).hb
  have HR := Lib.hid (blk_two w 29 29 v.cs (Vl.cs vundef)).2
  have HOV := Lib.hid hov
  clear h hb0 hov
  obtain ⟨vk, vn, vs⟩ := v
  simp only [Vl.v, Vl.cs, vundef, nil] at HB HR HOV ⊢
  by_cases h1 : 1000 < n
  · have h1' : (1000 : Int) < (n : Int) := by omega
    clear hno h1
    go_enter Tryz.func33, Tryz.ntmps33
    go_wp2_with fail
    go_quiet (fail)
    go_wp2_with fail
    refine bodyPost_ret (res_vt rfl _ _ (w.heap.size + 1) ⟨0, 0, ⟨#[]⟩⟩ _ (by rfl) (by rfl) ?_) rfl ⟨rfl, ?_⟩
    · exact (((HR.out.fr (w' := World.drewN _ _) rfl).set 0 _).set 1 _).set 2 _
    · exact (((HB.out.trans (below_drewN _ _ _)).setCell (p := ⟨w.heap.size + 1, 0, none⟩) (Nat.le_succ _) _).setCell (p := ⟨w.heap.size + 1, 1, none⟩) (Nat.le_succ _) _).setCell (p := ⟨w.heap.size + 1, 2, none⟩) (Nat.le_succ _) _
  · have h1' : ¬ (1000 : Int) < (n : Int) := by omega
    have h2 : H.most < H.n + (n + 1) := by omega
    have h3 : (H.most : Int) - (H.n : Int) < (n : Int) + 1 := by omega
    have hw1 : IntKind.i64.wrap ((H.most : Int) - (H.n : Int)) = (H.most : Int) - (H.n : Int) := IntWalk.i64_in _ (by omega)
    have hw2 : IntKind.i64.wrap ((n : Int) + 1) = (n : Int) + 1 := IntWalk.i64_in _ (by omega)
    have c1 := HOV.out.cell (k := 1) rfl
    have c2 := HOV.out.cell (k := 2) rfl
    clear hno h1 h2
    go_enter Tryz.func33, Tryz.ntmps33
    go_wp2_with fail
    go_quiet (fail)
    go_wp2_with fail
    refine bodyPost_ret (res_vt rfl _ _ (w.heap.size + 1) ⟨0, 0, ⟨#[]⟩⟩ _ (by rfl) (by rfl) ?_) rfl ⟨rfl, ?_⟩
    · exact (((HR.out.fr (w' := World.drewN _ _) rfl).set 0 _).set 1 _).set 2 _
    · exact (((HB.out.trans (below_drewN _ _ _)).setCell (p := ⟨w.heap.size + 1, 0, none⟩) (Nat.le_succ _) _).setCell (p := ⟨w.heap.size + 1, 1, none⟩) (Nat.le_succ _) _).setCell (p := ⟨w.heap.size + 1, 2, none⟩) (Nat.le_succ _) _
end
end Go.Proofs.YtcahijpbkjplmaaGreatDoor.G
namespace Go.Proofs.YtcahijpbkjplmaaGreatDoor.G
open Go.RowKit Go.Shelf Go.Maps Go.Lib Go.Proofs.YtcahijpbkjplmaaGreatDoor

theorem val_eql (a b : Vl) (w : World) : (binOp .eql 29 a.v b.v).run Tryz.prog w = .ok (.bool (decide (a = b))) w := by
  by_cases h : a = b
  · subst h
    rw [decide_eq_true rfl]
    obtain ⟨ak, an, sa⟩ := a
    simp only [Vl.v]
    go_simp
  · rw [decide_eq_false h]
    obtain ⟨ak, an, sa⟩ := a
    obtain ⟨bk, bn, sb⟩ := b
    have e : ¬ (ak = bk ∧ an = bn ∧ sa.toList = sb.toList) := fun ⟨h1, h2, h3⟩ => h (by rw [h1, h2, toList_inj h3])
    simp only [Vl.v]
    go_simp
    exact fun h1 h2 h3 => e ⟨h1, h2, h3⟩
theorem prop_eql (a b : Pr) (w : World) : (binOp .eql 31 a.v' b.v').run Tryz.prog w = .ok (.bool (decide (a = b))) w := by
  by_cases h : a = b
  · subst h
    rw [decide_eq_true rfl]
    obtain ⟨ak, ⟨avk, avn, avs⟩, aw, ae, af⟩ := a
    simp only [Pr.v']
    go_simp
  · rw [decide_eq_false h]
    obtain ⟨ak, ⟨avk, avn, avs⟩, aw, ae, af⟩ := a
    obtain ⟨bk, ⟨bvk, bvn, bvs⟩, bw, be, bf⟩ := b
    have e : ¬ (ak.toList = bk.toList ∧ avk = bvk ∧ avn = bvn ∧ avs.toList = bvs.toList ∧ aw = bw ∧ ae = be ∧ af = bf) := fun ⟨h1, h2, h3, h4, h5, h6, h7⟩ => h (by rw [toList_inj h1, h2, h3, toList_inj h4, h5, h6, h7])
    simp only [Pr.v']
    go_simp
    exact fun h1 h2 h3 h4 h5 h6 h7 => e ⟨h1, h2, h3, h4, h5, h6, h7⟩
/-- a row of texts that may be read -/
def Nm (w : World) (r : Value) (ks : List ByteArray) : Prop := ∃ A c, r = .slice A ks.length c ∧ (ks = [] ∨ ∃ g, A = some ⟨g, 0, none⟩ ∧ g < w.heap.size ∧ ∀ j s, ks[j]? = some s → w.cell? ⟨g, j, none⟩ = some (.string s))
theorem Nm.nil (w : World) : Nm w (.slice none 0 0) [] := ⟨none, 0, rfl, .inl rfl⟩
theorem Nm.low {w w' : World} {r : Value} {ks : List ByteArray} (h : Nm w r ks) (hb : Below w.heap.size w w') : Nm w' r ks := by
  obtain ⟨A, c, h1, h2⟩ := h
  refine ⟨A, c, h1, h2.imp id ?_⟩
  rintro ⟨g, h3, h4, h5⟩
  exact ⟨g, h3, Nat.lt_of_lt_of_le h4 hb.size, fun j s e => (World.cell?_of_block (w := w) (a := ⟨g, j, none⟩) (hb.block g h4)).trans (h5 j s e)⟩
theorem Txs.nm {w : World} {b : Nat} {r : Value} {ks : List ByteArray} (h : Txs w b r ks) : Nm w r ks := by
  obtain ⟨A, c, e⟩ := row_len h
  refine ⟨A, c, e, ?_⟩
  rcases Nat.eq_zero_or_pos ks.length with h0 | h0
  · exact .inl (List.length_eq_zero_iff.1 h0)
  · obtain ⟨g, cap, e2, -⟩ := row_form h h0
    right
    have e3 := e.symm.trans e2
    injection e3 with e4
    refine ⟨g, e4, (World.ownsRow.lt h g (by rw [e2]; rfl)).2, fun j s hj => ?_⟩
    have := World.ownsRow.cells h (g := g) (by rw [e2]; rfl) j (.string s) (by rw [List.getElem?_map, hj]; rfl)
    rw [add_lit, Nat.zero_add] at this
    exact this
def AnsB (w : World) (b : Bool) (e : Ending) (w' : World) : Prop := e = .returned (.bool b) ∧ Below w.heap.size w w'
theorem eq_of_all {L M : List ByteArray} (hl : L.length = M.length) (h : ∀ j (h1 : j < L.length) (h2 : j < M.length), L[j] = M[j]) : L = M := List.ext_getElem hl h
set_option maxRecDepth 8000 in
set_option maxHeartbeats 1000000 in
theorem names_any (L M : List ByteArray) (r s : Value) (w : World) (hA : Nm w r L) (hB : Nm w s M) (hl : L.length ≤ 100000000000) (hl2 : M.length ≤ 100000000000) :
    Calls Tryz.prog 30 #[r, s] w (AnsB w (decide (L = M))) := by
  obtain ⟨A, c, rfl, hA⟩ := hA
  obtain ⟨B, d, rfl, hB⟩ := hB
  have HA := Lib.hid hA
  have HB := Lib.hid hB
  have hli : (L.length : Int) ≤ 100000000000 := by omega
  clear hA hB
  by_cases hlm : L.length = M.length
  · have HLM := Lib.hid hlm
    rw [← hlm]
    clear hlm
    go_enter Tryz.func30, Tryz.ntmps30
    go_wp2_with fail
    go_loopw [13] (fun i wr => ∃ k : Nat, k ≤ L.length ∧ i = .int .i64 k ∧ Hid (Below w.heap.size w wr) ∧ Hid (∀ j (h : j < k) (h1 : j < L.length) (h2 : j < M.length), L[j] = M[j])) (fun i _ => L.length - (intOf i).toNat)
    case atStart => exact ⟨0, Nat.zero_le _, rfl, Lib.hid (Below.refl _ _), Lib.hid fun j h => absurd h (Nat.not_lt_zero _)⟩
    case round =>
      obtain ⟨k, hk, rfl, hb, hno⟩ := hrel
      by_cases hlt : k < L.length
      · have hlt2 : k < M.length := by have := HLM.out; omega
        obtain ⟨g, rfl, hg, c1⟩ : ∃ g, A = some ⟨g, 0, none⟩ ∧ g < w.heap.size ∧ wr.cell? ⟨g, k, none⟩ = some (.string L[k]) := by
          rcases HA.out with e | ⟨g, e1, e2, e3⟩
          · subst e
            exact absurd hlt (Nat.not_lt_zero _)
          · exact ⟨g, e1, e2, (World.cell?_of_block (w := w) (a := ⟨g, k, none⟩) (hb.out.block g e2)).trans (e3 k _ (List.getElem?_eq_getElem hlt))⟩
        obtain ⟨g2, rfl, hg2, c2⟩ : ∃ g, B = some ⟨g, 0, none⟩ ∧ g < w.heap.size ∧ wr.cell? ⟨g, k, none⟩ = some (.string M[k]) := by
          rcases HB.out with e | ⟨g, e1, e2, e3⟩
          · subst e
            exact absurd hlt2 (Nat.not_lt_zero _)
          · exact ⟨g, e1, e2, (World.cell?_of_block (w := w) (a := ⟨g, k, none⟩) (hb.out.block g e2)).trans (e3 k _ (List.getElem?_eq_getElem hlt2))⟩
        have HY : Hid (¬ L[k] = M[k] → ¬ L = M) := fun e e2 => e (by subst e2; rfl)
        have HN : Hid (L[k] = M[k] → ∀ j (h : j < k + 1) (h1 : j < L.length) (h2 : j < M.length), L[j] = M[j]) := fun e j hj h1 h2 => by
          by_cases hjk : j = k
          · subst hjk; exact e
          · exact hno.out j (by omega) h1 h2
        clear hg hg2
        by_cases he : L[k] = M[k]
        · have HNE := Lib.hid (HN.out he)
          rw [← he] at c2
          clear HY HN he
          generalize L[k] = s at *
          go_wp2_with fail
          go_region_held3 (fun w' => w'.cell? ⟨g, k, none⟩ = some (.string s) ∧ w'.cell? ⟨g2, k, none⟩ = some (.string s)) (first | go_keep) ((fail))
          go_wp2_with fail
          go_roundw
          case rel => exact ⟨k + 1, hlt, by go_num, Lib.hid (hb.out.drew), HNE⟩
          case measure => simp [intOf]; omega
        · have HNE := Lib.hid (HY.out he)
          clear HY HN
          generalize L[k] = s at *
          generalize M[k] = t at *
          have hst := (toList_eq_is s t).trans (decide_eq_false he)
          clear he
          go_wp2_with fail
          go_region_held3 (fun w' => w'.cell? ⟨g, k, none⟩ = some (.string s) ∧ w'.cell? ⟨g2, k, none⟩ = some (.string t)) (first | go_keep) ((fail))
          go_wp2_with fail
          go_ret
          exact ⟨by rw [decide_eq_false HNE.out]; rfl, hb.out.drew⟩
      · obtain rfl : k = L.length := by omega
        have HNE := Lib.hid (eq_of_all HLM.out fun j h1 h2 => hno.out j h1 h1 h2)
        go_wp2_with fail
        go_ret
        exact ⟨by rw [decide_eq_true HNE.out]; rfl, hb.out⟩
  · have hd : decide (L = M) = false := decide_eq_false fun e => hlm (by rw [e])
    rw [hd]
    have h1 : ¬ (L.length : Int) = (M.length : Int) := by omega
    clear hlm
    go_enter Tryz.func30, Tryz.ntmps30
    go_wp2_with fail
    go_ret
    exact ⟨rfl, Below.refl _ _⟩
end Go.Proofs.YtcahijpbkjplmaaGreatDoor.G
namespace Go.Proofs.YtcahijpbkjplmaaGreatDoor.G
open Go.RowKit Go.Shelf Go.Maps Go.Lib Go.Proofs.YtcahijpbkjplmaaGreatDoor

abbrev opC (o : Op) (sl : Value) : List Value := [.int .i64 o.d, .int .i64 o.v.k, .int .i64 o.v.n, .string o.v.s, .int .i64 o.x.k, .int .i64 o.x.n, .string o.x.s, .string o.key, .string o.p.key, .int .i64 o.p.v.k, .int .i64 o.p.v.n, .string o.p.v.s, .bool o.p.w, .bool o.p.e, .bool o.p.f, sl]
abbrev opV (o : Op) (sl : Value) : Value := .agg #[.int .i64 o.d, .int .i64 o.v.k, .int .i64 o.v.n, .string o.v.s, .int .i64 o.x.k, .int .i64 o.x.n, .string o.x.s, .string o.key, .string o.p.key, .int .i64 o.p.v.k, .int .i64 o.p.v.n, .string o.p.v.s, .bool o.p.w, .bool o.p.e, .bool o.p.f, sl]
/-- a reference that does nothing, away from a heap -/
def Dr (w : World) (X : Nat) (ow : Nat → Option Nat) : Prop := ∃ owx R, RH w X (Hs.new 0) owx R ∧ ∀ k, owx k ≠ none → ow k = none
section
variable {w w1 w2 : World} {ow ow1 ow2 : Nat → Option Nat} {A X B : Nat} {H H1 H2 : Hs} {L L1 L2 : List OL} {o : Op} {sl : Value} {bk : Nat}
theorem Dr.low (h : Dr w X ow) (hb : Below w.heap.size w w1) : Dr w1 X ow := by
  obtain ⟨owx, R, h1, h2⟩ := h
  exact ⟨owx, R, h1.low hb, h2⟩
theorem Dr.next (h : Dr w X ow) (k : Hch w A ow L H1 w1 ow1 L1) : Dr w1 X ow1 := by
  obtain ⟨owx, R, h1, h2⟩ := h
  exact ⟨owx, R, h1.fr (fun b hb => k.kept (h1.lt b hb) (h2 b hb)) k.fr.size, fun b hb => k.out (h1.lt b hb) (h2 b hb)⟩
theorem new0_at (v : Vl) : (Hs.new 0).at v = none := at_none (by
  rintro ⟨-, -, h1, h2⟩
  simp only [Hs.new, List.length_nil] at h2
  omega)
/-- what do keeps: from world w on; block B holds the op, block bk its row of values -/
structure DoS (w : World) (A X B bk : Nat) (ow : Nat → Option Nat) (L : List OL) (o : Op) (sl : Value) (H1 : Hs) (w1 : World) (ow1 : Nat → Option Nat) (L1 : List OL) : Prop where
  ch : Hch w A ow L H1 w1 ow1 L1
  dr : Dr w1 X ow1
  op : Blk w1 B 34 (opC o sl)
  wb : ow1 B = none
  vl : Vls w1 sl o.l bk
  wk : bk < w1.heap.size ∧ ow1 bk = none
  tb : Tab w1
  wt : ow1 0 = none
theorem DoS.low (h : DoS w A X B bk ow L o sl H1 w1 ow1 L1) (hb : Below w1.heap.size w1 w2) : DoS w A X B bk ow L o sl H1 w2 ow1 L1 :=
  ⟨h.ch.trans (Hch.below h.ch.ph hb), h.dr.low hb, h.op.low hb, h.wb, h.vl.fr (hb.block _ h.wk.1), ⟨Nat.lt_of_lt_of_le h.wk.1 hb.size, h.wk.2⟩, h.tb.below hb, h.wt⟩
theorem DoS.next (h : DoS w A X B bk ow L o sl H1 w1 ow1 L1) (k : Hch w1 A ow1 L1 H2 w2 ow2 L2) : DoS w A X B bk ow L o sl H2 w2 ow2 L2 :=
  ⟨h.ch.trans k, h.dr.next k, h.op.fr (k.kept h.op.lt h.wb), k.out h.op.lt h.wb, h.vl.fr (k.kept h.wk.1 h.wk.2), ⟨Nat.lt_of_lt_of_le h.wk.1 k.fr.size, k.out h.wk.1 h.wk.2⟩, h.tb.same (k.kept h.tb.lt h.wt), k.out h.tb.lt h.wt⟩
theorem DoS.new (h : PH w A H ow L) (hd : Dr w X ow) (hv : Vls w sl o.l bk) (hk : bk < w.heap.size ∧ ow bk = none) (hT : Tab w) (hTo : ow 0 = none) :
    DoS w A X w.heap.size bk ow L o sl H (w.alloc (.cells (opC o sl).toArray 34)) ow L := by
  have hb := below_new w (.cells (opC o sl).toArray 34)
  refine ⟨Hch.below h hb, hd.low hb, Blk.new w _ _, ?_, hv.fr (hb.block _ hk.1), ⟨Nat.lt_of_lt_of_le hk.1 hb.size, hk.2⟩, hT.below hb, hTo⟩
  cases e : ow w.heap.size with
  | none => rfl
  | some r => exact absurd (h.lt _ (by rw [e]; simp)) (Nat.lt_irrefl _)
/-- what is answered -/
def DoR (w : World) (A : Nat) (ow : Nat → Option Nat) (L : List OL) (H' : Hs) (e : Ending) (w' : World) : Prop := ∃ b, e = .returned (.bool b) ∧ ∃ ow' L', Hch w A ow L H' w' ow' L'
theorem op_cells (h : Blk w B 34 (opC o sl)) : (w.cell? ⟨B, 1, none⟩ = some (.int .i64 o.v.k) ∧ w.cell? ⟨B, 2, none⟩ = some (.int .i64 o.v.n) ∧ w.cell? ⟨B, 3, none⟩ = some (.string o.v.s)) ∧ (w.cell? ⟨B, 4, none⟩ = some (.int .i64 o.x.k) ∧ w.cell? ⟨B, 5, none⟩ = some (.int .i64 o.x.n) ∧ w.cell? ⟨B, 6, none⟩ = some (.string o.x.s)) ∧ w.cell? ⟨B, 7, none⟩ = some (.string o.key) ∧
    (w.cell? ⟨B, 8, none⟩ = some (.string o.p.key) ∧ w.cell? ⟨B, 9, none⟩ = some (.int .i64 o.p.v.k) ∧ w.cell? ⟨B, 10, none⟩ = some (.int .i64 o.p.v.n) ∧ w.cell? ⟨B, 11, none⟩ = some (.string o.p.v.s) ∧ w.cell? ⟨B, 12, none⟩ = some (.bool o.p.w) ∧ w.cell? ⟨B, 13, none⟩ = some (.bool o.p.e) ∧ w.cell? ⟨B, 14, none⟩ = some (.bool o.p.f)) ∧ w.cell? ⟨B, 15, none⟩ = some sl :=
  ⟨⟨h.cell rfl, h.cell rfl, h.cell rfl⟩, ⟨h.cell rfl, h.cell rfl, h.cell rfl⟩, h.cell rfl, ⟨h.cell rfl, h.cell rfl, h.cell rfl, h.cell rfl, h.cell rfl, h.cell rfl, h.cell rfl⟩, h.cell rfl⟩
theorem makeR_is (q : Option Nat) : ∃ (v : Vl) (b : Bool), makeR q = .tuple #[v.v, .bool b] := by
  cases q with
  | none => exact ⟨_, _, rfl⟩
  | some i => exact ⟨_, _, rfl⟩
theorem getR_is (q : Option Pr) : ∃ (v : Vl) (b : Bool), getR q = .tuple #[v.v, .bool b] := by
  cases q with
  | none => exact ⟨_, _, rfl⟩
  | some i => exact ⟨_, _, rfl⟩
end
end Go.Proofs.YtcahijpbkjplmaaGreatDoor.G
