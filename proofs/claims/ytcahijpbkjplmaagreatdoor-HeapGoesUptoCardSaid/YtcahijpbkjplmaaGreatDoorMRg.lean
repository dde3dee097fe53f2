/-
 property.put, property.define, by contract; what they leave of an object.
-/
import Derived.Test.YtcahijpbkjplmaaGreatDoorMRf
import Derived.Laws.StructEq
set_option linter.unusedSimpArgs false
namespace Go.Proofs.YtcahijpbkjplmaaGreatDoor.G
open Go.RowKit Go.Shelf Go.Maps Go.Proofs.YtcahijpbkjplmaaGreatDoor
theorem toList_inj {a b : ByteArray} (h : a.toList = b.toList) : a = b := by
 rw [ByteArray.toList_eq, ByteArray.toList_eq] at h
 obtain ⟨⟨x⟩⟩ := a
 obtain ⟨⟨y⟩⟩ := b
 have h : x = y := h
 rw [h]
theorem val_neq (a b : Vl) (w : World) : (binOp .neq 29 a.v b.v).run Tryz.prog w = .ok (.bool (decide (a ≠ b))) w := by
 by_cases h : a = b
 ·subst h
  rw [decide_eq_false (fun e => e rfl)]
  obtain ⟨ak, an, sa⟩ := a
  simp only [Vl.v]
  go_simp
 ·rw [decide_eq_true h]
  obtain ⟨ak, an, sa⟩ := a
  obtain ⟨bk, bn, sb⟩ := b
  have e : ¬ (ak = bk ∧ an = bn ∧ sa.toList = sb.toList) := fun ⟨h1, h2, h3⟩ => h (by rw [h1, h2, toList_inj h3])
  simp only [Vl.v]
  go_simp
  exact fun h1 h2 h3 => e ⟨h1, h2, h3⟩
def PPost (w : World) (b : Nat) (q : Pr) (a c : Value) (er : Int) (e : Ending) (w' : World) : Prop :=
 e = .returned (.int .i64 er) ∧ Blk w' b 81 (propC q a c) ∧ Fr (fun k => k < w.heap.size ∧ k ≠ b) w w'
theorem below_fr {b : Nat} {w w' : World} (h : Below w.heap.size w w') : Fr (fun k => k < w.heap.size ∧ k ≠ b) w w' := Fr.of h fun _ hk => hk.1
set_option maxRecDepth 8000 in
theorem pput_any {w : World} {b : Nat} {p : Pr} {a c : Value} (hb : Blk w b 81 (propC p a c)) (v : Vl) (hs : v.s.size ≤ 281474976710656) :
  Calls Tryz.prog 67 #[pv b, v.v] w (PPost w b (if p.w = false then p else { p with v := v }) a c (if p.w = false then 110 else 0)) := by
 have HC := Lib.hid (fun w => copyVal_any v w hs)
 have hb0 := below_new w (.cells v.cs.toArray 29)
 have HB := Lib.hid (hb.low hb0)
 have HN := Lib.hid hb0
 have HW := Lib.hid (Blk.new w 29 v.cs)
 have HBW := Lib.hid hb
 obtain ⟨vk, vn, vs⟩ := v
 obtain ⟨pk, px, pw, pe, pf⟩ := p
 simp only [Vl.v, Vl.cs] at HC HB HN HW ⊢
 have c4 : (w.alloc (.cells #[.int .i64 vk, .int .i64 vn, .string vs] 29)).cell? ⟨b, 4, none⟩ = some (.bool pw) := HB.out.cell (k := 4) rfl
 clear hb hb0 hs
 cases pw with
 | false =>
  go_enter Tryz.func67, Tryz.ntmps67
  go_wp2_with fail
  refine bodyPost_ret (results_tmp rfl _ _ _) rfl ⟨rfl, HB.out, below_fr HN.out⟩
 | true =>
  go_enter Tryz.func67, Tryz.ntmps67
  go_wp2_with fail
  refine (HC.out _).mono ?_
  rintro e w1 ⟨rfl, hb⟩
  have HB1 := Lib.hid (HB.out.low hb)
  have HN1 := Lib.hid (HN.out.trans (hb.mono HN.out.size))
  clear hb HC c4
  have c1 : w1.cell? ⟨b, 1, none⟩ = some (.int .i64 px.k) := HB1.out.cell (k := 1) rfl
  have c2 : w1.cell? ⟨b, 2, none⟩ = some (.int .i64 px.n) := HB1.out.cell (k := 2) rfl
  have c3 : w1.cell? ⟨b, 3, none⟩ = some (.string px.s) := HB1.out.cell (k := 3) rfl
  have z := HB1.out.fz
  go_wp2_with fail
  refine bodyPost_ret (results_tmp rfl _ _ _) rfl ⟨rfl, ((HB1.out.set 1 _).set 2 _).set 3 _, ?_⟩
  exact (((below_fr HN1.out).setCell (p := ⟨b, 1, none⟩) (fun hk => hk.2 rfl) _).setCell (p := ⟨b, 2, none⟩) (fun hk => hk.2 rfl) _).setCell (p := ⟨b, 3, none⟩) (fun hk => hk.2 rfl) _
def Pr.bars (p q : Pr) : Bool := decide (q.f = false ∧ (p.f = true ∨ p.e ≠ q.e ∨ (q.w = false ∧ (p.w = true ∨ p.v ≠ q.v))))
set_option maxRecDepth 8000 in
set_option maxHeartbeats 2000000 in
theorem pdef_any {w : World} {b : Nat} {q : Pr} {a c : Value} (hb : Blk w b 81 (propC q a c)) (p : Pr) (hs : Sp p) :
  Calls Tryz.prog 56 #[pv b, p.v'] w (PPost w b (if p.bars q = true then q else p) a c (if p.bars q = true then 110 else 0)) := by
 have HC := Lib.hid (fun w => copyProp_any p w (by have := hs.1; omega) (by have := hs.2; unfold Sv at this; omega))
 have hb0 := below_new w (.cells p.cs.toArray 31)
 have HB := Lib.hid (hb.low hb0)
 have HN := Lib.hid hb0
 have HW := Lib.hid (Blk.new w 31 p.cs)
 obtain ⟨d0, d1, d2, d3, d4, d5, d6⟩ := Blk.seven HW.out
 clear d0
 have c1 : (w.alloc (.cells p.cs.toArray 31)).cell? ⟨b, 1, none⟩ = some (.int .i64 q.v.k) := HB.out.cell (k := 1) rfl
 have c2 : (w.alloc (.cells p.cs.toArray 31)).cell? ⟨b, 2, none⟩ = some (.int .i64 q.v.n) := HB.out.cell (k := 2) rfl
 have c3 : (w.alloc (.cells p.cs.toArray 31)).cell? ⟨b, 3, none⟩ = some (.string q.v.s) := HB.out.cell (k := 3) rfl
 have c4 : (w.alloc (.cells p.cs.toArray 31)).cell? ⟨b, 4, none⟩ = some (.bool q.w) := HB.out.cell (k := 4) rfl
 have c5 : (w.alloc (.cells p.cs.toArray 31)).cell? ⟨b, 5, none⟩ = some (.bool q.e) := HB.out.cell (k := 5) rfl
 have c6 : (w.alloc (.cells p.cs.toArray 31)).cell? ⟨b, 6, none⟩ = some (.bool q.f) := HB.out.cell (k := 6) rfl
 have hneq := val_neq p.v q.v
 clear hb hb0 hs
 obtain ⟨pk, ⟨pvk, pvn, pvs⟩, pw, pe, pf⟩ := p
 obtain ⟨qk, ⟨qvk, qvn, qvs⟩, qw, qe, qf⟩ := q
 unfold Pr.bars
 simp only [Pr.v', Pr.cs, Vl.v] at HC HB HN HW c1 c2 c3 c4 c5 c6 d1 d2 d3 d4 d5 d6 hneq ⊢
 clear c1 c2 c3 c4 c5 c6 d1 d2 d3 d4 d5 d6 hneq
 cases qf with
 | true =>
  rw [show (decide _ : Bool) = false from decide_eq_false (by simp)]
  simp only [if_true, if_false, Bool.false_eq_true]
  have c6q : (w.alloc (.cells #[.string pk, .int .i64 pvk, .int .i64 pvn, .string pvs, .bool pw, .bool pe, .bool pf] 31)).cell? ⟨b, 6, none⟩ = some (.bool true) := HB.out.cell (k := 6) rfl
  go_enter Tryz.func56, Tryz.ntmps56
  go_wp2_with fail
  clear c6q
  obtain ⟨d0, d1, d2, d3, d4, d5, d6⟩ := Blk.seven (p := ⟨pk, ⟨pvk, pvn, pvs⟩, pw, pe, pf⟩) HW.out
  dsimp only at d0 d1 d2 d3 d4 d5 d6
  go_wp2_with fail
  refine (HC.out _).mono ?_
  rintro e w1 ⟨rfl, hb⟩
  have HBX := Lib.hid (HB.out.low hb)
  have HNX := Lib.hid (HN.out.trans (hb.mono HN.out.size))
  clear hb HC HB HN HW d0 d1 d2 d3 d4 d5 d6
  have c0 := HBX.out.cell (k := 0) rfl
  have c1 := HBX.out.cell (k := 1) rfl
  have c2 := HBX.out.cell (k := 2) rfl
  have c3 := HBX.out.cell (k := 3) rfl
  have c4 := HBX.out.cell (k := 4) rfl
  have c5 := HBX.out.cell (k := 5) rfl
  have c6 := HBX.out.cell (k := 6) rfl
  dsimp only at c0 c1 c2 c3 c4 c5 c6
  have z := HBX.out.fz
  go_wp2_with fail
  refine bodyPost_ret (results_tmp rfl _ _ _) rfl ⟨rfl, ?_, ?_⟩
  ·have := ((((((HBX.out.set 0 (.string pk)).set 1 (.int .i64 pvk)).set 2 (.int .i64 pvn)).set 3 (.string pvs)).set 4 (.bool pw)).set 5 (.bool pe)).set 6 (.bool pf)
   exact this
  ·exact (((((((below_fr HNX.out).setCell (p := ⟨b, 0, none⟩) (fun hk => hk.2 rfl) _).setCell (p := ⟨b, 1, none⟩) (fun hk => hk.2 rfl) _).setCell (p := ⟨b, 2, none⟩) (fun hk => hk.2 rfl) _).setCell (p := ⟨b, 3, none⟩) (fun hk => hk.2 rfl) _).setCell (p := ⟨b, 4, none⟩) (fun hk => hk.2 rfl) _).setCell (p := ⟨b, 5, none⟩) (fun hk => hk.2 rfl) _).setCell (p := ⟨b, 6, none⟩) (fun hk => hk.2 rfl) _
 | false =>
  cases pf with
  | true =>
   have c6q : (w.alloc (.cells #[.string pk, .int .i64 pvk, .int .i64 pvn, .string pvs, .bool pw, .bool pe, .bool true] 31)).cell? ⟨b, 6, none⟩ = some (.bool false) := HB.out.cell (k := 6) rfl
   rw [show (decide _ : Bool) = true from decide_eq_true (by simp)]
   simp only [if_true, if_false, Bool.false_eq_true]
   go_enter Tryz.func56, Tryz.ntmps56
   go_wp2_with fail
   clear c6q
   have c1 := HB.out.cell (k := 1) rfl
   have c2 := HB.out.cell (k := 2) rfl
   have c3 := HB.out.cell (k := 3) rfl
   have c4 := HB.out.cell (k := 4) rfl
   have c5 := HB.out.cell (k := 5) rfl
   have c6 := HB.out.cell (k := 6) rfl
   obtain ⟨-, d1, d2, d3, d4, d5, d6⟩ := Blk.seven (p := ⟨pk, ⟨pvk, pvn, pvs⟩, pw, pe, true⟩) HW.out
   dsimp only at c1 c2 c3 c4 c5 c6 d1 d2 d3 d4 d5 d6
   go_quiet (fail)
   replace HB := Lib.hid (HB.out.low (below_drewN _ (w.alloc (.cells #[.string pk, .int .i64 pvk, .int .i64 pvn, .string pvs, .bool pw, .bool pe, .bool true] 31)) nq))
   replace HN := Lib.hid (HN.out.trans ((below_drewN _ (w.alloc (.cells #[.string pk, .int .i64 pvk, .int .i64 pvn, .string pvs, .bool pw, .bool pe, .bool true] 31)) nq).mono HN.out.size))
   replace HW := Lib.hid (HW.out.low (below_drewN _ (w.alloc (.cells #[.string pk, .int .i64 pvk, .int .i64 pvn, .string pvs, .bool pw, .bool pe, .bool true] 31)) nq))
   clear c1 c2 c3 c4 c5 c6 d1 d2 d3 d4 d5 d6
   generalize World.drewN (w.alloc (.cells #[.string pk, .int .i64 pvk, .int .i64 pvn, .string pvs, .bool pw, .bool pe, .bool true] 31)) nq = u2 at *
   go_wp2_with fail
   refine bodyPost_ret (results_tmp rfl _ _ _) rfl ⟨rfl, HB.out, below_fr HN.out⟩
  | false =>
   cases pe with
   | true =>
    cases qe with
    | true =>
     cases qw with
     | true =>
      have c6q : (w.alloc (.cells #[.string pk, .int .i64 pvk, .int .i64 pvn, .string pvs, .bool pw, .bool true, .bool false] 31)).cell? ⟨b, 6, none⟩ = some (.bool false) := HB.out.cell (k := 6) rfl
      rw [show (decide _ : Bool) = false from decide_eq_false (by simp)]
      simp only [if_true, if_false, Bool.false_eq_true]
      go_enter Tryz.func56, Tryz.ntmps56
      go_wp2_with fail
      clear c6q
      have c1 := HB.out.cell (k := 1) rfl
      have c2 := HB.out.cell (k := 2) rfl
      have c3 := HB.out.cell (k := 3) rfl
      have c4 := HB.out.cell (k := 4) rfl
      have c5 := HB.out.cell (k := 5) rfl
      have c6 := HB.out.cell (k := 6) rfl
      obtain ⟨-, d1, d2, d3, d4, d5, d6⟩ := Blk.seven (p := ⟨pk, ⟨pvk, pvn, pvs⟩, pw, true, false⟩) HW.out
      dsimp only at c1 c2 c3 c4 c5 c6 d1 d2 d3 d4 d5 d6
      go_quiet (fail)
      replace HB := Lib.hid (HB.out.low (below_drewN _ (w.alloc (.cells #[.string pk, .int .i64 pvk, .int .i64 pvn, .string pvs, .bool pw, .bool true, .bool false] 31)) nq))
      replace HN := Lib.hid (HN.out.trans ((below_drewN _ (w.alloc (.cells #[.string pk, .int .i64 pvk, .int .i64 pvn, .string pvs, .bool pw, .bool true, .bool false] 31)) nq).mono HN.out.size))
      replace HW := Lib.hid (HW.out.low (below_drewN _ (w.alloc (.cells #[.string pk, .int .i64 pvk, .int .i64 pvn, .string pvs, .bool pw, .bool true, .bool false] 31)) nq))
      clear c1 c2 c3 c4 c5 c6 d1 d2 d3 d4 d5 d6
      generalize World.drewN (w.alloc (.cells #[.string pk, .int .i64 pvk, .int .i64 pvn, .string pvs, .bool pw, .bool true, .bool false] 31)) nq = u2 at *
      go_wp2_with fail
      have c1 := HB.out.cell (k := 1) rfl
      have c2 := HB.out.cell (k := 2) rfl
      have c3 := HB.out.cell (k := 3) rfl
      have c4 := HB.out.cell (k := 4) rfl
      have c5 := HB.out.cell (k := 5) rfl
      have c6 := HB.out.cell (k := 6) rfl
      obtain ⟨-, d1, d2, d3, d4, d5, d6⟩ := Blk.seven (p := ⟨pk, ⟨pvk, pvn, pvs⟩, pw, true, false⟩) HW.out
      dsimp only at c1 c2 c3 c4 c5 c6 d1 d2 d3 d4 d5 d6
      go_quiet (fail)
      replace HB := Lib.hid (HB.out.low (below_drewN _ u2 nq))
      replace HN := Lib.hid (HN.out.trans ((below_drewN _ u2 nq).mono HN.out.size))
      replace HW := Lib.hid (HW.out.low (below_drewN _ u2 nq))
      clear c1 c2 c3 c4 c5 c6 d1 d2 d3 d4 d5 d6
      generalize World.drewN u2 nq = u4 at *
      obtain ⟨d0, d1, d2, d3, d4, d5, d6⟩ := Blk.seven (p := ⟨pk, ⟨pvk, pvn, pvs⟩, pw, true, false⟩) HW.out
      dsimp only at d0 d1 d2 d3 d4 d5 d6
      go_wp2_with fail
      refine (HC.out _).mono ?_
      rintro e w1 ⟨rfl, hb⟩
      have HBX := Lib.hid (HB.out.low hb)
      have HNX := Lib.hid (HN.out.trans (hb.mono HN.out.size))
      clear hb HC HB HN HW d0 d1 d2 d3 d4 d5 d6
      have c0 := HBX.out.cell (k := 0) rfl
      have c1 := HBX.out.cell (k := 1) rfl
      have c2 := HBX.out.cell (k := 2) rfl
      have c3 := HBX.out.cell (k := 3) rfl
      have c4 := HBX.out.cell (k := 4) rfl
      have c5 := HBX.out.cell (k := 5) rfl
      have c6 := HBX.out.cell (k := 6) rfl
      dsimp only at c0 c1 c2 c3 c4 c5 c6
      have z := HBX.out.fz
      go_wp2_with fail
      refine bodyPost_ret (results_tmp rfl _ _ _) rfl ⟨rfl, ?_, ?_⟩
      ·have := ((((((HBX.out.set 0 (.string pk)).set 1 (.int .i64 pvk)).set 2 (.int .i64 pvn)).set 3 (.string pvs)).set 4 (.bool pw)).set 5 (.bool true)).set 6 (.bool false)
       exact this
      ·exact (((((((below_fr HNX.out).setCell (p := ⟨b, 0, none⟩) (fun hk => hk.2 rfl) _).setCell (p := ⟨b, 1, none⟩) (fun hk => hk.2 rfl) _).setCell (p := ⟨b, 2, none⟩) (fun hk => hk.2 rfl) _).setCell (p := ⟨b, 3, none⟩) (fun hk => hk.2 rfl) _).setCell (p := ⟨b, 4, none⟩) (fun hk => hk.2 rfl) _).setCell (p := ⟨b, 5, none⟩) (fun hk => hk.2 rfl) _).setCell (p := ⟨b, 6, none⟩) (fun hk => hk.2 rfl) _
     | false =>
      cases pw with
      | true =>
       have c6q : (w.alloc (.cells #[.string pk, .int .i64 pvk, .int .i64 pvn, .string pvs, .bool true, .bool true, .bool false] 31)).cell? ⟨b, 6, none⟩ = some (.bool false) := HB.out.cell (k := 6) rfl
       rw [show (decide _ : Bool) = true from decide_eq_true (by simp)]
       simp only [if_true, if_false, Bool.false_eq_true]
       go_enter Tryz.func56, Tryz.ntmps56
       go_wp2_with fail
       clear c6q
       have c1 := HB.out.cell (k := 1) rfl
       have c2 := HB.out.cell (k := 2) rfl
       have c3 := HB.out.cell (k := 3) rfl
       have c4 := HB.out.cell (k := 4) rfl
       have c5 := HB.out.cell (k := 5) rfl
       have c6 := HB.out.cell (k := 6) rfl
       obtain ⟨-, d1, d2, d3, d4, d5, d6⟩ := Blk.seven (p := ⟨pk, ⟨pvk, pvn, pvs⟩, true, true, false⟩) HW.out
       dsimp only at c1 c2 c3 c4 c5 c6 d1 d2 d3 d4 d5 d6
       go_quiet (fail)
       replace HB := Lib.hid (HB.out.low (below_drewN _ (w.alloc (.cells #[.string pk, .int .i64 pvk, .int .i64 pvn, .string pvs, .bool true, .bool true, .bool false] 31)) nq))
       replace HN := Lib.hid (HN.out.trans ((below_drewN _ (w.alloc (.cells #[.string pk, .int .i64 pvk, .int .i64 pvn, .string pvs, .bool true, .bool true, .bool false] 31)) nq).mono HN.out.size))
       replace HW := Lib.hid (HW.out.low (below_drewN _ (w.alloc (.cells #[.string pk, .int .i64 pvk, .int .i64 pvn, .string pvs, .bool true, .bool true, .bool false] 31)) nq))
       clear c1 c2 c3 c4 c5 c6 d1 d2 d3 d4 d5 d6
       generalize World.drewN (w.alloc (.cells #[.string pk, .int .i64 pvk, .int .i64 pvn, .string pvs, .bool true, .bool true, .bool false] 31)) nq = u2 at *
       go_wp2_with fail
       have c1 := HB.out.cell (k := 1) rfl
       have c2 := HB.out.cell (k := 2) rfl
       have c3 := HB.out.cell (k := 3) rfl
       have c4 := HB.out.cell (k := 4) rfl
       have c5 := HB.out.cell (k := 5) rfl
       have c6 := HB.out.cell (k := 6) rfl
       obtain ⟨-, d1, d2, d3, d4, d5, d6⟩ := Blk.seven (p := ⟨pk, ⟨pvk, pvn, pvs⟩, true, true, false⟩) HW.out
       dsimp only at c1 c2 c3 c4 c5 c6 d1 d2 d3 d4 d5 d6
       go_quiet (fail)
       replace HB := Lib.hid (HB.out.low (below_drewN _ u2 nq))
       replace HN := Lib.hid (HN.out.trans ((below_drewN _ u2 nq).mono HN.out.size))
       replace HW := Lib.hid (HW.out.low (below_drewN _ u2 nq))
       clear c1 c2 c3 c4 c5 c6 d1 d2 d3 d4 d5 d6
       generalize World.drewN u2 nq = u4 at *
       go_wp2_with fail
       refine bodyPost_ret (results_tmp rfl _ _ _) rfl ⟨rfl, HB.out, below_fr HN.out⟩
      | false =>
       by_cases e1 : pvk = qvk
       ·subst e1
        by_cases e2 : pvn = qvn
        ·subst e2
         by_cases e3 : pvs = qvs
         ·subst e3
          have c6q : (w.alloc (.cells #[.string pk, .int .i64 pvk, .int .i64 pvn, .string pvs, .bool false, .bool true, .bool false] 31)).cell? ⟨b, 6, none⟩ = some (.bool false) := HB.out.cell (k := 6) rfl
          rw [show (decide _ : Bool) = false from decide_eq_false (by simp)]
          simp only [if_true, if_false, Bool.false_eq_true]
          go_enter Tryz.func56, Tryz.ntmps56
          go_wp2_with fail
          clear c6q
          have c1 := HB.out.cell (k := 1) rfl
          have c2 := HB.out.cell (k := 2) rfl
          have c3 := HB.out.cell (k := 3) rfl
          have c4 := HB.out.cell (k := 4) rfl
          have c5 := HB.out.cell (k := 5) rfl
          have c6 := HB.out.cell (k := 6) rfl
          obtain ⟨-, d1, d2, d3, d4, d5, d6⟩ := Blk.seven (p := ⟨pk, ⟨pvk, pvn, pvs⟩, false, true, false⟩) HW.out
          dsimp only at c1 c2 c3 c4 c5 c6 d1 d2 d3 d4 d5 d6
          go_quiet (fail)
          replace HB := Lib.hid (HB.out.low (below_drewN _ (w.alloc (.cells #[.string pk, .int .i64 pvk, .int .i64 pvn, .string pvs, .bool false, .bool true, .bool false] 31)) nq))
          replace HN := Lib.hid (HN.out.trans ((below_drewN _ (w.alloc (.cells #[.string pk, .int .i64 pvk, .int .i64 pvn, .string pvs, .bool false, .bool true, .bool false] 31)) nq).mono HN.out.size))
          replace HW := Lib.hid (HW.out.low (below_drewN _ (w.alloc (.cells #[.string pk, .int .i64 pvk, .int .i64 pvn, .string pvs, .bool false, .bool true, .bool false] 31)) nq))
          clear c1 c2 c3 c4 c5 c6 d1 d2 d3 d4 d5 d6
          generalize World.drewN (w.alloc (.cells #[.string pk, .int .i64 pvk, .int .i64 pvn, .string pvs, .bool false, .bool true, .bool false] 31)) nq = u2 at *
          go_wp2_with fail
          have c1 := HB.out.cell (k := 1) rfl
          have c2 := HB.out.cell (k := 2) rfl
          have c3 := HB.out.cell (k := 3) rfl
          have c4 := HB.out.cell (k := 4) rfl
          have c5 := HB.out.cell (k := 5) rfl
          have c6 := HB.out.cell (k := 6) rfl
          obtain ⟨-, d1, d2, d3, d4, d5, d6⟩ := Blk.seven (p := ⟨pk, ⟨pvk, pvn, pvs⟩, false, true, false⟩) HW.out
          dsimp only at c1 c2 c3 c4 c5 c6 d1 d2 d3 d4 d5 d6
          go_quiet (fail)
          replace HB := Lib.hid (HB.out.low (below_drewN _ u2 nq))
          replace HN := Lib.hid (HN.out.trans ((below_drewN _ u2 nq).mono HN.out.size))
          replace HW := Lib.hid (HW.out.low (below_drewN _ u2 nq))
          clear c1 c2 c3 c4 c5 c6 d1 d2 d3 d4 d5 d6
          generalize World.drewN u2 nq = u4 at *
          obtain ⟨d0, d1, d2, d3, d4, d5, d6⟩ := Blk.seven (p := ⟨pk, ⟨pvk, pvn, pvs⟩, false, true, false⟩) HW.out
          dsimp only at d0 d1 d2 d3 d4 d5 d6
          go_wp2_with fail
          refine (HC.out _).mono ?_
          rintro e w1 ⟨rfl, hb⟩
          have HBX := Lib.hid (HB.out.low hb)
          have HNX := Lib.hid (HN.out.trans (hb.mono HN.out.size))
          clear hb HC HB HN HW d0 d1 d2 d3 d4 d5 d6
          have c0 := HBX.out.cell (k := 0) rfl
          have c1 := HBX.out.cell (k := 1) rfl
          have c2 := HBX.out.cell (k := 2) rfl
          have c3 := HBX.out.cell (k := 3) rfl
          have c4 := HBX.out.cell (k := 4) rfl
          have c5 := HBX.out.cell (k := 5) rfl
          have c6 := HBX.out.cell (k := 6) rfl
          dsimp only at c0 c1 c2 c3 c4 c5 c6
          have z := HBX.out.fz
          go_wp2_with fail
          refine bodyPost_ret (results_tmp rfl _ _ _) rfl ⟨rfl, ?_, ?_⟩
          ·have := ((((((HBX.out.set 0 (.string pk)).set 1 (.int .i64 pvk)).set 2 (.int .i64 pvn)).set 3 (.string pvs)).set 4 (.bool false)).set 5 (.bool true)).set 6 (.bool false)
           exact this
          ·exact (((((((below_fr HNX.out).setCell (p := ⟨b, 0, none⟩) (fun hk => hk.2 rfl) _).setCell (p := ⟨b, 1, none⟩) (fun hk => hk.2 rfl) _).setCell (p := ⟨b, 2, none⟩) (fun hk => hk.2 rfl) _).setCell (p := ⟨b, 3, none⟩) (fun hk => hk.2 rfl) _).setCell (p := ⟨b, 4, none⟩) (fun hk => hk.2 rfl) _).setCell (p := ⟨b, 5, none⟩) (fun hk => hk.2 rfl) _).setCell (p := ⟨b, 6, none⟩) (fun hk => hk.2 rfl) _
         ·have e4 : ¬ pvs.toList = qvs.toList := fun a => e3 (toList_inj a)
          have c6q : (w.alloc (.cells #[.string pk, .int .i64 pvk, .int .i64 pvn, .string pvs, .bool false, .bool true, .bool false] 31)).cell? ⟨b, 6, none⟩ = some (.bool false) := HB.out.cell (k := 6) rfl
          rw [show (decide _ : Bool) = true from decide_eq_true (by simp [e3])]
          simp only [if_true, if_false, Bool.false_eq_true]
          go_enter Tryz.func56, Tryz.ntmps56
          go_wp2_with fail
          clear c6q
          have c1 := HB.out.cell (k := 1) rfl
          have c2 := HB.out.cell (k := 2) rfl
          have c3 := HB.out.cell (k := 3) rfl
          have c4 := HB.out.cell (k := 4) rfl
          have c5 := HB.out.cell (k := 5) rfl
          have c6 := HB.out.cell (k := 6) rfl
          obtain ⟨-, d1, d2, d3, d4, d5, d6⟩ := Blk.seven (p := ⟨pk, ⟨pvk, pvn, pvs⟩, false, true, false⟩) HW.out
          dsimp only at c1 c2 c3 c4 c5 c6 d1 d2 d3 d4 d5 d6
          go_quiet (fail)
          replace HB := Lib.hid (HB.out.low (below_drewN _ (w.alloc (.cells #[.string pk, .int .i64 pvk, .int .i64 pvn, .string pvs, .bool false, .bool true, .bool false] 31)) nq))
          replace HN := Lib.hid (HN.out.trans ((below_drewN _ (w.alloc (.cells #[.string pk, .int .i64 pvk, .int .i64 pvn, .string pvs, .bool false, .bool true, .bool false] 31)) nq).mono HN.out.size))
          replace HW := Lib.hid (HW.out.low (below_drewN _ (w.alloc (.cells #[.string pk, .int .i64 pvk, .int .i64 pvn, .string pvs, .bool false, .bool true, .bool false] 31)) nq))
          clear c1 c2 c3 c4 c5 c6 d1 d2 d3 d4 d5 d6
          generalize World.drewN (w.alloc (.cells #[.string pk, .int .i64 pvk, .int .i64 pvn, .string pvs, .bool false, .bool true, .bool false] 31)) nq = u2 at *
          go_wp2_with fail
          have c1 := HB.out.cell (k := 1) rfl
          have c2 := HB.out.cell (k := 2) rfl
          have c3 := HB.out.cell (k := 3) rfl
          have c4 := HB.out.cell (k := 4) rfl
          have c5 := HB.out.cell (k := 5) rfl
          have c6 := HB.out.cell (k := 6) rfl
          obtain ⟨-, d1, d2, d3, d4, d5, d6⟩ := Blk.seven (p := ⟨pk, ⟨pvk, pvn, pvs⟩, false, true, false⟩) HW.out
          dsimp only at c1 c2 c3 c4 c5 c6 d1 d2 d3 d4 d5 d6
          go_quiet (fail)
          replace HB := Lib.hid (HB.out.low (below_drewN _ u2 nq))
          replace HN := Lib.hid (HN.out.trans ((below_drewN _ u2 nq).mono HN.out.size))
          replace HW := Lib.hid (HW.out.low (below_drewN _ u2 nq))
          clear c1 c2 c3 c4 c5 c6 d1 d2 d3 d4 d5 d6
          generalize World.drewN u2 nq = u4 at *
          go_wp2_with fail
          refine bodyPost_ret (results_tmp rfl _ _ _) rfl ⟨rfl, HB.out, below_fr HN.out⟩
        ·have c6q : (w.alloc (.cells #[.string pk, .int .i64 pvk, .int .i64 pvn, .string pvs, .bool false, .bool true, .bool false] 31)).cell? ⟨b, 6, none⟩ = some (.bool false) := HB.out.cell (k := 6) rfl
         rw [show (decide _ : Bool) = true from decide_eq_true (by simp [e2])]
         simp only [if_true, if_false, Bool.false_eq_true]
         go_enter Tryz.func56, Tryz.ntmps56
         go_wp2_with fail
         clear c6q
         have c1 := HB.out.cell (k := 1) rfl
         have c2 := HB.out.cell (k := 2) rfl
         have c3 := HB.out.cell (k := 3) rfl
         have c4 := HB.out.cell (k := 4) rfl
         have c5 := HB.out.cell (k := 5) rfl
         have c6 := HB.out.cell (k := 6) rfl
         obtain ⟨-, d1, d2, d3, d4, d5, d6⟩ := Blk.seven (p := ⟨pk, ⟨pvk, pvn, pvs⟩, false, true, false⟩) HW.out
         dsimp only at c1 c2 c3 c4 c5 c6 d1 d2 d3 d4 d5 d6
         go_quiet (fail)
         replace HB := Lib.hid (HB.out.low (below_drewN _ (w.alloc (.cells #[.string pk, .int .i64 pvk, .int .i64 pvn, .string pvs, .bool false, .bool true, .bool false] 31)) nq))
         replace HN := Lib.hid (HN.out.trans ((below_drewN _ (w.alloc (.cells #[.string pk, .int .i64 pvk, .int .i64 pvn, .string pvs, .bool false, .bool true, .bool false] 31)) nq).mono HN.out.size))
         replace HW := Lib.hid (HW.out.low (below_drewN _ (w.alloc (.cells #[.string pk, .int .i64 pvk, .int .i64 pvn, .string pvs, .bool false, .bool true, .bool false] 31)) nq))
         clear c1 c2 c3 c4 c5 c6 d1 d2 d3 d4 d5 d6
         generalize World.drewN (w.alloc (.cells #[.string pk, .int .i64 pvk, .int .i64 pvn, .string pvs, .bool false, .bool true, .bool false] 31)) nq = u2 at *
         go_wp2_with fail
         have c1 := HB.out.cell (k := 1) rfl
         have c2 := HB.out.cell (k := 2) rfl
         have c3 := HB.out.cell (k := 3) rfl
         have c4 := HB.out.cell (k := 4) rfl
         have c5 := HB.out.cell (k := 5) rfl
         have c6 := HB.out.cell (k := 6) rfl
         obtain ⟨-, d1, d2, d3, d4, d5, d6⟩ := Blk.seven (p := ⟨pk, ⟨pvk, pvn, pvs⟩, false, true, false⟩) HW.out
         dsimp only at c1 c2 c3 c4 c5 c6 d1 d2 d3 d4 d5 d6
         go_quiet (fail)
         replace HB := Lib.hid (HB.out.low (below_drewN _ u2 nq))
         replace HN := Lib.hid (HN.out.trans ((below_drewN _ u2 nq).mono HN.out.size))
         replace HW := Lib.hid (HW.out.low (below_drewN _ u2 nq))
         clear c1 c2 c3 c4 c5 c6 d1 d2 d3 d4 d5 d6
         generalize World.drewN u2 nq = u4 at *
         go_wp2_with fail
         refine bodyPost_ret (results_tmp rfl _ _ _) rfl ⟨rfl, HB.out, below_fr HN.out⟩
       ·have c6q : (w.alloc (.cells #[.string pk, .int .i64 pvk, .int .i64 pvn, .string pvs, .bool false, .bool true, .bool false] 31)).cell? ⟨b, 6, none⟩ = some (.bool false) := HB.out.cell (k := 6) rfl
        rw [show (decide _ : Bool) = true from decide_eq_true (by simp [e1])]
        simp only [if_true, if_false, Bool.false_eq_true]
        go_enter Tryz.func56, Tryz.ntmps56
        go_wp2_with fail
        clear c6q
        have c1 := HB.out.cell (k := 1) rfl
        have c2 := HB.out.cell (k := 2) rfl
        have c3 := HB.out.cell (k := 3) rfl
        have c4 := HB.out.cell (k := 4) rfl
        have c5 := HB.out.cell (k := 5) rfl
        have c6 := HB.out.cell (k := 6) rfl
        obtain ⟨-, d1, d2, d3, d4, d5, d6⟩ := Blk.seven (p := ⟨pk, ⟨pvk, pvn, pvs⟩, false, true, false⟩) HW.out
        dsimp only at c1 c2 c3 c4 c5 c6 d1 d2 d3 d4 d5 d6
        go_quiet (fail)
        replace HB := Lib.hid (HB.out.low (below_drewN _ (w.alloc (.cells #[.string pk, .int .i64 pvk, .int .i64 pvn, .string pvs, .bool false, .bool true, .bool false] 31)) nq))
        replace HN := Lib.hid (HN.out.trans ((below_drewN _ (w.alloc (.cells #[.string pk, .int .i64 pvk, .int .i64 pvn, .string pvs, .bool false, .bool true, .bool false] 31)) nq).mono HN.out.size))
        replace HW := Lib.hid (HW.out.low (below_drewN _ (w.alloc (.cells #[.string pk, .int .i64 pvk, .int .i64 pvn, .string pvs, .bool false, .bool true, .bool false] 31)) nq))
        clear c1 c2 c3 c4 c5 c6 d1 d2 d3 d4 d5 d6
        generalize World.drewN (w.alloc (.cells #[.string pk, .int .i64 pvk, .int .i64 pvn, .string pvs, .bool false, .bool true, .bool false] 31)) nq = u2 at *
        go_wp2_with fail
        have c1 := HB.out.cell (k := 1) rfl
        have c2 := HB.out.cell (k := 2) rfl
        have c3 := HB.out.cell (k := 3) rfl
        have c4 := HB.out.cell (k := 4) rfl
        have c5 := HB.out.cell (k := 5) rfl
        have c6 := HB.out.cell (k := 6) rfl
        obtain ⟨-, d1, d2, d3, d4, d5, d6⟩ := Blk.seven (p := ⟨pk, ⟨pvk, pvn, pvs⟩, false, true, false⟩) HW.out
        dsimp only at c1 c2 c3 c4 c5 c6 d1 d2 d3 d4 d5 d6
        go_quiet (fail)
        replace HB := Lib.hid (HB.out.low (below_drewN _ u2 nq))
        replace HN := Lib.hid (HN.out.trans ((below_drewN _ u2 nq).mono HN.out.size))
        replace HW := Lib.hid (HW.out.low (below_drewN _ u2 nq))
        clear c1 c2 c3 c4 c5 c6 d1 d2 d3 d4 d5 d6
        generalize World.drewN u2 nq = u4 at *
        go_wp2_with fail
        refine bodyPost_ret (results_tmp rfl _ _ _) rfl ⟨rfl, HB.out, below_fr HN.out⟩
    | false =>
     have c6q : (w.alloc (.cells #[.string pk, .int .i64 pvk, .int .i64 pvn, .string pvs, .bool pw, .bool true, .bool false] 31)).cell? ⟨b, 6, none⟩ = some (.bool false) := HB.out.cell (k := 6) rfl
     rw [show (decide _ : Bool) = true from decide_eq_true (by simp)]
     simp only [if_true, if_false, Bool.false_eq_true]
     go_enter Tryz.func56, Tryz.ntmps56
     go_wp2_with fail
     clear c6q
     have c1 := HB.out.cell (k := 1) rfl
     have c2 := HB.out.cell (k := 2) rfl
     have c3 := HB.out.cell (k := 3) rfl
     have c4 := HB.out.cell (k := 4) rfl
     have c5 := HB.out.cell (k := 5) rfl
     have c6 := HB.out.cell (k := 6) rfl
     obtain ⟨-, d1, d2, d3, d4, d5, d6⟩ := Blk.seven (p := ⟨pk, ⟨pvk, pvn, pvs⟩, pw, true, false⟩) HW.out
     dsimp only at c1 c2 c3 c4 c5 c6 d1 d2 d3 d4 d5 d6
     go_quiet (fail)
     replace HB := Lib.hid (HB.out.low (below_drewN _ (w.alloc (.cells #[.string pk, .int .i64 pvk, .int .i64 pvn, .string pvs, .bool pw, .bool true, .bool false] 31)) nq))
     replace HN := Lib.hid (HN.out.trans ((below_drewN _ (w.alloc (.cells #[.string pk, .int .i64 pvk, .int .i64 pvn, .string pvs, .bool pw, .bool true, .bool false] 31)) nq).mono HN.out.size))
     replace HW := Lib.hid (HW.out.low (below_drewN _ (w.alloc (.cells #[.string pk, .int .i64 pvk, .int .i64 pvn, .string pvs, .bool pw, .bool true, .bool false] 31)) nq))
     clear c1 c2 c3 c4 c5 c6 d1 d2 d3 d4 d5 d6
     generalize World.drewN (w.alloc (.cells #[.string pk, .int .i64 pvk, .int .i64 pvn, .string pvs, .bool pw, .bool true, .bool false] 31)) nq = u2 at *
     go_wp2_with fail
     refine bodyPost_ret (results_tmp rfl _ _ _) rfl ⟨rfl, HB.out, below_fr HN.out⟩
   | false =>
    cases qe with
    | true =>
     have c6q : (w.alloc (.cells #[.string pk, .int .i64 pvk, .int .i64 pvn, .string pvs, .bool pw, .bool false, .bool false] 31)).cell? ⟨b, 6, none⟩ = some (.bool false) := HB.out.cell (k := 6) rfl
     rw [show (decide _ : Bool) = true from decide_eq_true (by simp)]
     simp only [if_true, if_false, Bool.false_eq_true]
     go_enter Tryz.func56, Tryz.ntmps56
     go_wp2_with fail
     clear c6q
     have c1 := HB.out.cell (k := 1) rfl
     have c2 := HB.out.cell (k := 2) rfl
     have c3 := HB.out.cell (k := 3) rfl
     have c4 := HB.out.cell (k := 4) rfl
     have c5 := HB.out.cell (k := 5) rfl
     have c6 := HB.out.cell (k := 6) rfl
     obtain ⟨-, d1, d2, d3, d4, d5, d6⟩ := Blk.seven (p := ⟨pk, ⟨pvk, pvn, pvs⟩, pw, false, false⟩) HW.out
     dsimp only at c1 c2 c3 c4 c5 c6 d1 d2 d3 d4 d5 d6
     go_quiet (fail)
     replace HB := Lib.hid (HB.out.low (below_drewN _ (w.alloc (.cells #[.string pk, .int .i64 pvk, .int .i64 pvn, .string pvs, .bool pw, .bool false, .bool false] 31)) nq))
     replace HN := Lib.hid (HN.out.trans ((below_drewN _ (w.alloc (.cells #[.string pk, .int .i64 pvk, .int .i64 pvn, .string pvs, .bool pw, .bool false, .bool false] 31)) nq).mono HN.out.size))
     replace HW := Lib.hid (HW.out.low (below_drewN _ (w.alloc (.cells #[.string pk, .int .i64 pvk, .int .i64 pvn, .string pvs, .bool pw, .bool false, .bool false] 31)) nq))
     clear c1 c2 c3 c4 c5 c6 d1 d2 d3 d4 d5 d6
     generalize World.drewN (w.alloc (.cells #[.string pk, .int .i64 pvk, .int .i64 pvn, .string pvs, .bool pw, .bool false, .bool false] 31)) nq = u2 at *
     go_wp2_with fail
     refine bodyPost_ret (results_tmp rfl _ _ _) rfl ⟨rfl, HB.out, below_fr HN.out⟩
    | false =>
     cases qw with
     | true =>
      have c6q : (w.alloc (.cells #[.string pk, .int .i64 pvk, .int .i64 pvn, .string pvs, .bool pw, .bool false, .bool false] 31)).cell? ⟨b, 6, none⟩ = some (.bool false) := HB.out.cell (k := 6) rfl
      rw [show (decide _ : Bool) = false from decide_eq_false (by simp)]
      simp only [if_true, if_false, Bool.false_eq_true]
      go_enter Tryz.func56, Tryz.ntmps56
      go_wp2_with fail
      clear c6q
      have c1 := HB.out.cell (k := 1) rfl
      have c2 := HB.out.cell (k := 2) rfl
      have c3 := HB.out.cell (k := 3) rfl
      have c4 := HB.out.cell (k := 4) rfl
      have c5 := HB.out.cell (k := 5) rfl
      have c6 := HB.out.cell (k := 6) rfl
      obtain ⟨-, d1, d2, d3, d4, d5, d6⟩ := Blk.seven (p := ⟨pk, ⟨pvk, pvn, pvs⟩, pw, false, false⟩) HW.out
      dsimp only at c1 c2 c3 c4 c5 c6 d1 d2 d3 d4 d5 d6
      go_quiet (fail)
      replace HB := Lib.hid (HB.out.low (below_drewN _ (w.alloc (.cells #[.string pk, .int .i64 pvk, .int .i64 pvn, .string pvs, .bool pw, .bool false, .bool false] 31)) nq))
      replace HN := Lib.hid (HN.out.trans ((below_drewN _ (w.alloc (.cells #[.string pk, .int .i64 pvk, .int .i64 pvn, .string pvs, .bool pw, .bool false, .bool false] 31)) nq).mono HN.out.size))
      replace HW := Lib.hid (HW.out.low (below_drewN _ (w.alloc (.cells #[.string pk, .int .i64 pvk, .int .i64 pvn, .string pvs, .bool pw, .bool false, .bool false] 31)) nq))
      clear c1 c2 c3 c4 c5 c6 d1 d2 d3 d4 d5 d6
      generalize World.drewN (w.alloc (.cells #[.string pk, .int .i64 pvk, .int .i64 pvn, .string pvs, .bool pw, .bool false, .bool false] 31)) nq = u2 at *
      go_wp2_with fail
      have c1 := HB.out.cell (k := 1) rfl
      have c2 := HB.out.cell (k := 2) rfl
      have c3 := HB.out.cell (k := 3) rfl
      have c4 := HB.out.cell (k := 4) rfl
      have c5 := HB.out.cell (k := 5) rfl
      have c6 := HB.out.cell (k := 6) rfl
      obtain ⟨-, d1, d2, d3, d4, d5, d6⟩ := Blk.seven (p := ⟨pk, ⟨pvk, pvn, pvs⟩, pw, false, false⟩) HW.out
      dsimp only at c1 c2 c3 c4 c5 c6 d1 d2 d3 d4 d5 d6
      go_quiet (fail)
      replace HB := Lib.hid (HB.out.low (below_drewN _ u2 nq))
      replace HN := Lib.hid (HN.out.trans ((below_drewN _ u2 nq).mono HN.out.size))
      replace HW := Lib.hid (HW.out.low (below_drewN _ u2 nq))
      clear c1 c2 c3 c4 c5 c6 d1 d2 d3 d4 d5 d6
      generalize World.drewN u2 nq = u4 at *
      obtain ⟨d0, d1, d2, d3, d4, d5, d6⟩ := Blk.seven (p := ⟨pk, ⟨pvk, pvn, pvs⟩, pw, false, false⟩) HW.out
      dsimp only at d0 d1 d2 d3 d4 d5 d6
      go_wp2_with fail
      refine (HC.out _).mono ?_
      rintro e w1 ⟨rfl, hb⟩
      have HBX := Lib.hid (HB.out.low hb)
      have HNX := Lib.hid (HN.out.trans (hb.mono HN.out.size))
      clear hb HC HB HN HW d0 d1 d2 d3 d4 d5 d6
      have c0 := HBX.out.cell (k := 0) rfl
      have c1 := HBX.out.cell (k := 1) rfl
      have c2 := HBX.out.cell (k := 2) rfl
      have c3 := HBX.out.cell (k := 3) rfl
      have c4 := HBX.out.cell (k := 4) rfl
      have c5 := HBX.out.cell (k := 5) rfl
      have c6 := HBX.out.cell (k := 6) rfl
      dsimp only at c0 c1 c2 c3 c4 c5 c6
      have z := HBX.out.fz
      go_wp2_with fail
      refine bodyPost_ret (results_tmp rfl _ _ _) rfl ⟨rfl, ?_, ?_⟩
      ·have := ((((((HBX.out.set 0 (.string pk)).set 1 (.int .i64 pvk)).set 2 (.int .i64 pvn)).set 3 (.string pvs)).set 4 (.bool pw)).set 5 (.bool false)).set 6 (.bool false)
       exact this
      ·exact (((((((below_fr HNX.out).setCell (p := ⟨b, 0, none⟩) (fun hk => hk.2 rfl) _).setCell (p := ⟨b, 1, none⟩) (fun hk => hk.2 rfl) _).setCell (p := ⟨b, 2, none⟩) (fun hk => hk.2 rfl) _).setCell (p := ⟨b, 3, none⟩) (fun hk => hk.2 rfl) _).setCell (p := ⟨b, 4, none⟩) (fun hk => hk.2 rfl) _).setCell (p := ⟨b, 5, none⟩) (fun hk => hk.2 rfl) _).setCell (p := ⟨b, 6, none⟩) (fun hk => hk.2 rfl) _
     | false =>
      cases pw with
      | true =>
       have c6q : (w.alloc (.cells #[.string pk, .int .i64 pvk, .int .i64 pvn, .string pvs, .bool true, .bool false, .bool false] 31)).cell? ⟨b, 6, none⟩ = some (.bool false) := HB.out.cell (k := 6) rfl
       rw [show (decide _ : Bool) = true from decide_eq_true (by simp)]
       simp only [if_true, if_false, Bool.false_eq_true]
       go_enter Tryz.func56, Tryz.ntmps56
       go_wp2_with fail
       clear c6q
       have c1 := HB.out.cell (k := 1) rfl
       have c2 := HB.out.cell (k := 2) rfl
       have c3 := HB.out.cell (k := 3) rfl
       have c4 := HB.out.cell (k := 4) rfl
       have c5 := HB.out.cell (k := 5) rfl
       have c6 := HB.out.cell (k := 6) rfl
       obtain ⟨-, d1, d2, d3, d4, d5, d6⟩ := Blk.seven (p := ⟨pk, ⟨pvk, pvn, pvs⟩, true, false, false⟩) HW.out
       dsimp only at c1 c2 c3 c4 c5 c6 d1 d2 d3 d4 d5 d6
       go_quiet (fail)
       replace HB := Lib.hid (HB.out.low (below_drewN _ (w.alloc (.cells #[.string pk, .int .i64 pvk, .int .i64 pvn, .string pvs, .bool true, .bool false, .bool false] 31)) nq))
       replace HN := Lib.hid (HN.out.trans ((below_drewN _ (w.alloc (.cells #[.string pk, .int .i64 pvk, .int .i64 pvn, .string pvs, .bool true, .bool false, .bool false] 31)) nq).mono HN.out.size))
       replace HW := Lib.hid (HW.out.low (below_drewN _ (w.alloc (.cells #[.string pk, .int .i64 pvk, .int .i64 pvn, .string pvs, .bool true, .bool false, .bool false] 31)) nq))
       clear c1 c2 c3 c4 c5 c6 d1 d2 d3 d4 d5 d6
       generalize World.drewN (w.alloc (.cells #[.string pk, .int .i64 pvk, .int .i64 pvn, .string pvs, .bool true, .bool false, .bool false] 31)) nq = u2 at *
       go_wp2_with fail
       have c1 := HB.out.cell (k := 1) rfl
       have c2 := HB.out.cell (k := 2) rfl
       have c3 := HB.out.cell (k := 3) rfl
       have c4 := HB.out.cell (k := 4) rfl
       have c5 := HB.out.cell (k := 5) rfl
       have c6 := HB.out.cell (k := 6) rfl
       obtain ⟨-, d1, d2, d3, d4, d5, d6⟩ := Blk.seven (p := ⟨pk, ⟨pvk, pvn, pvs⟩, true, false, false⟩) HW.out
       dsimp only at c1 c2 c3 c4 c5 c6 d1 d2 d3 d4 d5 d6
       go_quiet (fail)
       replace HB := Lib.hid (HB.out.low (below_drewN _ u2 nq))
       replace HN := Lib.hid (HN.out.trans ((below_drewN _ u2 nq).mono HN.out.size))
       replace HW := Lib.hid (HW.out.low (below_drewN _ u2 nq))
       clear c1 c2 c3 c4 c5 c6 d1 d2 d3 d4 d5 d6
       generalize World.drewN u2 nq = u4 at *
       go_wp2_with fail
       refine bodyPost_ret (results_tmp rfl _ _ _) rfl ⟨rfl, HB.out, below_fr HN.out⟩
      | false =>
       by_cases e1 : pvk = qvk
       ·subst e1
        by_cases e2 : pvn = qvn
        ·subst e2
         by_cases e3 : pvs = qvs
         ·subst e3
          have c6q : (w.alloc (.cells #[.string pk, .int .i64 pvk, .int .i64 pvn, .string pvs, .bool false, .bool false, .bool false] 31)).cell? ⟨b, 6, none⟩ = some (.bool false) := HB.out.cell (k := 6) rfl
          rw [show (decide _ : Bool) = false from decide_eq_false (by simp)]
          simp only [if_true, if_false, Bool.false_eq_true]
          go_enter Tryz.func56, Tryz.ntmps56
          go_wp2_with fail
          clear c6q
          have c1 := HB.out.cell (k := 1) rfl
          have c2 := HB.out.cell (k := 2) rfl
          have c3 := HB.out.cell (k := 3) rfl
          have c4 := HB.out.cell (k := 4) rfl
          have c5 := HB.out.cell (k := 5) rfl
          have c6 := HB.out.cell (k := 6) rfl
          obtain ⟨-, d1, d2, d3, d4, d5, d6⟩ := Blk.seven (p := ⟨pk, ⟨pvk, pvn, pvs⟩, false, false, false⟩) HW.out
          dsimp only at c1 c2 c3 c4 c5 c6 d1 d2 d3 d4 d5 d6
          go_quiet (fail)
          replace HB := Lib.hid (HB.out.low (below_drewN _ (w.alloc (.cells #[.string pk, .int .i64 pvk, .int .i64 pvn, .string pvs, .bool false, .bool false, .bool false] 31)) nq))
          replace HN := Lib.hid (HN.out.trans ((below_drewN _ (w.alloc (.cells #[.string pk, .int .i64 pvk, .int .i64 pvn, .string pvs, .bool false, .bool false, .bool false] 31)) nq).mono HN.out.size))
          replace HW := Lib.hid (HW.out.low (below_drewN _ (w.alloc (.cells #[.string pk, .int .i64 pvk, .int .i64 pvn, .string pvs, .bool false, .bool false, .bool false] 31)) nq))
          clear c1 c2 c3 c4 c5 c6 d1 d2 d3 d4 d5 d6
          generalize World.drewN (w.alloc (.cells #[.string pk, .int .i64 pvk, .int .i64 pvn, .string pvs, .bool false, .bool false, .bool false] 31)) nq = u2 at *
          go_wp2_with fail
          have c1 := HB.out.cell (k := 1) rfl
          have c2 := HB.out.cell (k := 2) rfl
          have c3 := HB.out.cell (k := 3) rfl
          have c4 := HB.out.cell (k := 4) rfl
          have c5 := HB.out.cell (k := 5) rfl
          have c6 := HB.out.cell (k := 6) rfl
          obtain ⟨-, d1, d2, d3, d4, d5, d6⟩ := Blk.seven (p := ⟨pk, ⟨pvk, pvn, pvs⟩, false, false, false⟩) HW.out
          dsimp only at c1 c2 c3 c4 c5 c6 d1 d2 d3 d4 d5 d6
          go_quiet (fail)
          replace HB := Lib.hid (HB.out.low (below_drewN _ u2 nq))
          replace HN := Lib.hid (HN.out.trans ((below_drewN _ u2 nq).mono HN.out.size))
          replace HW := Lib.hid (HW.out.low (below_drewN _ u2 nq))
          clear c1 c2 c3 c4 c5 c6 d1 d2 d3 d4 d5 d6
          generalize World.drewN u2 nq = u4 at *
          obtain ⟨d0, d1, d2, d3, d4, d5, d6⟩ := Blk.seven (p := ⟨pk, ⟨pvk, pvn, pvs⟩, false, false, false⟩) HW.out
          dsimp only at d0 d1 d2 d3 d4 d5 d6
          go_wp2_with fail
          refine (HC.out _).mono ?_
          rintro e w1 ⟨rfl, hb⟩
          have HBX := Lib.hid (HB.out.low hb)
          have HNX := Lib.hid (HN.out.trans (hb.mono HN.out.size))
          clear hb HC HB HN HW d0 d1 d2 d3 d4 d5 d6
          have c0 := HBX.out.cell (k := 0) rfl
          have c1 := HBX.out.cell (k := 1) rfl
          have c2 := HBX.out.cell (k := 2) rfl
          have c3 := HBX.out.cell (k := 3) rfl
          have c4 := HBX.out.cell (k := 4) rfl
          have c5 := HBX.out.cell (k := 5) rfl
          have c6 := HBX.out.cell (k := 6) rfl
          dsimp only at c0 c1 c2 c3 c4 c5 c6
          have z := HBX.out.fz
          go_wp2_with fail
          refine bodyPost_ret (results_tmp rfl _ _ _) rfl ⟨rfl, ?_, ?_⟩
          ·have := ((((((HBX.out.set 0 (.string pk)).set 1 (.int .i64 pvk)).set 2 (.int .i64 pvn)).set 3 (.string pvs)).set 4 (.bool false)).set 5 (.bool false)).set 6 (.bool false)
           exact this
          ·exact (((((((below_fr HNX.out).setCell (p := ⟨b, 0, none⟩) (fun hk => hk.2 rfl) _).setCell (p := ⟨b, 1, none⟩) (fun hk => hk.2 rfl) _).setCell (p := ⟨b, 2, none⟩) (fun hk => hk.2 rfl) _).setCell (p := ⟨b, 3, none⟩) (fun hk => hk.2 rfl) _).setCell (p := ⟨b, 4, none⟩) (fun hk => hk.2 rfl) _).setCell (p := ⟨b, 5, none⟩) (fun hk => hk.2 rfl) _).setCell (p := ⟨b, 6, none⟩) (fun hk => hk.2 rfl) _
         ·have e4 : ¬ pvs.toList = qvs.toList := fun a => e3 (toList_inj a)
          have c6q : (w.alloc (.cells #[.string pk, .int .i64 pvk, .int .i64 pvn, .string pvs, .bool false, .bool false, .bool false] 31)).cell? ⟨b, 6, none⟩ = some (.bool false) := HB.out.cell (k := 6) rfl
          rw [show (decide _ : Bool) = true from decide_eq_true (by simp [e3])]
          simp only [if_true, if_false, Bool.false_eq_true]
          go_enter Tryz.func56, Tryz.ntmps56
          go_wp2_with fail
          clear c6q
          have c1 := HB.out.cell (k := 1) rfl
          have c2 := HB.out.cell (k := 2) rfl
          have c3 := HB.out.cell (k := 3) rfl
          have c4 := HB.out.cell (k := 4) rfl
          have c5 := HB.out.cell (k := 5) rfl
          have c6 := HB.out.cell (k := 6) rfl
          obtain ⟨-, d1, d2, d3, d4, d5, d6⟩ := Blk.seven (p := ⟨pk, ⟨pvk, pvn, pvs⟩, false, false, false⟩) HW.out
          dsimp only at c1 c2 c3 c4 c5 c6 d1 d2 d3 d4 d5 d6
          go_quiet (fail)
          replace HB := Lib.hid (HB.out.low (below_drewN _ (w.alloc (.cells #[.string pk, .int .i64 pvk, .int .i64 pvn, .string pvs, .bool false, .bool false, .bool false] 31)) nq))
          replace HN := Lib.hid (HN.out.trans ((below_drewN _ (w.alloc (.cells #[.string pk, .int .i64 pvk, .int .i64 pvn, .string pvs, .bool false, .bool false, .bool false] 31)) nq).mono HN.out.size))
          replace HW := Lib.hid (HW.out.low (below_drewN _ (w.alloc (.cells #[.string pk, .int .i64 pvk, .int .i64 pvn, .string pvs, .bool false, .bool false, .bool false] 31)) nq))
          clear c1 c2 c3 c4 c5 c6 d1 d2 d3 d4 d5 d6
          generalize World.drewN (w.alloc (.cells #[.string pk, .int .i64 pvk, .int .i64 pvn, .string pvs, .bool false, .bool false, .bool false] 31)) nq = u2 at *
          go_wp2_with fail
          have c1 := HB.out.cell (k := 1) rfl
          have c2 := HB.out.cell (k := 2) rfl
          have c3 := HB.out.cell (k := 3) rfl
          have c4 := HB.out.cell (k := 4) rfl
          have c5 := HB.out.cell (k := 5) rfl
          have c6 := HB.out.cell (k := 6) rfl
          obtain ⟨-, d1, d2, d3, d4, d5, d6⟩ := Blk.seven (p := ⟨pk, ⟨pvk, pvn, pvs⟩, false, false, false⟩) HW.out
          dsimp only at c1 c2 c3 c4 c5 c6 d1 d2 d3 d4 d5 d6
          go_quiet (fail)
          replace HB := Lib.hid (HB.out.low (below_drewN _ u2 nq))
          replace HN := Lib.hid (HN.out.trans ((below_drewN _ u2 nq).mono HN.out.size))
          replace HW := Lib.hid (HW.out.low (below_drewN _ u2 nq))
          clear c1 c2 c3 c4 c5 c6 d1 d2 d3 d4 d5 d6
          generalize World.drewN u2 nq = u4 at *
          go_wp2_with fail
          refine bodyPost_ret (results_tmp rfl _ _ _) rfl ⟨rfl, HB.out, below_fr HN.out⟩
        ·have c6q : (w.alloc (.cells #[.string pk, .int .i64 pvk, .int .i64 pvn, .string pvs, .bool false, .bool false, .bool false] 31)).cell? ⟨b, 6, none⟩ = some (.bool false) := HB.out.cell (k := 6) rfl
         rw [show (decide _ : Bool) = true from decide_eq_true (by simp [e2])]
         simp only [if_true, if_false, Bool.false_eq_true]
         go_enter Tryz.func56, Tryz.ntmps56
         go_wp2_with fail
         clear c6q
         have c1 := HB.out.cell (k := 1) rfl
         have c2 := HB.out.cell (k := 2) rfl
         have c3 := HB.out.cell (k := 3) rfl
         have c4 := HB.out.cell (k := 4) rfl
         have c5 := HB.out.cell (k := 5) rfl
         have c6 := HB.out.cell (k := 6) rfl
         obtain ⟨-, d1, d2, d3, d4, d5, d6⟩ := Blk.seven (p := ⟨pk, ⟨pvk, pvn, pvs⟩, false, false, false⟩) HW.out
         dsimp only at c1 c2 c3 c4 c5 c6 d1 d2 d3 d4 d5 d6
         go_quiet (fail)
         replace HB := Lib.hid (HB.out.low (below_drewN _ (w.alloc (.cells #[.string pk, .int .i64 pvk, .int .i64 pvn, .string pvs, .bool false, .bool false, .bool false] 31)) nq))
         replace HN := Lib.hid (HN.out.trans ((below_drewN _ (w.alloc (.cells #[.string pk, .int .i64 pvk, .int .i64 pvn, .string pvs, .bool false, .bool false, .bool false] 31)) nq).mono HN.out.size))
         replace HW := Lib.hid (HW.out.low (below_drewN _ (w.alloc (.cells #[.string pk, .int .i64 pvk, .int .i64 pvn, .string pvs, .bool false, .bool false, .bool false] 31)) nq))
         clear c1 c2 c3 c4 c5 c6 d1 d2 d3 d4 d5 d6
         generalize World.drewN (w.alloc (.cells #[.string pk, .int .i64 pvk, .int .i64 pvn, .string pvs, .bool false, .bool false, .bool false] 31)) nq = u2 at *
         go_wp2_with fail
         have c1 := HB.out.cell (k := 1) rfl
         have c2 := HB.out.cell (k := 2) rfl
         have c3 := HB.out.cell (k := 3) rfl
         have c4 := HB.out.cell (k := 4) rfl
         have c5 := HB.out.cell (k := 5) rfl
         have c6 := HB.out.cell (k := 6) rfl
         obtain ⟨-, d1, d2, d3, d4, d5, d6⟩ := Blk.seven (p := ⟨pk, ⟨pvk, pvn, pvs⟩, false, false, false⟩) HW.out
         dsimp only at c1 c2 c3 c4 c5 c6 d1 d2 d3 d4 d5 d6
         go_quiet (fail)
         replace HB := Lib.hid (HB.out.low (below_drewN _ u2 nq))
         replace HN := Lib.hid (HN.out.trans ((below_drewN _ u2 nq).mono HN.out.size))
         replace HW := Lib.hid (HW.out.low (below_drewN _ u2 nq))
         clear c1 c2 c3 c4 c5 c6 d1 d2 d3 d4 d5 d6
         generalize World.drewN u2 nq = u4 at *
         go_wp2_with fail
         refine bodyPost_ret (results_tmp rfl _ _ _) rfl ⟨rfl, HB.out, below_fr HN.out⟩
       ·have c6q : (w.alloc (.cells #[.string pk, .int .i64 pvk, .int .i64 pvn, .string pvs, .bool false, .bool false, .bool false] 31)).cell? ⟨b, 6, none⟩ = some (.bool false) := HB.out.cell (k := 6) rfl
        rw [show (decide _ : Bool) = true from decide_eq_true (by simp [e1])]
        simp only [if_true, if_false, Bool.false_eq_true]
        go_enter Tryz.func56, Tryz.ntmps56
        go_wp2_with fail
        clear c6q
        have c1 := HB.out.cell (k := 1) rfl
        have c2 := HB.out.cell (k := 2) rfl
        have c3 := HB.out.cell (k := 3) rfl
        have c4 := HB.out.cell (k := 4) rfl
        have c5 := HB.out.cell (k := 5) rfl
        have c6 := HB.out.cell (k := 6) rfl
        obtain ⟨-, d1, d2, d3, d4, d5, d6⟩ := Blk.seven (p := ⟨pk, ⟨pvk, pvn, pvs⟩, false, false, false⟩) HW.out
        dsimp only at c1 c2 c3 c4 c5 c6 d1 d2 d3 d4 d5 d6
        go_quiet (fail)
        replace HB := Lib.hid (HB.out.low (below_drewN _ (w.alloc (.cells #[.string pk, .int .i64 pvk, .int .i64 pvn, .string pvs, .bool false, .bool false, .bool false] 31)) nq))
        replace HN := Lib.hid (HN.out.trans ((below_drewN _ (w.alloc (.cells #[.string pk, .int .i64 pvk, .int .i64 pvn, .string pvs, .bool false, .bool false, .bool false] 31)) nq).mono HN.out.size))
        replace HW := Lib.hid (HW.out.low (below_drewN _ (w.alloc (.cells #[.string pk, .int .i64 pvk, .int .i64 pvn, .string pvs, .bool false, .bool false, .bool false] 31)) nq))
        clear c1 c2 c3 c4 c5 c6 d1 d2 d3 d4 d5 d6
        generalize World.drewN (w.alloc (.cells #[.string pk, .int .i64 pvk, .int .i64 pvn, .string pvs, .bool false, .bool false, .bool false] 31)) nq = u2 at *
        go_wp2_with fail
        have c1 := HB.out.cell (k := 1) rfl
        have c2 := HB.out.cell (k := 2) rfl
        have c3 := HB.out.cell (k := 3) rfl
        have c4 := HB.out.cell (k := 4) rfl
        have c5 := HB.out.cell (k := 5) rfl
        have c6 := HB.out.cell (k := 6) rfl
        obtain ⟨-, d1, d2, d3, d4, d5, d6⟩ := Blk.seven (p := ⟨pk, ⟨pvk, pvn, pvs⟩, false, false, false⟩) HW.out
        dsimp only at c1 c2 c3 c4 c5 c6 d1 d2 d3 d4 d5 d6
        go_quiet (fail)
        replace HB := Lib.hid (HB.out.low (below_drewN _ u2 nq))
        replace HN := Lib.hid (HN.out.trans ((below_drewN _ u2 nq).mono HN.out.size))
        replace HW := Lib.hid (HW.out.low (below_drewN _ u2 nq))
        clear c1 c2 c3 c4 c5 c6 d1 d2 d3 d4 d5 d6
        generalize World.drewN u2 nq = u4 at *
        go_wp2_with fail
        refine bodyPost_ret (results_tmp rfl _ _ _) rfl ⟨rfl, HB.out, below_fr HN.out⟩
end Go.Proofs.YtcahijpbkjplmaaGreatDoor.G
