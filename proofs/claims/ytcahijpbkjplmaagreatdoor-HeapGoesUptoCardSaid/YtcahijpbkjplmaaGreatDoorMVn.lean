/-
 The reference's Own, by contract.
 The reference's find, Get, by contract.
 The reference's stands, Keys, by contract.
 The reference's Keys, a row of the call's own.
-/
import Derived.Test.YtcahijpbkjplmaaGreatDoorMKb
import Derived.Test.YtcahijpbkjplmaaGreatDoorMZ0
import Derived.Test.YtcahijpbkjplmaaGreatDoorMEe
import Derived.Test.YtcahijpbkjplmaaGreatDoorMFn
set_option linter.unusedSimpArgs false
namespace Go.Proofs.YtcahijpbkjplmaaGreatDoor.G
open Go.RowKit Go.Shelf Go.Maps Go.Lib Go.Proofs.YtcahijpbkjplmaaGreatDoor
theorem set7_new {w : World} {g : Nat} {T : TypeId} {a b c d e f i a' b' c' d' e' f' i' : Value} (h : Blk w g T [a', b', c', d', e', f', i']) :
  Blk (((((((w.setCell ⟨g, 0, none⟩ a).setCell ⟨g, 1, none⟩ b).setCell ⟨g, 2, none⟩ c).setCell ⟨g, 3, none⟩ d).setCell ⟨g, 4, none⟩ e).setCell ⟨g, 5, none⟩ f).setCell ⟨g, 6, none⟩ i) g T [a, b, c, d, e, f, i] := ((((((h.set 0 a).set 1 b).set 2 c).set 3 d).set 4 e).set 5 f).set 6 i
theorem set7_keep {w : World} {g B : Nat} {T : TypeId} {xs : List Value} {a b c d e f i : Value} (h : Blk w B T xs) (hne : g ≠ B) :
  Blk (((((((w.setCell ⟨g, 0, none⟩ a).setCell ⟨g, 1, none⟩ b).setCell ⟨g, 2, none⟩ c).setCell ⟨g, 3, none⟩ d).setCell ⟨g, 4, none⟩ e).setCell ⟨g, 5, none⟩ f).setCell ⟨g, 6, none⟩ i) B T xs :=
 ((((((h.other (p := ⟨g, 0, none⟩) (Ne.symm hne) a).other (p := ⟨g, 1, none⟩) (Ne.symm hne) b).other (p := ⟨g, 2, none⟩) (Ne.symm hne) c).other (p := ⟨g, 3, none⟩) (Ne.symm hne) d).other (p := ⟨g, 4, none⟩) (Ne.symm hne) e).other (p := ⟨g, 5, none⟩) (Ne.symm hne) f).other (p := ⟨g, 6, none⟩) (Ne.symm hne) i
theorem set7_below {w w0 : World} {B g : Nat} {a b c d e f i : Value} (h : Below B w0 w) (hg : B ≤ g) :
  Below B w0 (((((((w.setCell ⟨g, 0, none⟩ a).setCell ⟨g, 1, none⟩ b).setCell ⟨g, 2, none⟩ c).setCell ⟨g, 3, none⟩ d).setCell ⟨g, 4, none⟩ e).setCell ⟨g, 5, none⟩ f).setCell ⟨g, 6, none⟩ i) :=
 ((((((h.setCell (p := ⟨g, 0, none⟩) hg a).setCell (p := ⟨g, 1, none⟩) hg b).setCell (p := ⟨g, 2, none⟩) hg c).setCell (p := ⟨g, 3, none⟩) hg d).setCell (p := ⟨g, 4, none⟩) hg e).setCell (p := ⟨g, 5, none⟩) hg f).setCell (p := ⟨g, 6, none⟩) hg i
theorem set8_below {w w0 : World} {B g : Nat} {a b c d e f i j : Value} (h : Below B w0 w) (hg : B ≤ g) :
  Below B w0 ((((((((w.setCell ⟨g, 0, none⟩ a).setCell ⟨g, 1, none⟩ b).setCell ⟨g, 2, none⟩ c).setCell ⟨g, 3, none⟩ d).setCell ⟨g, 4, none⟩ e).setCell ⟨g, 5, none⟩ f).setCell ⟨g, 6, none⟩ i).setCell ⟨g, 7, none⟩ j) := (set7_below h hg).setCell (p := ⟨g, 7, none⟩) hg j
theorem set8_keep {w : World} {g B : Nat} {T : TypeId} {xs : List Value} {a b c d e f i j : Value} (h : Blk w B T xs) (hne : g ≠ B) :
  Blk ((((((((w.setCell ⟨g, 0, none⟩ a).setCell ⟨g, 1, none⟩ b).setCell ⟨g, 2, none⟩ c).setCell ⟨g, 3, none⟩ d).setCell ⟨g, 4, none⟩ e).setCell ⟨g, 5, none⟩ f).setCell ⟨g, 6, none⟩ i).setCell ⟨g, 7, none⟩ j) B T xs := (set7_keep h hne).other (p := ⟨g, 7, none⟩) (Ne.symm hne) j
theorem set8_new {w : World} {g : Nat} {T : TypeId} {a b c d e f i j a' b' c' d' e' f' i' j' : Value} (h : Blk w g T [a', b', c', d', e', f', i', j']) :
  Blk ((((((((w.setCell ⟨g, 0, none⟩ a).setCell ⟨g, 1, none⟩ b).setCell ⟨g, 2, none⟩ c).setCell ⟨g, 3, none⟩ d).setCell ⟨g, 4, none⟩ e).setCell ⟨g, 5, none⟩ f).setCell ⟨g, 6, none⟩ i).setCell ⟨g, 7, none⟩ j) g T [a, b, c, d, e, f, i, j] := (((((((h.set 0 a).set 1 b).set 2 c).set 3 d).set 4 e).set 5 f).set 6 i).set 7 j
theorem set7_cell {w : World} {g : Nat} {a b c d e f i : Value} {p : Addr} (hp : p.block ≠ g) :
  (((((((w.setCell ⟨g, 0, none⟩ a).setCell ⟨g, 1, none⟩ b).setCell ⟨g, 2, none⟩ c).setCell ⟨g, 3, none⟩ d).setCell ⟨g, 4, none⟩ e).setCell ⟨g, 5, none⟩ f).setCell ⟨g, 6, none⟩ i).cell? p = w.cell? p := by
 have hk : ∀ (w : World) (j : Nat) (u : Value), (w.setCell ⟨g, j, none⟩ u).cell? p = w.cell? p := fun w j u => World.cell?_of_block (w := w) (a := p) (Below.heap_setCell _ _ _ _ hp)
 rw [hk, hk, hk, hk, hk, hk, hk]
def ob0 : List Value := [.string ⟨#[]⟩, .int .i64 0, .int .i64 0, .string ⟨#[]⟩, .slice none 0 0, .bool false, .int .i64 0, .bool false]
theorem ro_cells {w : World} {A i n : Nat} {o : Ob} {gb cap : Nat} {rr : Value} (h : RO w A i n o gb cap rr) : (w.cell? ⟨gb, i * 8, none⟩ = some (.string o.cls) ∧ w.cell? ⟨gb, i * 8 + 1, none⟩ = some (.int .i64 (refO o.proto).k) ∧ w.cell? ⟨gb, i * 8 + 2, none⟩ = some (.int .i64 (refO o.proto).n) ∧ w.cell? ⟨gb, i * 8 + 3, none⟩ = some (.string (refO o.proto).s) ∧ w.cell? ⟨gb, i * 8 + 4, none⟩ = some rr ∧ w.cell? ⟨gb, i * 8 + 5, none⟩ = some (.bool o.closed) ∧ w.cell? ⟨gb, i * 8 + 6, none⟩ = some (.int .i64 (o.len : Int)) ∧ w.cell? ⟨gb, i * 8 + 7, none⟩ = some (.bool o.lw)) := ⟨h.cell 0 _ rfl, h.cell 1 _ rfl, h.cell 2 _ rfl, h.cell 3 _ rfl, h.cell 4 _ rfl, h.cell 5 _ rfl, h.cell 6 _ rfl, h.cell 7 _ rfl⟩
section
variable {w w' : World} {ow : Nat → Option Nat} {A i : Nat} {H : Hs} {R : List Value} {o : Ob}
theorem propR_some {key : ByteArray} {k : Nat} (h : o.ps.findIdx? (has key) = some k) : propR (some o) key = (k : Int) := by
 unfold propR
 dsimp only
 rw [h]
theorem propR_none {key : ByteArray} (h : o.ps.findIdx? (has key) = none) : propR (some o) key = -1 := by
 unfold propR
 dsimp only
 rw [h]
theorem ownV_is {v : Vl} {key : ByteArray} (h : H.obj v = some o) : H.ownV v key = if (decide (o.cls = AR) && decide (key = LK)) = true then some (o.lenP LK) else o.ps.find? (has key) := by
 unfold Hs.ownV
 rw [h]
 rfl
set_option maxRecDepth 8000 in
set_option maxHeartbeats 2000000 in
theorem rown_any (h : RH w A H ow R) (g : Gd H) (v : Vl) (key : ByteArray) (hs : key.size ≤ 16777216) :
  Calls Tryz.prog 39 #[pv A, v.v, .string key] w fun e w' => e = .returned (ownR (H.ownV v key)) ∧ Below w.heap.size w w' := by
 have hl := g.os100
 cases hat : H.at v with
 | none =>
  have e1 : H.ownV v key = none := by unfold Hs.ownV; rw [obj_none hat]; rfl
  rw [e1]
  exact rown_none h v key hl hat
 | some i =>
  obtain ⟨o, ho⟩ : ∃ o, H.os[i]? = some o := ⟨H.os[i]'(at_lt hat), List.getElem?_eq_getElem (at_lt hat)⟩
  have hi := at_lt hat
  have hob := obj_some hat ho
  obtain ⟨W0, eW, hr0, hr1, hb0⟩ := two_new w 29 31 v.cs pr0.cs
  have HB := Lib.hid hb0
  have HW := Lib.hid eW
  have HV := Lib.hid hr0
  have HP := Lib.hid hr1
  have HL := Lib.hid (rislen_any (h.low hb0) v key hl)
  rw [hob, show (decide (clsR (some o) = AR) && decide (key = LK)) = (decide (o.cls = AR) && decide (key = LK)) from rfl] at HL
  have HH := Lib.hid (h.low hb0)
  have HT := Lib.hid fun w' (hb : Below W0.heap.size W0 w') => rat_any (HH.out.low hb) v hl
  rw [hat] at HT
  have HPR := Lib.hid fun w' (hb : Below W0.heap.size W0 w') => rprop_any (HH.out.low hb) g v key hs
  rw [hob] at HPR
  obtain ⟨gb, cap, rr, hro, hcap, hrr, -⟩ := (h.low hb0).ro ho
  have HRO := Lib.hid hro
  have HPW := Lib.hid ((h.low hb0).prow ho hrr)
  have hAl : A < w.heap.size := by obtain ⟨ov, hov, -, -⟩ := h.hb; exact hov.lt
  have hgb : gb < w.heap.size := by obtain ⟨g1, c1, r1, hro1, -, -, hg1⟩ := h.ro ho; have e1 := (hro1.low hb0).c0.symm.trans hro.c0; injection e1 with e1; injection e1 with e1; injection e1 with e1; injection e1 with e1; rw [← e1]; exact hro1.lg
  have HPW1 := Lib.hid (h.prow ho hrr)
  have hii : (i : Int) < (H.os.length : Int) := by omega
  have hpl : o.ps.length ≤ 100000 := Nat.le_trans (g.og i o ho).l g.n100
  have HOV := Lib.hid (ownV_is (key := key) hob)
  obtain ⟨rv, HRV⟩ : ∃ rv, Hid (H.ownV v key = rv) := ⟨_, rfl⟩
  rw [HRV.out] at HOV ⊢
  clear h g hs hb0 hat hob ho hro hrr hr0 hr1 eW HRV hl
  obtain ⟨vk, vn, vs⟩ := v
  simp only [Vl.v, Vl.cs, atI, Pr.cs, pr0] at HB HL HT HH HV HP HRO HPR HW ⊢
  cases hb : (decide (o.cls = AR) && decide (key = LK)) with
  | true =>
   rw [hb] at HL HOV
   have HKL := Lib.hid (of_decide_eq_true (p := key = LK) (Bool.and_eq_true_iff.1 hb).2)
   clear hb
   have HOW : Hid (rv = some (o.lenP LK)) := HOV.out.trans (if_pos rfl)
   clear HOV
   go_enter Tryz.func39, Tryz.ntmps39
   go_wp2_with fail
   rw [HW.out]
   refine HL.out.mono ?_
   rintro e w1 ⟨rfl, hb⟩
   have hb2 := hb.drew
   have HB2 := Lib.hid hb2
   have hs2 : (fun w' : World => (w'.cell? ⟨w.heap.size, 0, none⟩ = some (.int .i64 vk) ∧ w'.cell? ⟨w.heap.size, 1, none⟩ = some (.int .i64 vn) ∧ w'.cell? ⟨w.heap.size, 2, none⟩ = some (.string vs)) ∧ w'.cell? ⟨A, 0, none⟩ = some (.slice (some ⟨gb, 0, none⟩) H.os.length cap) ∧ (w'.cell? ⟨gb, i * 8, none⟩ = some (.string o.cls) ∧ w'.cell? ⟨gb, i * 8 + 1, none⟩ = some (.int .i64 (refO o.proto).k) ∧ w'.cell? ⟨gb, i * 8 + 2, none⟩ = some (.int .i64 (refO o.proto).n) ∧ w'.cell? ⟨gb, i * 8 + 3, none⟩ = some (.string (refO o.proto).s) ∧ w'.cell? ⟨gb, i * 8 + 4, none⟩ = some rr ∧ w'.cell? ⟨gb, i * 8 + 5, none⟩ = some (.bool o.closed) ∧ w'.cell? ⟨gb, i * 8 + 6, none⟩ = some (.int .i64 (o.len : Int)) ∧ w'.cell? ⟨gb, i * 8 + 7, none⟩ = some (.bool o.lw))) w1.drew := ⟨Blk.three (v := ⟨vk, vn, vs⟩) (HV.out.low hb2), (HRO.out.low hb2).c0, ro_cells (HRO.out.low hb2)⟩
   dsimp only at hs2
   have HP2 := Lib.hid (HP.out.low hb2)
   clear hb hb2 HL
   go_wp2_with fail
   refine wp_region_held_drew (S := (fun w' : World => (w'.cell? ⟨w.heap.size, 0, none⟩ = some (.int .i64 vk) ∧ w'.cell? ⟨w.heap.size, 1, none⟩ = some (.int .i64 vn) ∧ w'.cell? ⟨w.heap.size, 2, none⟩ = some (.string vs)) ∧ w'.cell? ⟨A, 0, none⟩ = some (.slice (some ⟨gb, 0, none⟩) H.os.length cap) ∧ (w'.cell? ⟨gb, i * 8, none⟩ = some (.string o.cls) ∧ w'.cell? ⟨gb, i * 8 + 1, none⟩ = some (.int .i64 (refO o.proto).k) ∧ w'.cell? ⟨gb, i * 8 + 2, none⟩ = some (.int .i64 (refO o.proto).n) ∧ w'.cell? ⟨gb, i * 8 + 3, none⟩ = some (.string (refO o.proto).s) ∧ w'.cell? ⟨gb, i * 8 + 4, none⟩ = some rr ∧ w'.cell? ⟨gb, i * 8 + 5, none⟩ = some (.bool o.closed) ∧ w'.cell? ⟨gb, i * 8 + 6, none⟩ = some (.int .i64 (o.len : Int)) ∧ w'.cell? ⟨gb, i * 8 + 7, none⟩ = some (.bool o.lw)))) (by kernel_rfl) (hs2) (fun hHeld0 => ?_)
   generalize w1.drew = w2 at *
   clear hs2
   refine tk 0 ?_ ‹_› ?_ ?_; rotate_left; focus (intro w0 hSw; obtain ⟨⟨e0, e1, e2⟩, e3, ⟨f0, f1, f2, f3, f4, f5, f6, f7⟩⟩ := hSw; go_simp; try with_reducible rfl)
   refine tk 1 ?_ ‹_› ?_ ?_; rotate_left; focus (intro w0 hSw; obtain ⟨⟨e0, e1, e2⟩, e3, ⟨f0, f1, f2, f3, f4, f5, f6, f7⟩⟩ := hSw; go_simp; try with_reducible rfl)
   refine tk 2 ?_ ‹_› ?_ ?_; rotate_left; focus (intro w0 hSw; obtain ⟨⟨e0, e1, e2⟩, e3, ⟨f0, f1, f2, f3, f4, f5, f6, f7⟩⟩ := hSw; go_simp; try with_reducible rfl)
   refine tk 3 ?_ ‹_› ?_ ?_; rotate_left; focus (intro w0 hSw; obtain ⟨⟨e0, e1, e2⟩, e3, ⟨f0, f1, f2, f3, f4, f5, f6, f7⟩⟩ := hSw; go_simp; try with_reducible rfl)
   refine tk 4 ?_ ‹_› ?_ ?_; rotate_left; focus (intro w0 hSw; obtain ⟨⟨e0, e1, e2⟩, e3, ⟨f0, f1, f2, f3, f4, f5, f6, f7⟩⟩ := hSw; go_simp; try with_reducible rfl)
   refine tk 5 ?_ ‹_› ?_ ?_; rotate_left; focus (intro w0 hSw; obtain ⟨⟨e0, e1, e2⟩, e3, ⟨f0, f1, f2, f3, f4, f5, f6, f7⟩⟩ := hSw; go_simp; try with_reducible rfl)
   try simp only [PT]
   refine wpAnyH_ready (rs := [6, 9]) (by decide +kernel) (by simp) (AllReadyH.cons rfl (fun K hK => ?_) (AllReadyH.cons rfl (fun K hK => ?_) AllReadyH.nil))
   ·
    go_simp
    refine (HT.out _ HB2.out).mono ?_
    rintro e w3 ⟨rfl, hb⟩
    have HB3 := Lib.hid (HB2.out.trans (hb.mono HB2.out.size))
    have HP3 := Lib.hid (HP2.out.low hb)
    have hs3 : (fun w' : World => (w'.cell? ⟨w.heap.size, 0, none⟩ = some (.int .i64 vk) ∧ w'.cell? ⟨w.heap.size, 1, none⟩ = some (.int .i64 vn) ∧ w'.cell? ⟨w.heap.size, 2, none⟩ = some (.string vs)) ∧ w'.cell? ⟨A, 0, none⟩ = some (.slice (some ⟨gb, 0, none⟩) H.os.length cap) ∧ (w'.cell? ⟨gb, i * 8, none⟩ = some (.string o.cls) ∧ w'.cell? ⟨gb, i * 8 + 1, none⟩ = some (.int .i64 (refO o.proto).k) ∧ w'.cell? ⟨gb, i * 8 + 2, none⟩ = some (.int .i64 (refO o.proto).n) ∧ w'.cell? ⟨gb, i * 8 + 3, none⟩ = some (.string (refO o.proto).s) ∧ w'.cell? ⟨gb, i * 8 + 4, none⟩ = some rr ∧ w'.cell? ⟨gb, i * 8 + 5, none⟩ = some (.bool o.closed) ∧ w'.cell? ⟨gb, i * 8 + 6, none⟩ = some (.int .i64 (o.len : Int)) ∧ w'.cell? ⟨gb, i * 8 + 7, none⟩ = some (.bool o.lw))) w3 := ⟨Blk.three (v := ⟨vk, vn, vs⟩) (HV.out.low HB3.out), (HRO.out.low HB3.out).c0, ro_cells (HRO.out.low HB3.out)⟩
    dsimp only at hs3
    clear hb HB2 HP2
    refine hK.out _ _ hs3 (fun hHeld1 => ?_)
    clear hK K hHeld0 
    try simp only [PT]
    refine tk 7 ?_ ‹_› ?_ ?_; rotate_left; focus (intro w0 hSw; obtain ⟨⟨e0, e1, e2⟩, e3, ⟨f0, f1, f2, f3, f4, f5, f6, f7⟩⟩ := hSw; go_simp; try with_reducible rfl)
    refine tk 8 ?_ ‹_› ?_ ?_; rotate_left; focus (intro w0 hSw; obtain ⟨⟨e0, e1, e2⟩, e3, ⟨f0, f1, f2, f3, f4, f5, f6, f7⟩⟩ := hSw; go_simp; try with_reducible rfl)
    try simp only [PT]
    refine wpAnyH_ready (rs := [9]) (by decide +kernel) (by simp) (AllReadyH.cons rfl (fun K hK => ?_) AllReadyH.nil)
    go_simp
    have hb := below_new w3 (.cells ob0.toArray 73)
    simp only [ob0] at hb
    have HBx := Lib.hid (HB3.out.trans (hb.mono HB3.out.size))
    have HPx := Lib.hid (HP3.out.low hb)
    have HZx : Hid (Blk (w3.alloc (.cells #[.string ⟨#[]⟩, .int .i64 0, .int .i64 0, .string ⟨#[]⟩, .slice none 0 0, .bool false, .int .i64 0, .bool false] 73)) w3.heap.size 73 ob0) := Blk.new w3 73 ob0
    have HZW : Hid (W0.heap.size ≤ w3.heap.size) := HB3.out.size
    generalize w3.heap.size = z at *
    generalize (w3.alloc (.cells #[.string ⟨#[]⟩, .int .i64 0, .int .i64 0, .string ⟨#[]⟩, .slice none 0 0, .bool false, .int .i64 0, .bool false] 73)) = w4 at *
    have HB4 := HBx
    have HP4 := HPx
    have HZ4 := HZx
    clear HBx HPx HZx
    have hs4 : (fun w' : World => (w'.cell? ⟨w.heap.size, 0, none⟩ = some (.int .i64 vk) ∧ w'.cell? ⟨w.heap.size, 1, none⟩ = some (.int .i64 vn) ∧ w'.cell? ⟨w.heap.size, 2, none⟩ = some (.string vs)) ∧ w'.cell? ⟨A, 0, none⟩ = some (.slice (some ⟨gb, 0, none⟩) H.os.length cap) ∧ (w'.cell? ⟨gb, i * 8, none⟩ = some (.string o.cls) ∧ w'.cell? ⟨gb, i * 8 + 1, none⟩ = some (.int .i64 (refO o.proto).k) ∧ w'.cell? ⟨gb, i * 8 + 2, none⟩ = some (.int .i64 (refO o.proto).n) ∧ w'.cell? ⟨gb, i * 8 + 3, none⟩ = some (.string (refO o.proto).s) ∧ w'.cell? ⟨gb, i * 8 + 4, none⟩ = some rr ∧ w'.cell? ⟨gb, i * 8 + 5, none⟩ = some (.bool o.closed) ∧ w'.cell? ⟨gb, i * 8 + 6, none⟩ = some (.int .i64 (o.len : Int)) ∧ w'.cell? ⟨gb, i * 8 + 7, none⟩ = some (.bool o.lw))) w4 := ⟨Blk.three (v := ⟨vk, vn, vs⟩) (HV.out.low HB4.out), (HRO.out.low HB4.out).c0, ro_cells (HRO.out.low HB4.out)⟩
    dsimp only at hs4
    clear hb HB3 HP3
    refine hK.out _ _ hs4 (fun hHeld2 => ?_)
    clear hK K hHeld1 
    try simp only [PT]
    obtain ⟨rA, rc, hre, -, -⟩ := HPW.out
    subst hre
    refine wpAnyH_ready (rs := [10]) (by decide +kernel) (by simp) (AllReadyH.cons rfl (fun K hK => ?_) AllReadyH.nil)
    have zc := fun (j : Nat) (u : Value) (hj : ob0[j]? = some u) => HZ4.out.cell hj
    have z0 := zc 0 _ rfl
    have z1 := zc 1 _ rfl
    have z2 := zc 2 _ rfl
    have z3 := zc 3 _ rfl
    have z4 := zc 4 _ rfl
    have z5 := zc 5 _ rfl
    have z6 := zc 6 _ rfl
    have z7 := zc 7 _ rfl
    have zf := HZ4.out.fz
    clear zc
    go_simp
    have HBx := Lib.hid (set8_below (a := .string o.cls) (b := .int .i64 (refO o.proto).k) (c := .int .i64 (refO o.proto).n) (d := .string (refO o.proto).s) (e := .slice rA o.ps.length rc) (f := .bool o.closed) (i := .int .i64 (o.len : Int)) (j := .bool o.lw) HB4.out HZW.out)
    have HZx := Lib.hid (set8_new (a := .string o.cls) (b := .int .i64 (refO o.proto).k) (c := .int .i64 (refO o.proto).n) (d := .string (refO o.proto).s) (e := .slice rA o.ps.length rc) (f := .bool o.closed) (i := .int .i64 (o.len : Int)) (j := .bool o.lw) HZ4.out)
    have HPx := Lib.hid (set8_keep (a := .string o.cls) (b := .int .i64 (refO o.proto).k) (c := .int .i64 (refO o.proto).n) (d := .string (refO o.proto).s) (e := .slice rA o.ps.length rc) (f := .bool o.closed) (i := .int .i64 (o.len : Int)) (j := .bool o.lw) HP4.out (by have := HP.out.lt; have := HZW.out; omega : z ≠ w.heap.size + 1))
    generalize ((((((((w4.setCell ⟨z, 0, none⟩ (.string o.cls)).setCell ⟨z, 1, none⟩ (.int .i64 (refO o.proto).k)).setCell ⟨z, 2, none⟩ (.int .i64 (refO o.proto).n)).setCell ⟨z, 3, none⟩ (.string (refO o.proto).s)).setCell ⟨z, 4, none⟩ (.slice rA o.ps.length rc)).setCell ⟨z, 5, none⟩ (.bool o.closed)).setCell ⟨z, 6, none⟩ (.int .i64 (o.len : Int))).setCell ⟨z, 7, none⟩ (.bool o.lw)) = w5 at *
    have HB5 := HBx
    have HP5 := HPx
    have HZ5 := HZx
    clear HBx HPx HZx z0 z1 z2 z3 z4 z5 z6 z7 zf
    have hs5 : (fun w' : World => (w'.cell? ⟨w.heap.size, 0, none⟩ = some (.int .i64 vk) ∧ w'.cell? ⟨w.heap.size, 1, none⟩ = some (.int .i64 vn) ∧ w'.cell? ⟨w.heap.size, 2, none⟩ = some (.string vs)) ∧ w'.cell? ⟨A, 0, none⟩ = some (.slice (some ⟨gb, 0, none⟩) H.os.length cap) ∧ (w'.cell? ⟨gb, i * 8, none⟩ = some (.string o.cls) ∧ w'.cell? ⟨gb, i * 8 + 1, none⟩ = some (.int .i64 (refO o.proto).k) ∧ w'.cell? ⟨gb, i * 8 + 2, none⟩ = some (.int .i64 (refO o.proto).n) ∧ w'.cell? ⟨gb, i * 8 + 3, none⟩ = some (.string (refO o.proto).s) ∧ w'.cell? ⟨gb, i * 8 + 4, none⟩ = some (.slice rA o.ps.length rc) ∧ w'.cell? ⟨gb, i * 8 + 5, none⟩ = some (.bool o.closed) ∧ w'.cell? ⟨gb, i * 8 + 6, none⟩ = some (.int .i64 (o.len : Int)) ∧ w'.cell? ⟨gb, i * 8 + 7, none⟩ = some (.bool o.lw))) w5 := ⟨Blk.three (v := ⟨vk, vn, vs⟩) (HV.out.low HB5.out), (HRO.out.low HB5.out).c0, ro_cells (HRO.out.low HB5.out)⟩
    dsimp only at hs5
    refine hK.out _ _ hs5 (fun hHeld3 => ?_)
    clear hK K hHeld2 
    try simp only [PT]
    refine wpAnyH_done (by kernel_rfl) ?_ _
    clear hHeld3 hs5
    have zc := fun (j : Nat) (u : Value) (hj : ([.string o.cls, .int .i64 (refO o.proto).k, .int .i64 (refO o.proto).n, .string (refO o.proto).s, .slice rA o.ps.length rc, .bool o.closed, .int .i64 (o.len : Int), .bool o.lw] : List Value)[j]? = some u) => HZ5.out.cell hj
    have z6 := zc 6 _ rfl
    have z7 := zc 7 _ rfl
    obtain ⟨d0, d1, d2, d3, d4, d5, d6⟩ := Blk.seven (p := pr0) HP5.out
    have zf := HP5.out.fz
    dsimp only [pr0] at d0 d1 d2 d3 d4 d5 d6
    clear zc
    go_wp2_with fail
    refine bodyPost_ret (res_pt rfl _ _ (w.heap.size + 1) ⟨key, ⟨3, (o.len : Int), ⟨#[]⟩⟩, o.lw, false, false⟩ _ (by rfl) (by rfl) (set7_new HP5.out)) rfl ⟨by rw [HOW.out, HKL.out]; rfl, set7_below (HB.out.trans (HB5.out.mono HB.out.size)) (Nat.le_succ _)⟩
   ·
    go_simp
    have hb := below_new w2 (.cells ob0.toArray 73)
    simp only [ob0] at hb
    have HBx := Lib.hid (HB2.out.trans (hb.mono HB2.out.size))
    have HPx := Lib.hid (HP2.out.low hb)
    have HZx : Hid (Blk (w2.alloc (.cells #[.string ⟨#[]⟩, .int .i64 0, .int .i64 0, .string ⟨#[]⟩, .slice none 0 0, .bool false, .int .i64 0, .bool false] 73)) w2.heap.size 73 ob0) := Blk.new w2 73 ob0
    have HZW : Hid (W0.heap.size ≤ w2.heap.size) := HB2.out.size
    generalize w2.heap.size = z at *
    generalize (w2.alloc (.cells #[.string ⟨#[]⟩, .int .i64 0, .int .i64 0, .string ⟨#[]⟩, .slice none 0 0, .bool false, .int .i64 0, .bool false] 73)) = w3 at *
    have HB3 := HBx
    have HP3 := HPx
    have HZ3 := HZx
    clear HBx HPx HZx
    have hs3 : (fun w' : World => (w'.cell? ⟨w.heap.size, 0, none⟩ = some (.int .i64 vk) ∧ w'.cell? ⟨w.heap.size, 1, none⟩ = some (.int .i64 vn) ∧ w'.cell? ⟨w.heap.size, 2, none⟩ = some (.string vs)) ∧ w'.cell? ⟨A, 0, none⟩ = some (.slice (some ⟨gb, 0, none⟩) H.os.length cap) ∧ (w'.cell? ⟨gb, i * 8, none⟩ = some (.string o.cls) ∧ w'.cell? ⟨gb, i * 8 + 1, none⟩ = some (.int .i64 (refO o.proto).k) ∧ w'.cell? ⟨gb, i * 8 + 2, none⟩ = some (.int .i64 (refO o.proto).n) ∧ w'.cell? ⟨gb, i * 8 + 3, none⟩ = some (.string (refO o.proto).s) ∧ w'.cell? ⟨gb, i * 8 + 4, none⟩ = some rr ∧ w'.cell? ⟨gb, i * 8 + 5, none⟩ = some (.bool o.closed) ∧ w'.cell? ⟨gb, i * 8 + 6, none⟩ = some (.int .i64 (o.len : Int)) ∧ w'.cell? ⟨gb, i * 8 + 7, none⟩ = some (.bool o.lw))) w3 := ⟨Blk.three (v := ⟨vk, vn, vs⟩) (HV.out.low HB3.out), (HRO.out.low HB3.out).c0, ro_cells (HRO.out.low HB3.out)⟩
    dsimp only at hs3
    clear hb HB2 HP2
    refine hK.out _ _ hs3 (fun hHeld1 => ?_)
    clear hK K hHeld0 
    try simp only [PT]
    refine wpAnyH_ready (rs := [6]) (by decide +kernel) (by simp) (AllReadyH.cons rfl (fun K hK => ?_) AllReadyH.nil)
    go_simp
    refine (HT.out _ HB3.out).mono ?_
    rintro e w4 ⟨rfl, hb⟩
    have HB4 := Lib.hid (HB3.out.trans (hb.mono HB3.out.size))
    have HP4 := Lib.hid (HP3.out.low hb)
    have HZ4 := Lib.hid (HZ3.out.low hb)
    have hs4 : (fun w' : World => (w'.cell? ⟨w.heap.size, 0, none⟩ = some (.int .i64 vk) ∧ w'.cell? ⟨w.heap.size, 1, none⟩ = some (.int .i64 vn) ∧ w'.cell? ⟨w.heap.size, 2, none⟩ = some (.string vs)) ∧ w'.cell? ⟨A, 0, none⟩ = some (.slice (some ⟨gb, 0, none⟩) H.os.length cap) ∧ (w'.cell? ⟨gb, i * 8, none⟩ = some (.string o.cls) ∧ w'.cell? ⟨gb, i * 8 + 1, none⟩ = some (.int .i64 (refO o.proto).k) ∧ w'.cell? ⟨gb, i * 8 + 2, none⟩ = some (.int .i64 (refO o.proto).n) ∧ w'.cell? ⟨gb, i * 8 + 3, none⟩ = some (.string (refO o.proto).s) ∧ w'.cell? ⟨gb, i * 8 + 4, none⟩ = some rr ∧ w'.cell? ⟨gb, i * 8 + 5, none⟩ = some (.bool o.closed) ∧ w'.cell? ⟨gb, i * 8 + 6, none⟩ = some (.int .i64 (o.len : Int)) ∧ w'.cell? ⟨gb, i * 8 + 7, none⟩ = some (.bool o.lw))) w4 := ⟨Blk.three (v := ⟨vk, vn, vs⟩) (HV.out.low HB4.out), (HRO.out.low HB4.out).c0, ro_cells (HRO.out.low HB4.out)⟩
    dsimp only at hs4
    clear hb HB3 HP3 HZ3
    refine hK.out _ _ hs4 (fun hHeld2 => ?_)
    clear hK K hHeld1 
    try simp only [PT]
    refine tk 7 ?_ ‹_› ?_ ?_; rotate_left; focus (intro w0 hSw; obtain ⟨⟨e0, e1, e2⟩, e3, ⟨f0, f1, f2, f3, f4, f5, f6, f7⟩⟩ := hSw; go_simp; try with_reducible rfl)
    refine tk 8 ?_ ‹_› ?_ ?_; rotate_left; focus (intro w0 hSw; obtain ⟨⟨e0, e1, e2⟩, e3, ⟨f0, f1, f2, f3, f4, f5, f6, f7⟩⟩ := hSw; go_simp; try with_reducible rfl)
    try simp only [PT]
    obtain ⟨rA, rc, hre, -, -⟩ := HPW.out
    subst hre
    refine wpAnyH_ready (rs := [10]) (by decide +kernel) (by simp) (AllReadyH.cons rfl (fun K hK => ?_) AllReadyH.nil)
    have zc := fun (j : Nat) (u : Value) (hj : ob0[j]? = some u) => HZ4.out.cell hj
    have z0 := zc 0 _ rfl
    have z1 := zc 1 _ rfl
    have z2 := zc 2 _ rfl
    have z3 := zc 3 _ rfl
    have z4 := zc 4 _ rfl
    have z5 := zc 5 _ rfl
    have z6 := zc 6 _ rfl
    have z7 := zc 7 _ rfl
    have zf := HZ4.out.fz
    clear zc
    go_simp
    have HBx := Lib.hid (set8_below (a := .string o.cls) (b := .int .i64 (refO o.proto).k) (c := .int .i64 (refO o.proto).n) (d := .string (refO o.proto).s) (e := .slice rA o.ps.length rc) (f := .bool o.closed) (i := .int .i64 (o.len : Int)) (j := .bool o.lw) HB4.out HZW.out)
    have HZx := Lib.hid (set8_new (a := .string o.cls) (b := .int .i64 (refO o.proto).k) (c := .int .i64 (refO o.proto).n) (d := .string (refO o.proto).s) (e := .slice rA o.ps.length rc) (f := .bool o.closed) (i := .int .i64 (o.len : Int)) (j := .bool o.lw) HZ4.out)
    have HPx := Lib.hid (set8_keep (a := .string o.cls) (b := .int .i64 (refO o.proto).k) (c := .int .i64 (refO o.proto).n) (d := .string (refO o.proto).s) (e := .slice rA o.ps.length rc) (f := .bool o.closed) (i := .int .i64 (o.len : Int)) (j := .bool o.lw) HP4.out (by have := HP.out.lt; have := HZW.out; omega : z ≠ w.heap.size + 1))
    generalize ((((((((w4.setCell ⟨z, 0, none⟩ (.string o.cls)).setCell ⟨z, 1, none⟩ (.int .i64 (refO o.proto).k)).setCell ⟨z, 2, none⟩ (.int .i64 (refO o.proto).n)).setCell ⟨z, 3, none⟩ (.string (refO o.proto).s)).setCell ⟨z, 4, none⟩ (.slice rA o.ps.length rc)).setCell ⟨z, 5, none⟩ (.bool o.closed)).setCell ⟨z, 6, none⟩ (.int .i64 (o.len : Int))).setCell ⟨z, 7, none⟩ (.bool o.lw)) = w5 at *
    have HB5 := HBx
    have HP5 := HPx
    have HZ5 := HZx
    clear HBx HPx HZx z0 z1 z2 z3 z4 z5 z6 z7 zf
    have hs5 : (fun w' : World => (w'.cell? ⟨w.heap.size, 0, none⟩ = some (.int .i64 vk) ∧ w'.cell? ⟨w.heap.size, 1, none⟩ = some (.int .i64 vn) ∧ w'.cell? ⟨w.heap.size, 2, none⟩ = some (.string vs)) ∧ w'.cell? ⟨A, 0, none⟩ = some (.slice (some ⟨gb, 0, none⟩) H.os.length cap) ∧ (w'.cell? ⟨gb, i * 8, none⟩ = some (.string o.cls) ∧ w'.cell? ⟨gb, i * 8 + 1, none⟩ = some (.int .i64 (refO o.proto).k) ∧ w'.cell? ⟨gb, i * 8 + 2, none⟩ = some (.int .i64 (refO o.proto).n) ∧ w'.cell? ⟨gb, i * 8 + 3, none⟩ = some (.string (refO o.proto).s) ∧ w'.cell? ⟨gb, i * 8 + 4, none⟩ = some (.slice rA o.ps.length rc) ∧ w'.cell? ⟨gb, i * 8 + 5, none⟩ = some (.bool o.closed) ∧ w'.cell? ⟨gb, i * 8 + 6, none⟩ = some (.int .i64 (o.len : Int)) ∧ w'.cell? ⟨gb, i * 8 + 7, none⟩ = some (.bool o.lw))) w5 := ⟨Blk.three (v := ⟨vk, vn, vs⟩) (HV.out.low HB5.out), (HRO.out.low HB5.out).c0, ro_cells (HRO.out.low HB5.out)⟩
    dsimp only at hs5
    refine hK.out _ _ hs5 (fun hHeld3 => ?_)
    clear hK K hHeld2 
    try simp only [PT]
    refine wpAnyH_done (by kernel_rfl) ?_ _
    clear hHeld3 hs5
    have zc := fun (j : Nat) (u : Value) (hj : ([.string o.cls, .int .i64 (refO o.proto).k, .int .i64 (refO o.proto).n, .string (refO o.proto).s, .slice rA o.ps.length rc, .bool o.closed, .int .i64 (o.len : Int), .bool o.lw] : List Value)[j]? = some u) => HZ5.out.cell hj
    have z6 := zc 6 _ rfl
    have z7 := zc 7 _ rfl
    obtain ⟨d0, d1, d2, d3, d4, d5, d6⟩ := Blk.seven (p := pr0) HP5.out
    have zf := HP5.out.fz
    dsimp only [pr0] at d0 d1 d2 d3 d4 d5 d6
    clear zc
    go_wp2_with fail
    refine bodyPost_ret (res_pt rfl _ _ (w.heap.size + 1) ⟨key, ⟨3, (o.len : Int), ⟨#[]⟩⟩, o.lw, false, false⟩ _ (by rfl) (by rfl) (set7_new HP5.out)) rfl ⟨by rw [HOW.out, HKL.out]; rfl, set7_below (HB.out.trans (HB5.out.mono HB.out.size)) (Nat.le_succ _)⟩
  | false =>
   rw [hb] at HL HOV
   clear hb
   have HOW : Hid (rv = o.ps.find? (has key)) := HOV.out.trans (if_neg Bool.false_ne_true)
   clear HOV
   go_enter Tryz.func39, Tryz.ntmps39
   go_wp2_with fail
   rw [HW.out]
   refine HL.out.mono ?_
   rintro e w1 ⟨rfl, hb⟩
   have HB1 := Lib.hid hb
   have HPC := Lib.hid (HPR.out _ hb)
   obtain ⟨q0, q1, q2⟩ := Blk.three (v := ⟨vk, vn, vs⟩) (HV.out.low hb)
   dsimp only at q0 q1 q2
   clear hb HL HPR
   cases hf : o.ps.findIdx? (has key) with
   | none =>
    rw [propR_none hf] at HPC
    have HFN : Hid (rv = none) := HOW.out.trans (by rw [find_of_idx, hf]; rfl)
    go_wp2_with fail
    refine HPC.out.mono ?_
    rintro e w2 ⟨rfl, hb⟩
    have HB2 := Lib.hid (HB1.out.trans (hb.mono HB1.out.size))
    obtain ⟨d0, d1, d2, d3, d4, d5, d6⟩ := Blk.seven (p := pr0) (HP.out.low HB2.out)
    have z2 := (HP.out.low HB2.out).fz
    dsimp only [pr0] at d0 d1 d2 d3 d4 d5 d6
    clear hb HPC HB1 q0 q1 q2
    go_wp2_with fail
    refine bodyPost_ret (res_pt rfl _ _ (w.heap.size + 1) pr0 _ (by rfl) (by rfl) (set7_new (HP.out.low HB2.out))) rfl ⟨by rw [HFN.out]; rfl, set7_below (HB.out.trans (HB2.out.mono HB.out.size)) (Nat.le_succ _)⟩
   | some k =>
    rw [propR_some hf] at HPC
    obtain ⟨p, hp, -⟩ := find_idx hf
    have HFN : Hid (rv = some p) := HOW.out.trans (by rw [find_of_idx, hf]; exact hp)
    have hkl : k < o.ps.length := (List.getElem?_eq_some_iff.1 hp).1
    obtain ⟨rA, rc, hre, hrc, hpc⟩ := HPW.out
    obtain ⟨gp, hgA, hgl, hpcell⟩ := hpc k p hp
    have hre : rr = .slice (some ⟨gp, 0, none⟩) o.ps.length rc := by rw [hre, hgA]
    have HGP : Hid (∀ w', Below W0.heap.size W0 w' → w'.cell? ⟨gp, k * 7, none⟩ = some (.string p.key) ∧ w'.cell? ⟨gp, k * 7 + 1, none⟩ = some (.int .i64 p.v.k) ∧ w'.cell? ⟨gp, k * 7 + 2, none⟩ = some (.int .i64 p.v.n) ∧ w'.cell? ⟨gp, k * 7 + 3, none⟩ = some (.string p.v.s) ∧ w'.cell? ⟨gp, k * 7 + 4, none⟩ = some (.bool p.w) ∧ w'.cell? ⟨gp, k * 7 + 5, none⟩ = some (.bool p.e) ∧ w'.cell? ⟨gp, k * 7 + 6, none⟩ = some (.bool p.f)) := fun w' hb' => by
     have q := fun j u hj => (World.cell?_of_block (w := W0) (a := ⟨gp, k * 7 + j, none⟩) (hb'.block gp hgl)).trans (hpcell j u hj)
     exact ⟨q 0 _ rfl, q 1 _ rfl, q 2 _ rfl, q 3 _ rfl, q 4 _ rfl, q 5 _ rfl, q 6 _ rfl⟩
    have HNA : Hid (A < w.heap.size ∧ gb < w.heap.size ∧ gp < w.heap.size) := ⟨hAl, hgb, by
     obtain ⟨rA', rc', hre', -, hpc'⟩ := HPW1.out
     obtain ⟨gp', hgA', hgl', -⟩ := hpc' k p hp
     rw [hgA'] at hre'
     have e1 := hre.symm.trans hre'
     injection e1 with e1
     injection e1 with e1
     injection e1 with e1
     rw [e1]
     exact hgl'⟩
    subst hre
    have hkl' : (k : Int) < (o.ps.length : Int) := by omega
    obtain ⟨pk, ⟨pvk, pvn, pvs⟩, pw, pe, pf⟩ := p
    dsimp only at HGP
    clear hpc hgA hgl hpcell hp HPW hf
    go_wp2_with fail
    refine HPC.out.mono ?_
    rintro e w2 ⟨rfl, hb⟩
    have HB2 := Lib.hid ((HB1.out.trans (hb.mono HB1.out.size)).drew)
    have hs2 : (fun w' : World => (w'.cell? ⟨w.heap.size, 0, none⟩ = some (.int .i64 vk) ∧ w'.cell? ⟨w.heap.size, 1, none⟩ = some (.int .i64 vn) ∧ w'.cell? ⟨w.heap.size, 2, none⟩ = some (.string vs)) ∧ w'.cell? ⟨A, 0, none⟩ = some (.slice (some ⟨gb, 0, none⟩) H.os.length cap) ∧ w'.cell? ⟨gb, i * 8 + 4, none⟩ = some (.slice (some ⟨gp, 0, none⟩) o.ps.length rc) ∧ (w'.cell? ⟨gp, k * 7, none⟩ = some (.string pk) ∧ w'.cell? ⟨gp, k * 7 + 1, none⟩ = some (.int .i64 pvk) ∧ w'.cell? ⟨gp, k * 7 + 2, none⟩ = some (.int .i64 pvn) ∧ w'.cell? ⟨gp, k * 7 + 3, none⟩ = some (.string pvs) ∧ w'.cell? ⟨gp, k * 7 + 4, none⟩ = some (.bool pw) ∧ w'.cell? ⟨gp, k * 7 + 5, none⟩ = some (.bool pe) ∧ w'.cell? ⟨gp, k * 7 + 6, none⟩ = some (.bool pf))) w2.drew := ⟨Blk.three (v := ⟨vk, vn, vs⟩) (HV.out.low HB2.out), (HRO.out.low HB2.out).c0, (HRO.out.low HB2.out).cell 4 _ rfl, HGP.out _ HB2.out⟩
    dsimp only at hs2
    clear hb HPC HB1 q0 q1 q2
    go_wp2_with fail
    refine wp_region_held_drew (S := (fun w' : World => (w'.cell? ⟨w.heap.size, 0, none⟩ = some (.int .i64 vk) ∧ w'.cell? ⟨w.heap.size, 1, none⟩ = some (.int .i64 vn) ∧ w'.cell? ⟨w.heap.size, 2, none⟩ = some (.string vs)) ∧ w'.cell? ⟨A, 0, none⟩ = some (.slice (some ⟨gb, 0, none⟩) H.os.length cap) ∧ w'.cell? ⟨gb, i * 8 + 4, none⟩ = some (.slice (some ⟨gp, 0, none⟩) o.ps.length rc) ∧ (w'.cell? ⟨gp, k * 7, none⟩ = some (.string pk) ∧ w'.cell? ⟨gp, k * 7 + 1, none⟩ = some (.int .i64 pvk) ∧ w'.cell? ⟨gp, k * 7 + 2, none⟩ = some (.int .i64 pvn) ∧ w'.cell? ⟨gp, k * 7 + 3, none⟩ = some (.string pvs) ∧ w'.cell? ⟨gp, k * 7 + 4, none⟩ = some (.bool pw) ∧ w'.cell? ⟨gp, k * 7 + 5, none⟩ = some (.bool pe) ∧ w'.cell? ⟨gp, k * 7 + 6, none⟩ = some (.bool pf)))) (by kernel_rfl) (hs2) (fun hHeld0 => ?_)
    generalize w2.drew = w3 at *
    clear hs2
    refine tk 0 ?_ ‹_› ?_ ?_; rotate_left; focus (intro w0 hSw; obtain ⟨⟨e0, e1, e2⟩, e3, e4, ⟨f0, f1, f2, f3, f4, f5, f6⟩⟩ := hSw; go_simp; try with_reducible rfl)
    refine tk 1 ?_ ‹_› ?_ ?_; rotate_left; focus (intro w0 hSw; obtain ⟨⟨e0, e1, e2⟩, e3, e4, ⟨f0, f1, f2, f3, f4, f5, f6⟩⟩ := hSw; go_simp; try with_reducible rfl)
    refine tk 2 ?_ ‹_› ?_ ?_; rotate_left; focus (intro w0 hSw; obtain ⟨⟨e0, e1, e2⟩, e3, e4, ⟨f0, f1, f2, f3, f4, f5, f6⟩⟩ := hSw; go_simp; try with_reducible rfl)
    refine tk 3 ?_ ‹_› ?_ ?_; rotate_left; focus (intro w0 hSw; obtain ⟨⟨e0, e1, e2⟩, e3, e4, ⟨f0, f1, f2, f3, f4, f5, f6⟩⟩ := hSw; go_simp; try with_reducible rfl)
    refine tk 4 ?_ ‹_› ?_ ?_; rotate_left; focus (intro w0 hSw; obtain ⟨⟨e0, e1, e2⟩, e3, e4, ⟨f0, f1, f2, f3, f4, f5, f6⟩⟩ := hSw; go_simp; try with_reducible rfl)
    refine tk 5 ?_ ‹_› ?_ ?_; rotate_left; focus (intro w0 hSw; obtain ⟨⟨e0, e1, e2⟩, e3, e4, ⟨f0, f1, f2, f3, f4, f5, f6⟩⟩ := hSw; go_simp; try with_reducible rfl)
    refine tk 10 ?_ ‹_› ?_ ?_; rotate_left; focus (intro w0 hSw; obtain ⟨⟨e0, e1, e2⟩, e3, e4, ⟨f0, f1, f2, f3, f4, f5, f6⟩⟩ := hSw; go_simp; try with_reducible rfl)
    try simp only [PT]
    refine wpAnyH_ready (rs := [6]) (by decide +kernel) (by simp) (AllReadyH.cons rfl (fun K hK => ?_) AllReadyH.nil)
    go_simp
    refine (HT.out _ HB2.out).mono ?_
    rintro e w4 ⟨rfl, hb⟩
    have HB4 := Lib.hid (HB2.out.trans (hb.mono HB2.out.size))
    have hs4 : (fun w' : World => (w'.cell? ⟨w.heap.size, 0, none⟩ = some (.int .i64 vk) ∧ w'.cell? ⟨w.heap.size, 1, none⟩ = some (.int .i64 vn) ∧ w'.cell? ⟨w.heap.size, 2, none⟩ = some (.string vs)) ∧ w'.cell? ⟨A, 0, none⟩ = some (.slice (some ⟨gb, 0, none⟩) H.os.length cap) ∧ w'.cell? ⟨gb, i * 8 + 4, none⟩ = some (.slice (some ⟨gp, 0, none⟩) o.ps.length rc) ∧ (w'.cell? ⟨gp, k * 7, none⟩ = some (.string pk) ∧ w'.cell? ⟨gp, k * 7 + 1, none⟩ = some (.int .i64 pvk) ∧ w'.cell? ⟨gp, k * 7 + 2, none⟩ = some (.int .i64 pvn) ∧ w'.cell? ⟨gp, k * 7 + 3, none⟩ = some (.string pvs) ∧ w'.cell? ⟨gp, k * 7 + 4, none⟩ = some (.bool pw) ∧ w'.cell? ⟨gp, k * 7 + 5, none⟩ = some (.bool pe) ∧ w'.cell? ⟨gp, k * 7 + 6, none⟩ = some (.bool pf))) w4 := ⟨Blk.three (v := ⟨vk, vn, vs⟩) (HV.out.low HB4.out), (HRO.out.low HB4.out).c0, (HRO.out.low HB4.out).cell 4 _ rfl, HGP.out _ HB4.out⟩
    dsimp only at hs4
    clear hb HB2
    refine hK.out _ _ hs4 (fun hHeld1 => ?_)
    clear hK K hHeld0 
    try simp only [PT]
    refine tk 7 ?_ ‹_› ?_ ?_; rotate_left; focus (intro w0 hSw; obtain ⟨⟨e0, e1, e2⟩, e3, e4, ⟨f0, f1, f2, f3, f4, f5, f6⟩⟩ := hSw; go_simp; try with_reducible rfl)
    refine tk 8 ?_ ‹_› ?_ ?_; rotate_left; focus (intro w0 hSw; obtain ⟨⟨e0, e1, e2⟩, e3, e4, ⟨f0, f1, f2, f3, f4, f5, f6⟩⟩ := hSw; go_simp; try with_reducible rfl)
    refine tk 9 ?_ ‹_› ?_ ?_; rotate_left; focus (intro w0 hSw; obtain ⟨⟨e0, e1, e2⟩, e3, e4, ⟨f0, f1, f2, f3, f4, f5, f6⟩⟩ := hSw; go_simp; try with_reducible rfl)
    refine tk 11 ?_ ‹_› ?_ ?_; rotate_left; focus (intro w0 hSw; obtain ⟨⟨e0, e1, e2⟩, e3, e4, ⟨f0, f1, f2, f3, f4, f5, f6⟩⟩ := hSw; go_simp; try with_reducible rfl)
    refine tk 12 ?_ ‹_› ?_ ?_; rotate_left; focus (intro w0 hSw; obtain ⟨⟨e0, e1, e2⟩, e3, e4, ⟨f0, f1, f2, f3, f4, f5, f6⟩⟩ := hSw; go_simp; try with_reducible rfl)
    try simp only [PT]
    refine wpAnyH_ready (rs := [13]) (by decide +kernel) (by simp) (AllReadyH.cons rfl (fun K hK => ?_) AllReadyH.nil)
    obtain ⟨d0, d1, d2, d3, d4, d5, d6⟩ := Blk.seven (p := pr0) (HP.out.low HB4.out)
    have zf := (HP.out.low HB4.out).fz
    dsimp only [pr0] at d0 d1 d2 d3 d4 d5 d6
    go_simp
    have HPx := Lib.hid (set7_new (a := .string pk) (b := .int .i64 pvk) (c := .int .i64 pvn) (d := .string pvs) (e := .bool pw) (f := .bool pe) (i := .bool pf) (HP.out.low HB4.out))
    have HBx := Lib.hid (set7_below (a := .string pk) (b := .int .i64 pvk) (c := .int .i64 pvn) (d := .string pvs) (e := .bool pw) (f := .bool pe) (i := .bool pf) (HB.out.trans (HB4.out.mono HB.out.size)) (Nat.le_succ w.heap.size))
    have hs5 : (fun w' : World => (w'.cell? ⟨w.heap.size, 0, none⟩ = some (.int .i64 vk) ∧ w'.cell? ⟨w.heap.size, 1, none⟩ = some (.int .i64 vn) ∧ w'.cell? ⟨w.heap.size, 2, none⟩ = some (.string vs)) ∧ w'.cell? ⟨A, 0, none⟩ = some (.slice (some ⟨gb, 0, none⟩) H.os.length cap) ∧ w'.cell? ⟨gb, i * 8 + 4, none⟩ = some (.slice (some ⟨gp, 0, none⟩) o.ps.length rc) ∧ (w'.cell? ⟨gp, k * 7, none⟩ = some (.string pk) ∧ w'.cell? ⟨gp, k * 7 + 1, none⟩ = some (.int .i64 pvk) ∧ w'.cell? ⟨gp, k * 7 + 2, none⟩ = some (.int .i64 pvn) ∧ w'.cell? ⟨gp, k * 7 + 3, none⟩ = some (.string pvs) ∧ w'.cell? ⟨gp, k * 7 + 4, none⟩ = some (.bool pw) ∧ w'.cell? ⟨gp, k * 7 + 5, none⟩ = some (.bool pe) ∧ w'.cell? ⟨gp, k * 7 + 6, none⟩ = some (.bool pf))) (((((((w4.setCell ⟨w.heap.size + 1, 0, none⟩ (.string pk)).setCell ⟨w.heap.size + 1, 1, none⟩ (.int .i64 pvk)).setCell ⟨w.heap.size + 1, 2, none⟩ (.int .i64 pvn)).setCell ⟨w.heap.size + 1, 3, none⟩ (.string pvs)).setCell ⟨w.heap.size + 1, 4, none⟩ (.bool pw)).setCell ⟨w.heap.size + 1, 5, none⟩ (.bool pe)).setCell ⟨w.heap.size + 1, 6, none⟩ (.bool pf)) := by
     have k1 : ∀ (p : Addr), p.block ≠ w.heap.size + 1 → (((((((w4.setCell ⟨w.heap.size + 1, 0, none⟩ (.string pk)).setCell ⟨w.heap.size + 1, 1, none⟩ (.int .i64 pvk)).setCell ⟨w.heap.size + 1, 2, none⟩ (.int .i64 pvn)).setCell ⟨w.heap.size + 1, 3, none⟩ (.string pvs)).setCell ⟨w.heap.size + 1, 4, none⟩ (.bool pw)).setCell ⟨w.heap.size + 1, 5, none⟩ (.bool pe)).setCell ⟨w.heap.size + 1, 6, none⟩ (.bool pf)).cell? p = w4.cell? p := fun p hp => set7_cell hp
     obtain ⟨⟨e0, e1, e2⟩, e3, e4, ⟨f0, f1, f2, f3, f4, f5, f6⟩⟩ := hs4
     have nA : A ≠ w.heap.size + 1 := by have := HNA.out; omega
     have nb : gb ≠ w.heap.size + 1 := by have := HNA.out; omega
     have np : gp ≠ w.heap.size + 1 := by have := HNA.out; omega
     exact ⟨⟨(k1 _ (by show w.heap.size ≠ _; omega)).trans e0, (k1 _ (by show w.heap.size ≠ _; omega)).trans e1, (k1 _ (by show w.heap.size ≠ _; omega)).trans e2⟩, (k1 _ nA).trans e3, (k1 _ nb).trans e4, ⟨(k1 _ np).trans f0, (k1 _ np).trans f1, (k1 _ np).trans f2, (k1 _ np).trans f3, (k1 _ np).trans f4, (k1 _ np).trans f5, (k1 _ np).trans f6⟩⟩
    generalize (((((((w4.setCell ⟨w.heap.size + 1, 0, none⟩ (.string pk)).setCell ⟨w.heap.size + 1, 1, none⟩ (.int .i64 pvk)).setCell ⟨w.heap.size + 1, 2, none⟩ (.int .i64 pvn)).setCell ⟨w.heap.size + 1, 3, none⟩ (.string pvs)).setCell ⟨w.heap.size + 1, 4, none⟩ (.bool pw)).setCell ⟨w.heap.size + 1, 5, none⟩ (.bool pe)).setCell ⟨w.heap.size + 1, 6, none⟩ (.bool pf)) = w5 at *
    clear d0 d1 d2 d3 d4 d5 d6 zf hs4
    refine hK.out _ _ hs5 (fun hHeld2 => ?_)
    clear hK K hHeld1 
    try simp only [PT]
    refine tk 14 ?_ ‹_› ?_ ?_; rotate_left; focus (intro w0 hSw; obtain ⟨⟨e0, e1, e2⟩, e3, e4, ⟨f0, f1, f2, f3, f4, f5, f6⟩⟩ := hSw; go_simp; try with_reducible rfl)
    try simp only [PT]
    refine wpAnyH_done (by kernel_rfl) ?_ _
    clear hHeld2 hs5
    go_wp2_with fail
    refine bodyPost_ret (res_pt rfl _ _ (w.heap.size + 1) ⟨pk, ⟨pvk, pvn, pvs⟩, pw, pe, pf⟩ _ (by rfl) (by rfl) HPx.out) rfl ⟨by rw [HFN.out]; rfl, HBx.out⟩
end
theorem blk_two' (w : World) (T T' : TypeId) (xs ys : List Value) : Blk ((w.alloc (.cells xs.toArray T)).alloc (.cells ys.toArray T')) w.heap.size T xs ∧ Blk ((w.alloc (.cells xs.toArray T)).alloc (.cells ys.toArray T')) (w.heap.size + 1) T' ys := by
 obtain ⟨W0, e, h1, h2, -⟩ := two_new w T T' xs ys
 rw [← e] at h1 h2
 exact ⟨h1, h2⟩
theorem set3_new' {w : World} {g : Nat} {T : TypeId} {x y z a b c : Value} (h : Blk w g T [x, y, z]) : Blk (((w.setCell ⟨g, 0, none⟩ a).setCell ⟨g, 1, none⟩ b).setCell ⟨g, 2, none⟩ c) g T [a, b, c] := ((h.set 0 a).set 1 b).set 2 c
theorem set3_keep' {w : World} {g B : Nat} {T : TypeId} {xs : List Value} {a b c : Value} (h : Blk w B T xs) (hne : g ≠ B) : Blk (((w.setCell ⟨g, 0, none⟩ a).setCell ⟨g, 1, none⟩ b).setCell ⟨g, 2, none⟩ c) B T xs :=
 ((h.other (p := ⟨g, 0, none⟩) (Ne.symm hne) a).other (p := ⟨g, 1, none⟩) (Ne.symm hne) b).other (p := ⟨g, 2, none⟩) (Ne.symm hne) c
theorem set3_below {w w0 : World} {B g : Nat} {a b c : Value} (h : Below B w0 w) (hg : B ≤ g) : Below B w0 (((w.setCell ⟨g, 0, none⟩ a).setCell ⟨g, 1, none⟩ b).setCell ⟨g, 2, none⟩ c) :=
 ((h.setCell (p := ⟨g, 0, none⟩) hg a).setCell (p := ⟨g, 1, none⟩) hg b).setCell (p := ⟨g, 2, none⟩) hg c
section
variable {w w' : World} {ow : Nat → Option Nat} {A i : Nat} {H : Hs} {R : List Value} {o : Ob}
structure Fd (w : World) (v : Vl) (key : ByteArray) (H : Hs) (q : Nat) (u : Vl) (wr : World) : Prop where
 bu : Blk wr w.heap.size 29 u.cs
 bp : Blk wr (w.heap.size + 1) 31 pr0.cs
 low : Below w.heap.size w wr
 same : H.find LK AR (H.at v) key = H.find LK AR (H.at u) key
 dp : dpt (H.at u) ≤ q
set_option maxRecDepth 8000 in
set_option maxHeartbeats 1000000 in
theorem rfind_any (h : RH w A H ow R) (g : Gd H) (v : Vl) (key : ByteArray) (hs : key.size ≤ 16777216) :
  Calls Tryz.prog 75 #[pv A, v.v, .string key] w fun e w' => e = .returned (ownR (H.find LK AR (H.at v) key)) ∧ Below w.heap.size w w' := by
 have hb0 := two_low (w := w) 29 31 v.cs pr0.cs
 obtain ⟨hr0, hr1⟩ := blk_two' w 29 31 v.cs pr0.cs
 have HF0 : Hid (Fd w v key H (dpt (H.at v)) v ((w.alloc (.cells v.cs.toArray 29)).alloc (.cells pr0.cs.toArray 31))) := ⟨hr0, hr1, hb0, rfl, Nat.le_refl _⟩
 have HAT := Lib.hid fun w' (hb : Below w.heap.size w w') (u : Vl) => rat_any (h.low hb) u g.os100
 have HOW := Lib.hid fun w' (hb : Below w.heap.size w w') (u : Vl) => rown_any (h.low hb) g u key hs
 have HPR := Lib.hid fun w' (hb : Below w.heap.size w w') (u : Vl) => rproto_any (h.low hb) u g.os100
 have HOK := Lib.hid g.ok
 obtain ⟨rv, HRV⟩ : ∃ rv, Hid (H.find LK AR (H.at v) key = rv) := ⟨_, rfl⟩
 rw [HRV.out]
 clear hb0 hr0 hr1 h g hs
 generalize dpt (H.at v) = q0 at *
 obtain ⟨vk, vn, vs⟩ := v
 simp only [Vl.v, Vl.cs, Pr.cs, pr0] at HF0 HAT HOW HPR ⊢
 go_enter Tryz.func75, Tryz.ntmps75
 go_wp2_with fail
 generalize (w.alloc (.cells #[.int .i64 vk, .int .i64 vn, .string vs] 29)).alloc (.cells #[.string ⟨#[]⟩, .int .i64 0, .int .i64 0, .string ⟨#[]⟩, .bool false, .bool false, .bool false] 31) = w0 at *
 go_loopg [9] q0 (fun q x wr => ∃ u : Vl, Hid (Fd w ⟨vk, vn, vs⟩ key H q u wr))
 case atStart => exact ⟨_, HF0⟩
 case round =>
  obtain ⟨⟨uk, un, us⟩, HFD⟩ := hrel
  have hat := HAT.out _ HFD.out.low ⟨uk, un, us⟩
  have hown := HOW.out _ HFD.out.low ⟨uk, un, us⟩
  obtain ⟨d0, d1, d2⟩ := Blk.three (v := ⟨uk, un, us⟩) HFD.out.bu
  dsimp only at d0 d1 d2
  cases ha : H.at ⟨uk, un, us⟩ with
  | none =>
   rw [ha] at hat
   have HR : Hid (rv = none) := by
    show rv = none
    rw [← HRV.out, HFD.out.same, ha]
    exact find_none LK AR H key
   simp only [atI] at hat
   clear hown ha
   go_wp2_with fail
   refine hat.mono ?_
   rintro e w1 ⟨rfl, hb⟩
   have hlow := HFD.out.low.trans (hb.mono HFD.out.low.size)
   have HL := Lib.hid hlow
   have hp := HFD.out.bp.low hb
   obtain ⟨f0, f1, f2, f3, f4, f5, f6⟩ := Blk.seven (p := pr0) hp
   have zf := hp.fz
   have HP := Lib.hid hp
   dsimp only [pr0] at f0 f1 f2 f3 f4 f5 f6
   clear hb hat d0 d1 d2 hlow hp
   go_wp2_with fail
   refine bodyPost_ret (res_pt rfl _ _ (w.heap.size + 1) pr0 _ (by rfl) (by rfl) (set7_new HP.out)) rfl ⟨by rw [HR.out]; rfl, set7_below HL.out (Nat.le_succ _)⟩
  | some i =>
   have HA := Lib.hid ha
   rw [ha] at hat
   simp only [atI, Vl.v] at hat hown
   have hii : (0 : Int) ≤ (i : Int) := by omega
   have HOWN := Lib.hid fun w' (hb : Below w.heap.size w w') => HOW.out w' hb ⟨uk, un, us⟩
   clear hown ha
   go_wp2_with fail
   refine hat.mono ?_
   rintro e w1 ⟨rfl, hb⟩
   have HL1 := Lib.hid (HFD.out.low.trans (hb.mono HFD.out.low.size))
   have HU1 := Lib.hid (HFD.out.bu.low hb)
   have HP1 := Lib.hid (HFD.out.bp.low hb)
   have hown := HOWN.out _ HL1.out
   obtain ⟨d0, d1, d2⟩ := Blk.three (v := ⟨uk, un, us⟩) HU1.out
   dsimp only at d0 d1 d2
   clear hb hat HOWN
   cases hov : H.ownV ⟨uk, un, us⟩ key with
   | some p =>
    rw [hov] at hown
    have HR : Hid (rv = some p) := by
     show rv = some p
     rw [← HRV.out, HFD.out.same]
     exact pown_first HOK.out hov
    obtain ⟨pk, ⟨pvk, pvn, pvs⟩, pw, pe, pf⟩ := p
    simp only [ownR, Pr.v', Vl.v] at hown
    clear hov
    go_wp2_with fail
    refine hown.mono ?_
    rintro e w2 ⟨rfl, hb⟩
    have hb2 := below_new w2 (.cells #[.string pk, .int .i64 pvk, .int .i64 pvn, .string pvs, .bool pw, .bool pe, .bool pf] 31)
    have HL2 := Lib.hid ((HL1.out.trans (hb.mono HL1.out.size)).trans (hb2.mono (HL1.out.trans (hb.mono HL1.out.size)).size))
    have hp := (HP1.out.low hb).low hb2
    obtain ⟨f0, f1, f2, f3, f4, f5, f6⟩ := Blk.seven (p := pr0) hp
    have zf := hp.fz
    have HP := Lib.hid hp
    dsimp only [pr0] at f0 f1 f2 f3 f4 f5 f6
    clear hb hb2 hown d0 d1 d2 hp
    go_wp2_with fail
    refine bodyPost_ret (res_pt rfl _ _ (w.heap.size + 1) ⟨pk, ⟨pvk, pvn, pvs⟩, pw, pe, pf⟩ _ (by rfl) (by rfl) (set7_new HP.out)) rfl ⟨by rw [HR.out]; rfl, set7_below HL2.out (Nat.le_succ _)⟩
   | none =>
    rw [hov] at hown
    have HSM : Hid (H.find LK AR (H.at ⟨vk, vn, vs⟩) key = H.find LK AR (H.at (protoR (H.obj ⟨uk, un, us⟩))) key) := HFD.out.same.trans (pown_next HOK.out hov)
    have HDP := Lib.hid (dpt_next HOK.out HA.out)
    simp only [ownR, Pr.v', pr0] at hown
    clear hov
    go_wp2_with fail
    refine hown.mono ?_
    rintro e w2 ⟨rfl, hb⟩
    have hb2 := below_new w2 (.cells #[.string ⟨#[]⟩, .int .i64 0, .int .i64 0, .string ⟨#[]⟩, .bool false, .bool false, .bool false] 31)
    have HL2 := Lib.hid ((HL1.out.trans (hb.mono HL1.out.size)).trans (hb2.mono (HL1.out.trans (hb.mono HL1.out.size)).size))
    have HP2 := Lib.hid ((HP1.out.low hb).low hb2)
    have HU2 := Lib.hid ((HU1.out.low hb).low hb2)
    have hpr := HPR.out _ HL2.out ⟨uk, un, us⟩
    simp only [Vl.v] at hpr
    obtain ⟨d0, d1, d2⟩ := Blk.three (v := ⟨uk, un, us⟩) HU2.out
    dsimp only at d0 d1 d2
    clear hb hb2 hown
    have HDQ : Hid (i + 1 ≤ gk) := by have := HFD.out.dp; rw [HA.out] at this; exact this
    obtain ⟨nu, HNU⟩ : ∃ nu, Hid (protoR (H.obj ⟨uk, un, us⟩) = nu) := ⟨_, rfl⟩
    rw [HNU.out] at hpr HSM HDP
    obtain ⟨nk, nn, ns⟩ := nu
    dsimp only at hpr
    go_wp2_with fail
    refine hpr.mono ?_
    rintro e w3 ⟨rfl, hb⟩
    have HL3 := Lib.hid (HL2.out.trans (hb.mono HL2.out.size))
    have HP3 := Lib.hid (HP2.out.low hb)
    have hu := HU2.out.low hb
    obtain ⟨d0, d1, d2⟩ := Blk.three (v := ⟨uk, un, us⟩) hu
    have zf := hu.fz
    have HU3 := Lib.hid hu
    dsimp only at d0 d1 d2
    clear hb hpr hu HFD
    go_wp2_with fail
    go_roundg (gk - 1)
    case measure => have := HDQ.out; omega
    case rel => exact ⟨⟨nk, nn, ns⟩, set3_new' HU3.out, set3_keep' HP3.out (by omega), set3_below HL3.out (Nat.le_refl _), HSM.out, by have := HDP.out; have := HDQ.out; omega⟩
set_option maxRecDepth 8000 in
theorem rget_any (h : RH w A H ow R) (g : Gd H) (v : Vl) (key : ByteArray) (hs : key.size ≤ 16777216) :
  Calls Tryz.prog 38 #[pv A, v.v, .string key] w fun e w' => e = .returned (getR (H.find LK AR (H.at v) key)) ∧ Below w.heap.size w w' := by
 have hb0 := two_low (w := w) 29 29 v.cs vl0.cs
 have HB := Lib.hid hb0
 have HT := Lib.hid (rfind_any (h.low hb0) g v key hs)
 have HR := Lib.hid (blk_two' w 29 29 v.cs vl0.cs).2
 obtain ⟨q, b, hq1, hq2, -⟩ := ownR_is2 (H.find LK AR (H.at v) key)
 rw [hq1] at HT
 rw [hq2]
 clear h hb0 hs hq1 hq2
 obtain ⟨vk, vn, vs⟩ := v
 obtain ⟨qk, ⟨qvk, qvn, qvs⟩, qw, qe, qf⟩ := q
 simp only [Vl.v, Vl.cs, vl0, Pr.v'] at HB HT HR ⊢
 go_enter Tryz.func38, Tryz.ntmps38
 go_wp2_with fail
 refine HT.out.mono ?_
 rintro e w1 ⟨rfl, hb⟩
 have HR1 := Lib.hid (HR.out.low hb)
 have H1 := Lib.hid (HB.out.trans (hb.mono HB.out.size))
 have hb2 := below_new w1 (.cells #[.string qk, .int .i64 qvk, .int .i64 qvn, .string qvs, .bool qw, .bool qe, .bool qf] 31)
 have HR2 := Lib.hid (HR1.out.low hb2)
 have H2 := Lib.hid (H1.out.trans (hb2.mono H1.out.size))
 obtain ⟨d0, d1, d2⟩ := Blk.three (v := vl0) HR2.out
 have z := HR2.out.fz
 dsimp only [vl0] at d0 d1 d2
 clear hb hb2 HT HR HB HR1 H1
 go_wp2_with fail
 refine bodyPost_ret (res_vt rfl _ _ (w.heap.size + 1) ⟨qvk, qvn, qvs⟩ _ (by rfl) (by rfl) (set3_new' HR2.out)) rfl ⟨rfl, set3_below H2.out (Nat.le_succ _)⟩
end
theorem list_app2 {ops : Array Oper} {rest : List Oper} {o : Oper} {a : Act} {w : World} {Q : Exit → Act → World → Prop} (hgd : o.guard = none) (s x : Operand) (t e : TypeId) (z : Value) (bytes : Nat) (ht : Tryz.prog.underlying t = some (.slice e))
  (hin : (Tryz.prog.info? e).map (fun i => (i.zero, i.size, i.bytes)) = some (some z, 1, bytes)) (hz : z.cells.size = 1) (hbt : bytes ≤ 128)
  (ho : o.op = .call { callee := .builtin .append, args := #[s, x], argTypes := #[t, t] })
  (C : Nat) (nv : Value) (n : Nat) (xs : List Value) (hs : a.eval s = nv) (hown : w.ownsRow C e 1 nv n xs) (g : Nat) (y : Value) (hx : a.eval x = .slice (some ⟨g, 0, none⟩) 1 1) (hc : w.cell? ⟨g, 0, none⟩ = some y) (h1 : y.oneCell' = true) (hl : n ≤ 100000000000) (hb : C ≤ w.heap.size)
  (h : ∀ nv' w', w'.ownsRow C e 1 nv' (n + 1) (xs ++ [y]) → w.grownBy w' nv.ownBlock → (nv'.ownBlock = nv.ownBlock ∨ nv'.ownBlock = some w.heap.size) → wpList Tryz.prog ops Q rest (a.put o.dst nv') w') :
  wpList Tryz.prog ops Q (o :: rest) a w := wpList_plain hgd fun K hK => by
 have h2 := step_app2 (ops := ops) (E := True) (K := K) (Q := Q) hgd s x t e z bytes ht hin hz hbt ho C nv n xs hs hown g y hx hc h1 hl hb (fun nv' w' a b c => hK _ _ (h nv' w' a b c))
 rw [if_pos (by simp [Region.wanted, hgd])] at h2
 exact h2
theorem grow_low {w0 w w' : World} {C n s : Nat} {T : TypeId} {v : Value} {xs : List Value} (hb : Below C w0 w) (hC : C ≤ w0.heap.size) (ho : w.ownsRow C T s v n xs) (hg : w.grownBy w' v.ownBlock) : Below C w0 w' :=
 ((Fr.of (F := (· < C)) hb fun _ hk => hk).grown (fun _ hk => Nat.lt_of_lt_of_le hk hC) hg fun k e hk => Nat.lt_irrefl _ (Nat.lt_of_lt_of_le hk (ho.lt k e).1)).below
theorem contains_is (L : List ByteArray) (s : ByteArray) : L.contains s = L.any fun t => decide (s = t) := by
 rw [List.contains_eq_any_beq]
 simp only [beq_bytes]
theorem stands_any (L : List ByteArray) (s : ByteArray) (r : Value) (w : World) (hA : Nm w r L) (hl : L.length ≤ 100000000000) :
  Calls Tryz.prog 79 #[r, .string s] w (AnsB w (L.contains s)) := by
 obtain ⟨A, c, rfl, hA⟩ := hA
 have HA := Lib.hid hA
 have hli : (L.length : Int) ≤ 100000000000 := by omega
 obtain ⟨b0, HB0⟩ : ∃ b0, Hid (L.contains s = b0) := ⟨_, rfl⟩
 have HY : Hid (s ∈ L → b0 = true) := fun h => by rw [← HB0.out, contains_is]; exact List.any_eq_true.2 ⟨s, h, decide_eq_true rfl⟩
 have HN : Hid (s ∉ L → b0 = false) := fun h => by
  rw [← HB0.out, contains_is, List.any_eq_false]
  intro t ht e
  exact h (by rw [of_decide_eq_true e]; exact ht)
 rw [HB0.out]
 clear hA HB0
 go_enter Tryz.func79, Tryz.ntmps79
 go_wp2_with fail
 go_loopw [9] (fun i wr => ∃ k : Nat, k ≤ L.length ∧ i = .int .i64 k ∧ Hid (wr = w) ∧ Hid (∀ (j : Nat) t, j < k → L[j]? = some t → t ≠ s)) (fun i _ => L.length - (intOf i).toNat)
 case atStart => exact ⟨0, Nat.zero_le _, rfl, Lib.hid rfl, Lib.hid fun j t h => absurd h (Nat.not_lt_zero _)⟩
 case round =>
  obtain ⟨k, hk, rfl, hw, hno⟩ := hrel
  by_cases hlt : k < L.length
  ·obtain ⟨t, HT⟩ : ∃ t, Hid (L[k]? = some t) := ⟨_, List.getElem?_eq_getElem hlt⟩
   obtain ⟨g, rfl, c1⟩ : ∃ g, A = some ⟨g, 0, none⟩ ∧ wr.cell? ⟨g, k, none⟩ = some (.string t) := by
    rw [hw.out]
    rcases HA.out with e | ⟨g, e1, e2, e3⟩
    ·subst e
     exact absurd hlt (Nat.not_lt_zero _)
    ·exact ⟨g, e1, e3 k _ HT.out⟩
   have HST := Lib.hid (toList_eq_is t s)
   by_cases he : t = s
   ·have hst := HST.out.trans (decide_eq_true he)
    have HR := Lib.hid (HY.out (by rw [← he]; exact List.mem_of_getElem? HT.out))
    clear he
    go_wp2_with fail
    go_ret
    exact ⟨by rw [HR.out]; rfl, by rw [hw.out]; exact Below.refl _ _⟩
   ·have hst := HST.out.trans (decide_eq_false he)
    have HN1 : Hid (∀ (j : Nat) q, j < k + 1 → L[j]? = some q → q ≠ s) := fun j q hj hq => by
     by_cases hjk : j = k
     ·subst hjk
      rw [HT.out] at hq
      rw [← Option.some.inj hq]
      exact he
     ·exact hno.out j q (by omega) hq
    clear he
    go_wp2_with fail
    go_roundw
    case rel => exact ⟨k + 1, hlt, by go_num, hw, HN1⟩
    case measure => simp [intOf]; omega
  ·obtain rfl : k = L.length := by omega
   have HR := Lib.hid (HN.out fun hm => by
    obtain ⟨j, hj⟩ := List.getElem?_of_mem hm
    exact hno.out j s (List.getElem?_eq_some_iff.1 hj).1 hj rfl)
   go_wp2_with fail
   go_ret
   exact ⟨by rw [HR.out]; rfl, by rw [hw.out]; exact Below.refl _ _⟩
section
variable {w w' : World} {ow : Nat → Option Nat} {A i : Nat} {H : Hs} {R : List Value} {o : Ob}
def keyV (p : Pr) : Value := .string p.key
theorem own_nm {w : World} {B : Nat} {r : Value} {ks : List ByteArray} {n : Nat} {xs : List Value} (h : w.ownsRow B 9 1 r n xs) (hn : n = ks.length) (hx : xs = ks.map Value.string) : Nm w r ks := by
 subst hn
 subst hx
 exact Txs.nm (b := B) h
set_option maxRecDepth 8000 in
set_option maxHeartbeats 1000000 in
theorem rkeys_any (h : RH w A H ow R) (g : Gd H) (v : Vl) :
  Calls Tryz.prog 15 #[pv A, v.v] w fun e w' => ∃ r, e = .returned r ∧ Nm w' r (keysR (H.obj v)) ∧ Below w.heap.size w w' := by
 have hl := g.os100
 cases hat : H.at v with
 | none =>
  rw [obj_none hat]
  refine (rkeys_none h v hl hat).mono ?_
  rintro e w' ⟨e1, h2⟩
  exact ⟨_, e1, Nm.nil _, h2⟩
 | some i =>
  obtain ⟨o, ho⟩ : ∃ o, H.os[i]? = some o := ⟨H.os[i]'(at_lt hat), List.getElem?_eq_getElem (at_lt hat)⟩
  have hi := at_lt hat
  rw [obj_some hat ho]
  have hb0 := below_new w (.cells v.cs.toArray 29)
  have HB := Lib.hid hb0
  have HT := Lib.hid (rat_any (h.low hb0) v hl)
  rw [hat] at HT
  obtain ⟨gb, cap, rr, hro, hcap, hrr, -⟩ := (h.low hb0).ro ho
  have HRO := Lib.hid hro
  have HPW := Lib.hid ((h.low hb0).prow ho hrr)
  have hii : (i : Int) < (H.os.length : Int) := by omega
  have hpl : o.ps.length ≤ 100000 := Nat.le_trans (g.og i o ho).l g.n100
  have hpli : (o.ps.length : Int) ≤ 100000 := by omega
  clear h g hb0 hat ho hro hrr hl
  obtain ⟨vk, vn, vs⟩ := v
  simp only [Vl.v, Vl.cs, atI] at HB HT HRO HPW ⊢
  go_enter Tryz.func15, Tryz.ntmps15
  go_wp2_with fail
  refine HT.out.mono ?_
  rintro e w1 ⟨rfl, hb⟩
  have HB1 := Lib.hid (HB.out.trans (hb.mono HB.out.size))
  have HR1 := HRO.out.low hb
  have HP1 := Lib.hid (HPW.out.low hb)
  obtain ⟨rA, rc, hre, -, -⟩ := id HP1.out
  have c0 := HR1.c0
  have c4 := HR1.cell 4 rr rfl
  subst hre
  clear hb HT HB HR1
  go_wp2_with fail
  go_loopw [5, 23] (fun y x wr => ∃ k : Nat, k ≤ o.ps.length ∧ x = .int .i64 k ∧ Hid (wr.ownsRow w1.heap.size 9 1 y k ((o.ps.take k).map keyV)) ∧ Hid (Below w1.heap.size w1 wr)) (fun _ x _ => o.ps.length - (intOf x).toNat)
  case atStart => exact ⟨0, Nat.zero_le _, rfl, Lib.hid (row_nil _ _ _ _), Lib.hid (Below.refl _ _)⟩
  case round =>
   obtain ⟨k, hk, rfl, HROW, HBR⟩ := hrel
   obtain ⟨yA, yc, rfl⟩ := row_len HROW.out
   by_cases hlt : k < o.ps.length
   ·obtain ⟨p, HP⟩ : ∃ p, Hid (o.ps[k]? = some p) := ⟨_, List.getElem?_eq_getElem hlt⟩
    obtain ⟨rA', rc', e1, -, hpc⟩ := (HP1.out.low HBR.out)
    obtain ⟨gp, e2, -, hcell⟩ := hpc k p HP.out
    injection e1 with e3
    rw [e2] at e3
    subst e3
    have d0 := hcell 0 _ rfl
    have d1 := hcell 1 _ rfl
    have d2 := hcell 2 _ rfl
    have d3 := hcell 3 _ rfl
    have d4 := hcell 4 _ rfl
    have d5 := hcell 5 _ rfl
    have d6 := hcell 6 _ rfl
    simp only [Nat.add_zero] at d0
    obtain ⟨W5, hW5, -, hb5, hl5⟩ := two_new wr 31 9 (Pr.cs p) [.string p.key]
    have HW5 := Lib.hid hW5
    have HC5 := Lib.hid hb5
    have HL5 := Lib.hid hl5
    have HR5 : Hid (W5.ownsRow w1.heap.size 9 1 (.slice yA k yc) k ((o.ps.take k).map keyV)) := row_same HROW.out fun j e => hl5.block j (HROW.out.lt j e).2
    have HB5 := Lib.hid (HBR.out.trans (hl5.mono HBR.out.size))
    have HNX : Hid ((o.ps.take k).map keyV ++ [.string p.key] = (o.ps.take (k + 1)).map keyV) := by show _ = _; rw [List.take_add_one, HP.out, List.map_append]; rfl
    simp only [Pr.cs] at HW5
    clear hW5 hb5 hl5 hpc hcell e2
    go_wp2_with (at_builtin; rw [HW5.out]; refine list_app1 rfl (.tmp 27) (.tmp 30) 41 9 _ 16 Tryz.underlying41 infoSt rfl (by decide) rfl w1.heap.size (.slice yA k yc) k _ (by rfl) HR5.out (wr.heap.size + 1) (.string p.key) (by rfl) (HC5.out.cell rfl) rfl (by omega) HB5.out.size ?_; intro nv w6 h1 h2 h3; obtain ⟨nA, nc, rfl⟩ := row_len h1; have HR6 := Lib.hid h1; have HB6 := Lib.hid (grow_low HB5.out (Nat.le_refl _) HR5.out h2); clear h1 h2 h3)
    clear d0 d1 d2 d3 d4 d5 d6
    go_roundw
    case rel =>
     refine ⟨_, _, _, ⟨k + 1, hlt, ?_, ?_⟩, rfl, rfl, rfl⟩
     ·go_num
     ·rw [← List.map_take, ← HNX.out]
      exact HR6.out
    case measure => simp [intOf]; omega
   ·obtain rfl : k = o.ps.length := by omega
    have HNM : Hid (Nm wr (.slice yA o.ps.length yc) (keysR (some o))) := own_nm HROW.out (by show _ = (o.ps.map _).length; rw [List.length_map]) (by rw [List.take_length]; show _ = (o.ps.map (·.key)).map Value.string; rw [List.map_map]; rfl)
    go_wp2_with fail
    go_ret
    exact ⟨_, rfl, HNM.out, HB1.out.trans (HBR.out.mono HB1.out.size)⟩
end
section
variable {w : World} {ow : Nat → Option Nat} {A : Nat} {H : Hs} {R : List Value}
set_option maxRecDepth 8000 in
set_option maxHeartbeats 1000000 in
theorem rkeys_own (h : RH w A H ow R) (g : Gd H) (v : Vl) :
  Calls Tryz.prog 15 #[pv A, v.v] w fun e w' => ∃ r C, e = .returned r ∧ w.heap.size ≤ C ∧ C ≤ w'.heap.size ∧ w'.ownsRow C 9 1 r (keysR (H.obj v)).length ((keysR (H.obj v)).map Value.string) ∧ Below w.heap.size w w' := by
 have hl := g.os100
 cases hat : H.at v with
 | none =>
  rw [obj_none hat]
  refine (rkeys_none h v hl hat).mono ?_
  rintro e w' ⟨e1, h2⟩
  exact ⟨_, w.heap.size, e1, Nat.le_refl _, h2.size, row_nil _ _ _ _, h2⟩
 | some i =>
  obtain ⟨o, ho⟩ : ∃ o, H.os[i]? = some o := ⟨H.os[i]'(at_lt hat), List.getElem?_eq_getElem (at_lt hat)⟩
  have hi := at_lt hat
  rw [obj_some hat ho]
  have hb0 := below_new w (.cells v.cs.toArray 29)
  have HB := Lib.hid hb0
  have HT := Lib.hid (rat_any (h.low hb0) v hl)
  rw [hat] at HT
  obtain ⟨gb, cap, rr, hro, hcap, hrr, -⟩ := (h.low hb0).ro ho
  have HRO := Lib.hid hro
  have HPW := Lib.hid ((h.low hb0).prow ho hrr)
  have hii : (i : Int) < (H.os.length : Int) := by omega
  have hpl : o.ps.length ≤ 100000 := Nat.le_trans (g.og i o ho).l g.n100
  have hpli : (o.ps.length : Int) ≤ 100000 := by omega
  clear h g hb0 hat ho hro hrr hl
  obtain ⟨vk, vn, vs⟩ := v
  simp only [Vl.v, Vl.cs, atI] at HB HT HRO HPW ⊢
  go_enter Tryz.func15, Tryz.ntmps15
  go_wp2_with fail
  refine HT.out.mono ?_
  rintro e w1 ⟨rfl, hb⟩
  have HB1 := Lib.hid (HB.out.trans (hb.mono HB.out.size))
  have HR1 := HRO.out.low hb
  have HP1 := Lib.hid (HPW.out.low hb)
  obtain ⟨rA, rc, hre, -, -⟩ := id HP1.out
  have c0 := HR1.c0
  have c4 := HR1.cell 4 rr rfl
  subst hre
  clear hb HT HB HR1
  go_wp2_with fail
  go_loopw [5, 23] (fun y x wr => ∃ k : Nat, k ≤ o.ps.length ∧ x = .int .i64 k ∧ Hid (wr.ownsRow w1.heap.size 9 1 y k ((o.ps.take k).map keyV)) ∧ Hid (Below w1.heap.size w1 wr)) (fun _ x _ => o.ps.length - (intOf x).toNat)
  case atStart => exact ⟨0, Nat.zero_le _, rfl, Lib.hid (row_nil _ _ _ _), Lib.hid (Below.refl _ _)⟩
  case round =>
   obtain ⟨k, hk, rfl, HROW, HBR⟩ := hrel
   obtain ⟨yA, yc, rfl⟩ := row_len HROW.out
   by_cases hlt : k < o.ps.length
   ·obtain ⟨p, HP⟩ : ∃ p, Hid (o.ps[k]? = some p) := ⟨_, List.getElem?_eq_getElem hlt⟩
    obtain ⟨rA', rc', e1, -, hpc⟩ := (HP1.out.low HBR.out)
    obtain ⟨gp, e2, -, hcell⟩ := hpc k p HP.out
    injection e1 with e3
    rw [e2] at e3
    subst e3
    have d0 := hcell 0 _ rfl
    have d1 := hcell 1 _ rfl
    have d2 := hcell 2 _ rfl
    have d3 := hcell 3 _ rfl
    have d4 := hcell 4 _ rfl
    have d5 := hcell 5 _ rfl
    have d6 := hcell 6 _ rfl
    simp only [Nat.add_zero] at d0
    obtain ⟨W5, hW5, -, hb5, hl5⟩ := two_new wr 31 9 (Pr.cs p) [.string p.key]
    have HW5 := Lib.hid hW5
    have HC5 := Lib.hid hb5
    have HL5 := Lib.hid hl5
    have HR5 : Hid (W5.ownsRow w1.heap.size 9 1 (.slice yA k yc) k ((o.ps.take k).map keyV)) := row_same HROW.out fun j e => hl5.block j (HROW.out.lt j e).2
    have HB5 := Lib.hid (HBR.out.trans (hl5.mono HBR.out.size))
    have HNX : Hid ((o.ps.take k).map keyV ++ [.string p.key] = (o.ps.take (k + 1)).map keyV) := by show _ = _; rw [List.take_add_one, HP.out, List.map_append]; rfl
    simp only [Pr.cs] at HW5
    clear hW5 hb5 hl5 hpc hcell e2
    go_wp2_with (at_builtin; rw [HW5.out]; refine list_app1 rfl (.tmp 27) (.tmp 30) 41 9 _ 16 Tryz.underlying41 infoSt rfl (by decide) rfl w1.heap.size (.slice yA k yc) k _ (by rfl) HR5.out (wr.heap.size + 1) (.string p.key) (by rfl) (HC5.out.cell rfl) rfl (by omega) HB5.out.size ?_; intro nv w6 h1 h2 h3; obtain ⟨nA, nc, rfl⟩ := row_len h1; have HR6 := Lib.hid h1; have HB6 := Lib.hid (grow_low HB5.out (Nat.le_refl _) HR5.out h2); clear h1 h2 h3)
    clear d0 d1 d2 d3 d4 d5 d6
    go_roundw
    case rel =>
     refine ⟨_, _, _, ⟨k + 1, hlt, ?_, ?_⟩, rfl, rfl, rfl⟩
     ·go_num
     ·rw [← List.map_take, ← HNX.out]
      exact HR6.out
    case measure => simp [intOf]; omega
   ·obtain rfl : k = o.ps.length := by omega
    have HNM : Hid (wr.ownsRow w1.heap.size 9 1 (.slice yA o.ps.length yc) (keysR (some o)).length ((keysR (some o)).map Value.string)) := by
     have h := HROW.out
     rw [List.take_length] at h
     show World.ownsRow _ _ _ _ _ (o.ps.map (·.key)).length ((o.ps.map (·.key)).map Value.string)
     rw [List.length_map, List.map_map]
     exact h
    go_wp2_with fail
    go_ret
    exact ⟨_, w1.heap.size, rfl, HB1.out.size, HBR.out.size, HNM.out, HB1.out.trans (HBR.out.mono HB1.out.size)⟩
end
end Go.Proofs.YtcahijpbkjplmaaGreatDoor.G
