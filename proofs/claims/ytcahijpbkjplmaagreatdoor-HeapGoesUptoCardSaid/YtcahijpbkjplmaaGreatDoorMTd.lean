/-
 The reference's heap in memory; New, Take, Used, at, by contract.
 The reference's at, by contract.
 A reference's object in memory; Class, IsOpen, by contract.
 The reference's Null, Proto, by contract.
-/
import Derived.Test.YtcahijpbkjplmaaGreatDoorMRt
import Derived.Test.YtcahijpbkjplmaaGreatDoorMZ0
set_option linter.unusedSimpArgs false
namespace Go.Proofs.YtcahijpbkjplmaaGreatDoor.G
open Go.RowKit Go.Shelf Go.Maps Go.Lib Go.Proofs.YtcahijpbkjplmaaGreatDoor
theorem flat_get {α : Type} (f : α → List Value) (k : Nat) (hk : ∀ a, (f a).length = k) : ∀ (l : List α) (i j : Nat), j < k → ((l.map f).flatten)[i * k + j]? = (l[i]?).bind fun a => (f a)[j]?
 | [], i, j, _ => by simp
 | a :: l, 0, j, hj => by
  rw [List.map_cons, List.flatten_cons, Nat.zero_mul, Nat.zero_add, List.getElem?_append_left (by rw [hk]; exact hj)]
  rfl
 | a :: l, i + 1, j, hj => by
  rw [List.map_cons, List.flatten_cons, List.getElem?_append_right (by rw [hk, Nat.succ_mul]; omega), hk, show (i + 1) * k + j - k = i * k + j by rw [Nat.succ_mul]; omega, flat_get f k hk l i j hj]
  rfl
def objV (q : Ob × Value) : List Value := [.string q.1.cls, .int .i64 (refO q.1.proto).k, .int .i64 (refO q.1.proto).n, .string (refO q.1.proto).s, q.2, .bool q.1.closed, .int .i64 (q.1.len : Int), .bool q.1.lw]
theorem objV_len (q : Ob × Value) : (objV q).length = 8 := rfl
theorem prV_len (p : Pr) : (Pr.cs p).length = 7 := rfl
structure RH (w : World) (A : Nat) (h : Hs) (ow : Nat → Option Nat) (R : List Value) : Prop where
 hb : ∃ ov, Blk w A 39 [ov, .int .i64 (h.most : Int), .int .i64 (h.n : Int)] ∧ w.ownsRow 0 73 8 ov h.os.length ((h.os.zip R).map objV).flatten ∧ ∀ g, ov.ownBlock = some g → ow g = some 0
 wA : ow A = some 0
 len : R.length = h.os.length
 ps : ∀ i (h1 : i < R.length) (h2 : i < h.os.length), w.ownsRow 0 31 7 R[i] h.os[i].ps.length (h.os[i].ps.map Pr.cs).flatten
 ra : ∀ i (h1 : i < R.length) g, R[i].ownBlock = some g → ow g = some (i + 1)
 lt : ∀ k, ow k ≠ none → k < w.heap.size
section
variable {w w' : World} {ow : Nat → Option Nat} {A : Nat} {H : Hs} {R : List Value}
theorem RH.fr (h : RH w A H ow R) (hf : ∀ k, ow k ≠ none → w'.heap[k]? = w.heap[k]?) (hs : w.heap.size ≤ w'.heap.size) : RH w' A H ow R := by
 obtain ⟨⟨ov, h1, h2, h3⟩, h4, h5, h6, h7, h8⟩ := h
 exact ⟨⟨ov, h1.fr (hf A (by rw [h4]; simp)), row_same h2 fun k e => hf k (by rw [h3 k e]; simp), h3⟩, h4, h5, fun i a b => row_same (h6 i a b) fun k e => hf k (by rw [h7 i a k e]; simp), h7, fun k hk => Nat.lt_of_lt_of_le (h8 k hk) hs⟩
theorem RH.low (h : RH w A H ow R) (hb : Below w.heap.size w w') : RH w' A H ow R := h.fr (fun k hk => hb.block k (h.lt k hk)) hb.size
set_option maxRecDepth 8000 in
theorem rnew_any (m : Int) (w : World) :
  Calls Tryz.prog 10 #[.int .i64 m] w fun e w' => ∃ b ow, e = .returned (pv b) ∧ RH w' b (Hs.new m) ow [] ∧ (∀ k, ow k ≠ none → w.heap.size ≤ k) ∧ Below w.heap.size w w' := by
 have HB := Lib.hid (below_new w)
 have HM : Hid (min (max m 0) 100000 = ((Hs.new m).most : Int)) := by
  show min (max m 0) 100000 = (((min (max m 0) 100000).toNat : Nat) : Int)
  omega
 go_enter Tryz.func10, Tryz.ntmps10
 go_wp2_with fail
 go_ret
 refine ⟨w.heap.size, fun k => if k = w.heap.size then some 0 else none, rfl, ?_, fun k hk => ?_, HB.out _⟩
 ·refine ⟨⟨.slice none 0 0, ?_, row_nil _ _ _ _, fun g e => by cases e⟩, if_pos rfl, rfl, fun i h => absurd h (Nat.not_lt_zero _), fun i h => absurd h (Nat.not_lt_zero _), fun k hk => ?_⟩
  ·rw [← HM.out]
   exact Blk.new w _ _
  ·rw [World.size_alloc]
   split at hk
   ·omega
   ·exact absurd rfl hk
 ·dsimp only at hk
  split at hk
  ·omega
  ·exact absurd rfl hk
theorem rused_any (h : RH w A H ow R) :
  Calls Tryz.prog 13 #[pv A] w fun e w' => e = .returned (.int .i64 (H.n : Int)) ∧ w = w' := by
 obtain ⟨⟨ov, hbk, -, -⟩, -, -, -, -, -⟩ := h
 have c2 := hbk.cell (k := 2) rfl
 clear hbk
 go_enter Tryz.func13, Tryz.ntmps13
 go_wp2_with fail
 go_ret
 exact ⟨rfl, rfl⟩
theorem RH.took (h : RH w A H ow R) : RH (w.setCell ⟨A, 2, none⟩ (.int .i64 ((H.n : Int) + 1))) A { H with n := H.n + 1 } ow R := by
 obtain ⟨⟨ov, h1, h2, h3⟩, h4, h5, h6, h7, h8⟩ := h
 have hk : ∀ k, k ≠ A → (w.setCell ⟨A, 2, none⟩ (.int .i64 ((H.n : Int) + 1))).heap[k]? = w.heap[k]? := fun k hk => Below.heap_setCell _ _ _ _ hk
 refine ⟨⟨ov, ?_, row_same h2 fun k e => hk k fun ek => h1.ne_row h2 (by decide) k e ek.symm, h3⟩, h4, h5, fun i a b => row_same (h6 i a b) fun k e => hk k fun ek => h1.ne_row (h6 i a b) (by decide) k e ek.symm, h7, fun k hk => by simpa [World.setCell] using h8 k hk⟩
 have := h1.set 2 (.int .i64 ((H.n : Int) + 1))
 rw [show ((H.n : Int) + 1) = (((H.n + 1 : Nat)) : Int) from by omega] at this ⊢
 exact this
theorem rtake_none (h : RH w A H ow R) (hm : H.most ≤ H.n) :
  Calls Tryz.prog 44 #[pv A] w fun e w' => e = .returned (.bool false) ∧ Below w.heap.size w w' := by
 obtain ⟨⟨ov, hbk, -, -⟩, -, -, -, -, -⟩ := h
 have HBK := Lib.hid hbk
 have hi : (H.most : Int) ≤ (H.n : Int) := by omega
 have hs0 : (fun w' : World => w'.cell? ⟨A, 1, none⟩ = some (.int .i64 (H.most : Int)) ∧ w'.cell? ⟨A, 2, none⟩ = some (.int .i64 (H.n : Int))) w.drew := ⟨(hbk.fr (w' := w.drew) rfl).cell (k := 1) rfl, (hbk.fr (w' := w.drew) rfl).cell (k := 2) rfl⟩
 have HBD := Lib.hid (below_draw w)
 clear hbk hm
 go_enter Tryz.func44, Tryz.ntmps44
 go_wp2_with fail
 refine wp_region_held_drew (S := (fun w' : World => w'.cell? ⟨A, 1, none⟩ = some (.int .i64 (H.most : Int)) ∧ w'.cell? ⟨A, 2, none⟩ = some (.int .i64 (H.n : Int)))) (by kernel_rfl) (hs0) (fun hHeld0 => ?_)
 generalize w.drew = v0 at *
 refine tk 0 ?_ ‹_› ?_ ?_; rotate_left; focus (intro w0 hSw; obtain ⟨e1, e2⟩ := hSw; go_simp; try with_reducible rfl)
 refine tk 1 ?_ ‹_› ?_ ?_; rotate_left; focus (intro w0 hSw; obtain ⟨e1, e2⟩ := hSw; go_simp; try with_reducible rfl)
 refine tk 2 ?_ ‹_› ?_ ?_; rotate_left; focus (intro w0 hSw; obtain ⟨e1, e2⟩ := hSw; go_simp; try with_reducible rfl)
 refine tk 3 ?_ ‹_› ?_ ?_; rotate_left; focus (intro w0 hSw; obtain ⟨e1, e2⟩ := hSw; go_simp; try with_reducible rfl)
 refine tk 4 ?_ ‹_› ?_ ?_; rotate_left; focus (intro w0 hSw; obtain ⟨e1, e2⟩ := hSw; go_simp; try with_reducible rfl)
 refine tk 5 ?_ ‹_› ?_ ?_; rotate_left; focus (intro w0 hSw; obtain ⟨e1, e2⟩ := hSw; go_simp; try with_reducible rfl)
 refine tk 6 ?_ ‹_› ?_ ?_; rotate_left; focus (intro w0 hSw; obtain ⟨e1, e2⟩ := hSw; go_simp; try with_reducible rfl)
 refine tk 7 ?_ ‹_› ?_ ?_; rotate_left; focus (intro w0 hSw; obtain ⟨e1, e2⟩ := hSw; go_simp; try with_reducible rfl)
 refine tk 8 ?_ ‹_› ?_ ?_; rotate_left; focus (intro w0 hSw; obtain ⟨e1, e2⟩ := hSw; go_simp; try with_reducible rfl)
 try simp only [PT]
 refine wpAnyH_done (by kernel_rfl) ?_ _
 clear hHeld0 hs0
 go_wp2_with fail
 go_ret
 exact ⟨rfl, HBD.out⟩
theorem rtake_some (h : RH w A H ow R) (hm : H.n < H.most) (hx : H.most ≤ 100000) :
  Calls Tryz.prog 44 #[pv A] w fun e w' => e = .returned (.bool true) ∧ RH w' A { H with n := H.n + 1 } ow R ∧ Fr (fun k => k < w.heap.size ∧ k ≠ A) w w' := by
 have HT := Lib.hid ((h.low (below_draw w)).took)
 have HF : Hid (Fr (fun k => k < w.heap.size ∧ k ≠ A) w (w.drew.setCell ⟨A, 2, none⟩ (.int .i64 ((H.n : Int) + 1)))) := (Fr.of (below_draw w) fun k hk => hk.1).setCell (p := ⟨A, 2, none⟩) (fun hk => hk.2 rfl) _
 obtain ⟨⟨ov, hbk, -, -⟩, -, -, -, -, -⟩ := h
 have HBK := Lib.hid (hbk.fr (w' := w.drew) rfl)
 have hi : ¬ (H.most : Int) ≤ (H.n : Int) := by omega
 have hs0 : (fun w' : World => w'.cell? ⟨A, 1, none⟩ = some (.int .i64 (H.most : Int)) ∧ w'.cell? ⟨A, 2, none⟩ = some (.int .i64 (H.n : Int))) w.drew := ⟨(hbk.fr (w' := w.drew) rfl).cell (k := 1) rfl, (hbk.fr (w' := w.drew) rfl).cell (k := 2) rfl⟩
 have hw : IntKind.i64.wrap ((H.n : Int) + 1) = (H.n : Int) + 1 := IntWalk.i64_in _ (by omega)
 clear hbk hm
 go_enter Tryz.func44, Tryz.ntmps44
 go_wp2_with fail
 refine wp_region_held_drew (S := (fun w' : World => w'.cell? ⟨A, 1, none⟩ = some (.int .i64 (H.most : Int)) ∧ w'.cell? ⟨A, 2, none⟩ = some (.int .i64 (H.n : Int)))) (by kernel_rfl) (hs0) (fun hHeld0 => ?_)
 generalize w.drew = v0 at *
 refine tk 0 ?_ ‹_› ?_ ?_; rotate_left; focus (intro w0 hSw; obtain ⟨e1, e2⟩ := hSw; go_simp; try with_reducible rfl)
 refine tk 1 ?_ ‹_› ?_ ?_; rotate_left; focus (intro w0 hSw; obtain ⟨e1, e2⟩ := hSw; go_simp; try with_reducible rfl)
 refine tk 2 ?_ ‹_› ?_ ?_; rotate_left; focus (intro w0 hSw; obtain ⟨e1, e2⟩ := hSw; go_simp; try with_reducible rfl)
 refine tk 3 ?_ ‹_› ?_ ?_; rotate_left; focus (intro w0 hSw; obtain ⟨e1, e2⟩ := hSw; go_simp; try with_reducible rfl)
 refine tk 4 ?_ ‹_› ?_ ?_; rotate_left; focus (intro w0 hSw; obtain ⟨e1, e2⟩ := hSw; go_simp; try with_reducible rfl)
 refine tk 5 ?_ ‹_› ?_ ?_; rotate_left; focus (intro w0 hSw; obtain ⟨e1, e2⟩ := hSw; go_simp; try with_reducible rfl)
 refine tk 6 ?_ ‹_› ?_ ?_; rotate_left; focus (intro w0 hSw; obtain ⟨e1, e2⟩ := hSw; go_simp; try with_reducible rfl)
 refine tk 7 ?_ ‹_› ?_ ?_; rotate_left; focus (intro w0 hSw; obtain ⟨e1, e2⟩ := hSw; go_simp; try with_reducible rfl)
 refine tk 8 ?_ ‹_› ?_ ?_; rotate_left; focus (intro w0 hSw; obtain ⟨e1, e2⟩ := hSw; go_simp; try with_reducible rfl)
 try simp only [PT]
 refine wpAnyH_done (by kernel_rfl) ?_ _
 clear hHeld0 hs0
 have c2 := HBK.out.cell (k := 2) rfl
 have z2 := HBK.out.fz 2
 go_wp2_with fail
 go_ret
 exact ⟨rfl, HT.out, HF.out⟩
end
def atI : Option Nat → Int
 | none => -1
 | some i => (i : Int)
set_option maxRecDepth 8000 in
set_option maxHeartbeats 2000000 in
theorem rat_any {w : World} {ow : Nat → Option Nat} {A : Nat} {H : Hs} {R : List Value} (h : RH w A H ow R) (v : Vl) (hl : H.os.length ≤ 100000) :
  Calls Tryz.prog 49 #[pv A, v.v] w fun e w' => e = .returned (.int .i64 (atI (H.at v))) ∧ Below w.heap.size w w' := by
 have hb0 := below_new w (.cells v.cs.toArray 29)
 obtain ⟨ov, hov, hrow, -⟩ := (h.low hb0).hb
 obtain ⟨A0, c0, rfl⟩ : ∃ A c, ov = .slice A H.os.length c := by
  rcases hrow.2 with ⟨e, h0⟩ | ⟨g, cap, cur, e, -⟩
  ·exact ⟨none, 0, by rw [e, h0]⟩
  ·exact ⟨_, cap, e⟩
 have HB : Hid (Below w.heap.size w (w.alloc (.cells v.cs.toArray 29)).drew) := hb0.drew
 have HA := Lib.hid (hov.fr (w' := (w.alloc (.cells v.cs.toArray 29)).drew) rfl)
 have HV := Lib.hid ((Blk.new w 29 v.cs).fr (w' := (w.alloc (.cells v.cs.toArray 29)).drew) rfl)
 clear hb0 hov hrow h
 obtain ⟨vk, vn, vs⟩ := v
 simp only [Vl.v, Vl.cs] at HB HA HV ⊢
 obtain ⟨r, HR⟩ : ∃ r, Hid (atI (H.at ⟨vk, vn, vs⟩) = r) := ⟨_, rfl⟩
 rw [HR.out]
 by_cases hk : vk = 7
 ·subst hk
  by_cases ht : vs = nil
  ·subst ht
   simp only [nil] at *
   by_cases h1 : vn < 1
   ·have hs0 : (fun w' : World => w'.cell? ⟨A, 0, none⟩ = some (.slice A0 H.os.length c0) ∧ w'.cell? ⟨w.heap.size, 0, none⟩ = some (.int .i64 7) ∧ w'.cell? ⟨w.heap.size, 1, none⟩ = some (.int .i64 vn) ∧ w'.cell? ⟨w.heap.size, 2, none⟩ = some (.string ⟨#[]⟩)) (w.alloc (.cells #[.int .i64 7, .int .i64 vn, .string ⟨#[]⟩] 29)).drew := ⟨HA.out.cell (k := 0) rfl, HV.out.cell (k := 0) rfl, HV.out.cell (k := 1) rfl, HV.out.cell (k := 2) rfl⟩
    go_enter Tryz.func49, Tryz.ntmps49
    go_wp2_with fail
    refine wp_region_held_drew (S := (fun w' : World => w'.cell? ⟨A, 0, none⟩ = some (.slice A0 H.os.length c0) ∧ w'.cell? ⟨w.heap.size, 0, none⟩ = some (.int .i64 7) ∧ w'.cell? ⟨w.heap.size, 1, none⟩ = some (.int .i64 vn) ∧ w'.cell? ⟨w.heap.size, 2, none⟩ = some (.string ⟨#[]⟩))) (by kernel_rfl) (hs0) (fun hHeld0 => ?_)
    generalize (w.alloc (.cells #[.int .i64 7, .int .i64 vn, .string ⟨#[]⟩] 29)).drew = v0 at *
    refine tk 0 ?_ ‹_› ?_ ?_; rotate_left; focus (intro w0 hSw; obtain ⟨e0, e1, e2, e3⟩ := hSw; go_simp; try with_reducible rfl)
    try simp only [PT]
    refine tk 1 ?_ ‹_› ?_ ?_; rotate_left; focus (intro w0 hSw; obtain ⟨e0, e1, e2, e3⟩ := hSw; go_simp; try with_reducible rfl)
    try simp only [PT]
    refine tk 2 (.bool false) ‹_› ?_ ?_
    ·intro w0 hSw
     obtain ⟨e0, e1, e2, e3⟩ := hSw
     go_simp
     all_goals first | done | (simp; done) | (simp [hk]; done)
    try simp only [PT]
    refine tk 3 ?_ ‹_› ?_ ?_; rotate_left; focus (intro w0 hSw; obtain ⟨e0, e1, e2, e3⟩ := hSw; go_simp; try with_reducible rfl)
    try simp only [PT]
    refine tk 4 ?_ ‹_› ?_ ?_; rotate_left; focus (intro w0 hSw; obtain ⟨e0, e1, e2, e3⟩ := hSw; go_simp; try with_reducible rfl)
    try simp only [PT]
    refine tk 5 ?_ ‹_› ?_ ?_; rotate_left; focus (intro w0 hSw; obtain ⟨e0, e1, e2, e3⟩ := hSw; go_simp; try with_reducible rfl)
    try simp only [PT]
    refine tk 6 (.bool false) ‹_› ?_ ?_
    ·intro w0 hSw
     obtain ⟨e0, e1, e2, e3⟩ := hSw
     go_simp
     all_goals first | done | exact (str_em ht).2 | exact (str_em ht).1 | simp [(str_em ht).1, (str_em ht).2]
    try simp only [PT]
    refine tk 7 ?_ ‹_› ?_ ?_; rotate_left; focus (intro w0 hSw; obtain ⟨e0, e1, e2, e3⟩ := hSw; go_simp; try with_reducible rfl)
    try simp only [PT]
    refine tk 8 ?_ ‹_› ?_ ?_; rotate_left; focus (intro w0 hSw; obtain ⟨e0, e1, e2, e3⟩ := hSw; go_simp; try with_reducible rfl)
    try simp only [PT]
    refine tk 9 ?_ ‹_› ?_ ?_; rotate_left; focus (intro w0 hSw; obtain ⟨e0, e1, e2, e3⟩ := hSw; go_simp; try with_reducible rfl)
    try simp only [PT]
    refine tk 10 ?_ ‹_› ?_ ?_; rotate_left; focus (intro w0 hSw; obtain ⟨e0, e1, e2, e3⟩ := hSw; go_simp; try with_reducible rfl)
    try simp only [PT]
    refine tk 11 (.bool true) ‹_› ?_ ?_
    ·intro w0 hSw
     obtain ⟨e0, e1, e2, e3⟩ := hSw
     go_simp
     all_goals first | done | (simp; done) | (simp; omega)
    try simp only [PT]
    refine tk 12 ?_ ‹_› ?_ ?_; rotate_left; focus (intro w0 hSw; obtain ⟨e0, e1, e2, e3⟩ := hSw; go_simp; try with_reducible rfl)
    try simp only [PT]
    refine tk 13 ?_ ‹_› ?_ ?_; rotate_left; focus (intro w0 hSw; obtain ⟨e0, e1, e2, e3⟩ := hSw; go_simp; try with_reducible rfl)
    try simp only [PT]
    refine sk 14 ‹_› ?_
    try simp only [PT]
    refine sk 15 ‹_› ?_
    try simp only [PT]
    refine sk 16 ‹_› ?_
    try simp only [PT]
    refine sk 17 ‹_› ?_
    try simp only [PT]
    refine sk 18 ‹_› ?_
    try simp only [PT]
    refine sk 19 ‹_› ?_
    try simp only [PT]
    refine sk 20 ‹_› ?_
    try simp only [PT]
    refine sk 21 ‹_› ?_
    try simp only [PT]
    refine tk 22 ?_ ‹_› ?_ ?_; rotate_left; focus (intro w0 hSw; obtain ⟨e0, e1, e2, e3⟩ := hSw; go_simp; try with_reducible rfl)
    try simp only [PT]
    refine wpAnyH_done (by kernel_rfl) ?_ _
    clear hHeld0 hs0
    go_wp2_with fail
    refine bodyPost_ret (results_tmp rfl _ _ _) rfl ⟨by rw [← HR.out, at_none (by rintro ⟨-, -, h, -⟩; exact absurd h (by show ¬ (1 : Int) ≤ vn; omega))]; rfl, HB.out⟩
   ·by_cases h2 : (H.os.length : Int) < vn
    ·have hs0 : (fun w' : World => w'.cell? ⟨A, 0, none⟩ = some (.slice A0 H.os.length c0) ∧ w'.cell? ⟨w.heap.size, 0, none⟩ = some (.int .i64 7) ∧ w'.cell? ⟨w.heap.size, 1, none⟩ = some (.int .i64 vn) ∧ w'.cell? ⟨w.heap.size, 2, none⟩ = some (.string ⟨#[]⟩)) (w.alloc (.cells #[.int .i64 7, .int .i64 vn, .string ⟨#[]⟩] 29)).drew := ⟨HA.out.cell (k := 0) rfl, HV.out.cell (k := 0) rfl, HV.out.cell (k := 1) rfl, HV.out.cell (k := 2) rfl⟩
     go_enter Tryz.func49, Tryz.ntmps49
     go_wp2_with fail
     refine wp_region_held_drew (S := (fun w' : World => w'.cell? ⟨A, 0, none⟩ = some (.slice A0 H.os.length c0) ∧ w'.cell? ⟨w.heap.size, 0, none⟩ = some (.int .i64 7) ∧ w'.cell? ⟨w.heap.size, 1, none⟩ = some (.int .i64 vn) ∧ w'.cell? ⟨w.heap.size, 2, none⟩ = some (.string ⟨#[]⟩))) (by kernel_rfl) (hs0) (fun hHeld0 => ?_)
     generalize (w.alloc (.cells #[.int .i64 7, .int .i64 vn, .string ⟨#[]⟩] 29)).drew = v0 at *
     refine tk 0 ?_ ‹_› ?_ ?_; rotate_left; focus (intro w0 hSw; obtain ⟨e0, e1, e2, e3⟩ := hSw; go_simp; try with_reducible rfl)
     try simp only [PT]
     refine tk 1 ?_ ‹_› ?_ ?_; rotate_left; focus (intro w0 hSw; obtain ⟨e0, e1, e2, e3⟩ := hSw; go_simp; try with_reducible rfl)
     try simp only [PT]
     refine tk 2 (.bool false) ‹_› ?_ ?_
     ·intro w0 hSw
      obtain ⟨e0, e1, e2, e3⟩ := hSw
      go_simp
      all_goals first | done | (simp; done) | (simp [hk]; done)
     try simp only [PT]
     refine tk 3 ?_ ‹_› ?_ ?_; rotate_left; focus (intro w0 hSw; obtain ⟨e0, e1, e2, e3⟩ := hSw; go_simp; try with_reducible rfl)
     try simp only [PT]
     refine tk 4 ?_ ‹_› ?_ ?_; rotate_left; focus (intro w0 hSw; obtain ⟨e0, e1, e2, e3⟩ := hSw; go_simp; try with_reducible rfl)
     try simp only [PT]
     refine tk 5 ?_ ‹_› ?_ ?_; rotate_left; focus (intro w0 hSw; obtain ⟨e0, e1, e2, e3⟩ := hSw; go_simp; try with_reducible rfl)
     try simp only [PT]
     refine tk 6 (.bool false) ‹_› ?_ ?_
     ·intro w0 hSw
      obtain ⟨e0, e1, e2, e3⟩ := hSw
      go_simp
      all_goals first | done | exact (str_em ht).2 | exact (str_em ht).1 | simp [(str_em ht).1, (str_em ht).2]
     try simp only [PT]
     refine tk 7 ?_ ‹_› ?_ ?_; rotate_left; focus (intro w0 hSw; obtain ⟨e0, e1, e2, e3⟩ := hSw; go_simp; try with_reducible rfl)
     try simp only [PT]
     refine tk 8 ?_ ‹_› ?_ ?_; rotate_left; focus (intro w0 hSw; obtain ⟨e0, e1, e2, e3⟩ := hSw; go_simp; try with_reducible rfl)
     try simp only [PT]
     refine tk 9 ?_ ‹_› ?_ ?_; rotate_left; focus (intro w0 hSw; obtain ⟨e0, e1, e2, e3⟩ := hSw; go_simp; try with_reducible rfl)
     try simp only [PT]
     refine tk 10 ?_ ‹_› ?_ ?_; rotate_left; focus (intro w0 hSw; obtain ⟨e0, e1, e2, e3⟩ := hSw; go_simp; try with_reducible rfl)
     try simp only [PT]
     refine tk 11 (.bool false) ‹_› ?_ ?_
     ·intro w0 hSw
      obtain ⟨e0, e1, e2, e3⟩ := hSw
      go_simp
      all_goals first | done | (simp; done) | (simp; omega)
     try simp only [PT]
     refine tk 12 ?_ ‹_› ?_ ?_; rotate_left; focus (intro w0 hSw; obtain ⟨e0, e1, e2, e3⟩ := hSw; go_simp; try with_reducible rfl)
     try simp only [PT]
     refine tk 13 ?_ ‹_› ?_ ?_; rotate_left; focus (intro w0 hSw; obtain ⟨e0, e1, e2, e3⟩ := hSw; go_simp; try with_reducible rfl)
     try simp only [PT]
     refine tk 14 ?_ ‹_› ?_ ?_; rotate_left; focus (intro w0 hSw; obtain ⟨e0, e1, e2, e3⟩ := hSw; go_simp; try with_reducible rfl)
     try simp only [PT]
     refine tk 15 ?_ ‹_› ?_ ?_; rotate_left; focus (intro w0 hSw; obtain ⟨e0, e1, e2, e3⟩ := hSw; go_simp; try with_reducible rfl)
     try simp only [PT]
     refine tk 16 ?_ ‹_› ?_ ?_; rotate_left; focus (intro w0 hSw; obtain ⟨e0, e1, e2, e3⟩ := hSw; go_simp; try with_reducible rfl)
     try simp only [PT]
     refine tk 17 ?_ ‹_› ?_ ?_; rotate_left; focus (intro w0 hSw; obtain ⟨e0, e1, e2, e3⟩ := hSw; go_simp; try with_reducible rfl)
     try simp only [PT]
     refine tk 18 ?_ ‹_› ?_ ?_; rotate_left; focus (intro w0 hSw; obtain ⟨e0, e1, e2, e3⟩ := hSw; go_simp; try with_reducible rfl)
     try simp only [PT]
     refine tk 19 ?_ ‹_› ?_ ?_; rotate_left; focus (intro w0 hSw; obtain ⟨e0, e1, e2, e3⟩ := hSw; go_simp; try with_reducible rfl)
     try simp only [PT]
     refine tk 20 ?_ ‹_› ?_ ?_; rotate_left; focus (intro w0 hSw; obtain ⟨e0, e1, e2, e3⟩ := hSw; go_simp; try with_reducible rfl)
     try simp only [PT]
     refine tk 21 (.bool true) ‹_› ?_ ?_
     ·intro w0 hSw
      obtain ⟨e0, e1, e2, e3⟩ := hSw
      go_simp
      all_goals first | done | (simp; done) | (simp; omega)
     try simp only [PT]
     refine tk 22 ?_ ‹_› ?_ ?_; rotate_left; focus (intro w0 hSw; obtain ⟨e0, e1, e2, e3⟩ := hSw; go_simp; try with_reducible rfl)
     try simp only [PT]
     refine wpAnyH_done (by kernel_rfl) ?_ _
     clear hHeld0 hs0
     go_wp2_with fail
     refine bodyPost_ret (results_tmp rfl _ _ _) rfl ⟨by rw [← HR.out, at_none (by rintro ⟨-, -, -, h⟩; exact absurd h (by show ¬ vn ≤ (H.os.length : Int); omega))]; rfl, HB.out⟩
    ·have hs0 : (fun w' : World => w'.cell? ⟨A, 0, none⟩ = some (.slice A0 H.os.length c0) ∧ w'.cell? ⟨w.heap.size, 0, none⟩ = some (.int .i64 7) ∧ w'.cell? ⟨w.heap.size, 1, none⟩ = some (.int .i64 vn) ∧ w'.cell? ⟨w.heap.size, 2, none⟩ = some (.string ⟨#[]⟩)) (w.alloc (.cells #[.int .i64 7, .int .i64 vn, .string ⟨#[]⟩] 29)).drew := ⟨HA.out.cell (k := 0) rfl, HV.out.cell (k := 0) rfl, HV.out.cell (k := 1) rfl, HV.out.cell (k := 2) rfl⟩
     go_enter Tryz.func49, Tryz.ntmps49
     go_wp2_with fail
     refine wp_region_held_drew (S := (fun w' : World => w'.cell? ⟨A, 0, none⟩ = some (.slice A0 H.os.length c0) ∧ w'.cell? ⟨w.heap.size, 0, none⟩ = some (.int .i64 7) ∧ w'.cell? ⟨w.heap.size, 1, none⟩ = some (.int .i64 vn) ∧ w'.cell? ⟨w.heap.size, 2, none⟩ = some (.string ⟨#[]⟩))) (by kernel_rfl) (hs0) (fun hHeld0 => ?_)
     generalize (w.alloc (.cells #[.int .i64 7, .int .i64 vn, .string ⟨#[]⟩] 29)).drew = v0 at *
     refine tk 0 ?_ ‹_› ?_ ?_; rotate_left; focus (intro w0 hSw; obtain ⟨e0, e1, e2, e3⟩ := hSw; go_simp; try with_reducible rfl)
     try simp only [PT]
     refine tk 1 ?_ ‹_› ?_ ?_; rotate_left; focus (intro w0 hSw; obtain ⟨e0, e1, e2, e3⟩ := hSw; go_simp; try with_reducible rfl)
     try simp only [PT]
     refine tk 2 (.bool false) ‹_› ?_ ?_
     ·intro w0 hSw
      obtain ⟨e0, e1, e2, e3⟩ := hSw
      go_simp
      all_goals first | done | (simp; done) | (simp [hk]; done)
     try simp only [PT]
     refine tk 3 ?_ ‹_› ?_ ?_; rotate_left; focus (intro w0 hSw; obtain ⟨e0, e1, e2, e3⟩ := hSw; go_simp; try with_reducible rfl)
     try simp only [PT]
     refine tk 4 ?_ ‹_› ?_ ?_; rotate_left; focus (intro w0 hSw; obtain ⟨e0, e1, e2, e3⟩ := hSw; go_simp; try with_reducible rfl)
     try simp only [PT]
     refine tk 5 ?_ ‹_› ?_ ?_; rotate_left; focus (intro w0 hSw; obtain ⟨e0, e1, e2, e3⟩ := hSw; go_simp; try with_reducible rfl)
     try simp only [PT]
     refine tk 6 (.bool false) ‹_› ?_ ?_
     ·intro w0 hSw
      obtain ⟨e0, e1, e2, e3⟩ := hSw
      go_simp
      all_goals first | done | exact (str_em ht).2 | exact (str_em ht).1 | simp [(str_em ht).1, (str_em ht).2]
     try simp only [PT]
     refine tk 7 ?_ ‹_› ?_ ?_; rotate_left; focus (intro w0 hSw; obtain ⟨e0, e1, e2, e3⟩ := hSw; go_simp; try with_reducible rfl)
     try simp only [PT]
     refine tk 8 ?_ ‹_› ?_ ?_; rotate_left; focus (intro w0 hSw; obtain ⟨e0, e1, e2, e3⟩ := hSw; go_simp; try with_reducible rfl)
     try simp only [PT]
     refine tk 9 ?_ ‹_› ?_ ?_; rotate_left; focus (intro w0 hSw; obtain ⟨e0, e1, e2, e3⟩ := hSw; go_simp; try with_reducible rfl)
     try simp only [PT]
     refine tk 10 ?_ ‹_› ?_ ?_; rotate_left; focus (intro w0 hSw; obtain ⟨e0, e1, e2, e3⟩ := hSw; go_simp; try with_reducible rfl)
     try simp only [PT]
     refine tk 11 (.bool false) ‹_› ?_ ?_
     ·intro w0 hSw
      obtain ⟨e0, e1, e2, e3⟩ := hSw
      go_simp
      all_goals first | done | (simp; done) | (simp; omega)
     try simp only [PT]
     refine tk 12 ?_ ‹_› ?_ ?_; rotate_left; focus (intro w0 hSw; obtain ⟨e0, e1, e2, e3⟩ := hSw; go_simp; try with_reducible rfl)
     try simp only [PT]
     refine tk 13 ?_ ‹_› ?_ ?_; rotate_left; focus (intro w0 hSw; obtain ⟨e0, e1, e2, e3⟩ := hSw; go_simp; try with_reducible rfl)
     try simp only [PT]
     refine tk 14 ?_ ‹_› ?_ ?_; rotate_left; focus (intro w0 hSw; obtain ⟨e0, e1, e2, e3⟩ := hSw; go_simp; try with_reducible rfl)
     try simp only [PT]
     refine tk 15 ?_ ‹_› ?_ ?_; rotate_left; focus (intro w0 hSw; obtain ⟨e0, e1, e2, e3⟩ := hSw; go_simp; try with_reducible rfl)
     try simp only [PT]
     refine tk 16 ?_ ‹_› ?_ ?_; rotate_left; focus (intro w0 hSw; obtain ⟨e0, e1, e2, e3⟩ := hSw; go_simp; try with_reducible rfl)
     try simp only [PT]
     refine tk 17 ?_ ‹_› ?_ ?_; rotate_left; focus (intro w0 hSw; obtain ⟨e0, e1, e2, e3⟩ := hSw; go_simp; try with_reducible rfl)
     try simp only [PT]
     refine tk 18 ?_ ‹_› ?_ ?_; rotate_left; focus (intro w0 hSw; obtain ⟨e0, e1, e2, e3⟩ := hSw; go_simp; try with_reducible rfl)
     try simp only [PT]
     refine tk 19 ?_ ‹_› ?_ ?_; rotate_left; focus (intro w0 hSw; obtain ⟨e0, e1, e2, e3⟩ := hSw; go_simp; try with_reducible rfl)
     try simp only [PT]
     refine tk 20 ?_ ‹_› ?_ ?_; rotate_left; focus (intro w0 hSw; obtain ⟨e0, e1, e2, e3⟩ := hSw; go_simp; try with_reducible rfl)
     try simp only [PT]
     refine tk 21 (.bool false) ‹_› ?_ ?_
     ·intro w0 hSw
      obtain ⟨e0, e1, e2, e3⟩ := hSw
      go_simp
      all_goals first | done | (simp; done) | (simp; omega)
     try simp only [PT]
     refine tk 22 ?_ ‹_› ?_ ?_; rotate_left; focus (intro w0 hSw; obtain ⟨e0, e1, e2, e3⟩ := hSw; go_simp; try with_reducible rfl)
     try simp only [PT]
     refine wpAnyH_done (by kernel_rfl) ?_ _
     clear hHeld0 hs0
     have hw : IntKind.i64.wrap (vn - 1) = vn - 1 := IntWalk.i64_in _ (by omega)
     have d1 : v0.cell? ⟨w.heap.size, 1, none⟩ = some (.int .i64 vn) := HV.out.cell (k := 1) rfl
     go_wp2_with fail
     refine bodyPost_ret (results_tmp rfl _ _ _) rfl ⟨?_, HB.out⟩
     rw [← HR.out, at_some' ⟨rfl, rfl, by show (1 : Int) ≤ vn; omega, by show vn ≤ (H.os.length : Int); omega⟩]
     show Ending.returned (.int .i64 (vn - 1)) = Ending.returned (.int .i64 (((vn - 1).toNat : Nat) : Int))
     rw [Int.toNat_of_nonneg (by omega)]
  ·have hs0 : (fun w' : World => w'.cell? ⟨A, 0, none⟩ = some (.slice A0 H.os.length c0) ∧ w'.cell? ⟨w.heap.size, 0, none⟩ = some (.int .i64 7) ∧ w'.cell? ⟨w.heap.size, 1, none⟩ = some (.int .i64 vn) ∧ w'.cell? ⟨w.heap.size, 2, none⟩ = some (.string vs)) (w.alloc (.cells #[.int .i64 7, .int .i64 vn, .string vs] 29)).drew := ⟨HA.out.cell (k := 0) rfl, HV.out.cell (k := 0) rfl, HV.out.cell (k := 1) rfl, HV.out.cell (k := 2) rfl⟩
   go_enter Tryz.func49, Tryz.ntmps49
   go_wp2_with fail
   refine wp_region_held_drew (S := (fun w' : World => w'.cell? ⟨A, 0, none⟩ = some (.slice A0 H.os.length c0) ∧ w'.cell? ⟨w.heap.size, 0, none⟩ = some (.int .i64 7) ∧ w'.cell? ⟨w.heap.size, 1, none⟩ = some (.int .i64 vn) ∧ w'.cell? ⟨w.heap.size, 2, none⟩ = some (.string vs))) (by kernel_rfl) (hs0) (fun hHeld0 => ?_)
   generalize (w.alloc (.cells #[.int .i64 7, .int .i64 vn, .string vs] 29)).drew = v0 at *
   refine tk 0 ?_ ‹_› ?_ ?_; rotate_left; focus (intro w0 hSw; obtain ⟨e0, e1, e2, e3⟩ := hSw; go_simp; try with_reducible rfl)
   try simp only [PT]
   refine tk 1 ?_ ‹_› ?_ ?_; rotate_left; focus (intro w0 hSw; obtain ⟨e0, e1, e2, e3⟩ := hSw; go_simp; try with_reducible rfl)
   try simp only [PT]
   refine tk 2 (.bool false) ‹_› ?_ ?_
   ·intro w0 hSw
    obtain ⟨e0, e1, e2, e3⟩ := hSw
    go_simp
    all_goals first | done | (simp; done) | (simp [hk]; done)
   try simp only [PT]
   refine tk 3 ?_ ‹_› ?_ ?_; rotate_left; focus (intro w0 hSw; obtain ⟨e0, e1, e2, e3⟩ := hSw; go_simp; try with_reducible rfl)
   try simp only [PT]
   refine tk 4 ?_ ‹_› ?_ ?_; rotate_left; focus (intro w0 hSw; obtain ⟨e0, e1, e2, e3⟩ := hSw; go_simp; try with_reducible rfl)
   try simp only [PT]
   refine tk 5 ?_ ‹_› ?_ ?_; rotate_left; focus (intro w0 hSw; obtain ⟨e0, e1, e2, e3⟩ := hSw; go_simp; try with_reducible rfl)
   try simp only [PT]
   refine tk 6 (.bool true) ‹_› ?_ ?_
   ·intro w0 hSw
    obtain ⟨e0, e1, e2, e3⟩ := hSw
    go_simp
    all_goals first | done | exact (str_em ht).2 | exact (str_em ht).1 | simp [(str_em ht).1, (str_em ht).2]
   try simp only [PT]
   refine tk 7 ?_ ‹_› ?_ ?_; rotate_left; focus (intro w0 hSw; obtain ⟨e0, e1, e2, e3⟩ := hSw; go_simp; try with_reducible rfl)
   try simp only [PT]
   refine tk 8 ?_ ‹_› ?_ ?_; rotate_left; focus (intro w0 hSw; obtain ⟨e0, e1, e2, e3⟩ := hSw; go_simp; try with_reducible rfl)
   try simp only [PT]
   refine sk 9 ‹_› ?_
   try simp only [PT]
   refine sk 10 ‹_› ?_
   try simp only [PT]
   refine sk 11 ‹_› ?_
   try simp only [PT]
   refine tk 12 ?_ ‹_› ?_ ?_; rotate_left; focus (intro w0 hSw; obtain ⟨e0, e1, e2, e3⟩ := hSw; go_simp; try with_reducible rfl)
   try simp only [PT]
   refine tk 13 ?_ ‹_› ?_ ?_; rotate_left; focus (intro w0 hSw; obtain ⟨e0, e1, e2, e3⟩ := hSw; go_simp; try with_reducible rfl)
   try simp only [PT]
   refine sk 14 ‹_› ?_
   try simp only [PT]
   refine sk 15 ‹_› ?_
   try simp only [PT]
   refine sk 16 ‹_› ?_
   try simp only [PT]
   refine sk 17 ‹_› ?_
   try simp only [PT]
   refine sk 18 ‹_› ?_
   try simp only [PT]
   refine sk 19 ‹_› ?_
   try simp only [PT]
   refine sk 20 ‹_› ?_
   try simp only [PT]
   refine sk 21 ‹_› ?_
   try simp only [PT]
   refine tk 22 ?_ ‹_› ?_ ?_; rotate_left; focus (intro w0 hSw; obtain ⟨e0, e1, e2, e3⟩ := hSw; go_simp; try with_reducible rfl)
   try simp only [PT]
   refine wpAnyH_done (by kernel_rfl) ?_ _
   clear hHeld0 hs0
   go_wp2_with fail
   refine bodyPost_ret (results_tmp rfl _ _ _) rfl ⟨by rw [← HR.out, at_none (by rintro ⟨-, h, -⟩; exact ht h)]; rfl, HB.out⟩
 ·have hs0 : (fun w' : World => w'.cell? ⟨A, 0, none⟩ = some (.slice A0 H.os.length c0) ∧ w'.cell? ⟨w.heap.size, 0, none⟩ = some (.int .i64 vk) ∧ w'.cell? ⟨w.heap.size, 1, none⟩ = some (.int .i64 vn) ∧ w'.cell? ⟨w.heap.size, 2, none⟩ = some (.string vs)) (w.alloc (.cells #[.int .i64 vk, .int .i64 vn, .string vs] 29)).drew := ⟨HA.out.cell (k := 0) rfl, HV.out.cell (k := 0) rfl, HV.out.cell (k := 1) rfl, HV.out.cell (k := 2) rfl⟩
  go_enter Tryz.func49, Tryz.ntmps49
  go_wp2_with fail
  refine wp_region_held_drew (S := (fun w' : World => w'.cell? ⟨A, 0, none⟩ = some (.slice A0 H.os.length c0) ∧ w'.cell? ⟨w.heap.size, 0, none⟩ = some (.int .i64 vk) ∧ w'.cell? ⟨w.heap.size, 1, none⟩ = some (.int .i64 vn) ∧ w'.cell? ⟨w.heap.size, 2, none⟩ = some (.string vs))) (by kernel_rfl) (hs0) (fun hHeld0 => ?_)
  generalize (w.alloc (.cells #[.int .i64 vk, .int .i64 vn, .string vs] 29)).drew = v0 at *
  refine tk 0 ?_ ‹_› ?_ ?_; rotate_left; focus (intro w0 hSw; obtain ⟨e0, e1, e2, e3⟩ := hSw; go_simp; try with_reducible rfl)
  try simp only [PT]
  refine tk 1 ?_ ‹_› ?_ ?_; rotate_left; focus (intro w0 hSw; obtain ⟨e0, e1, e2, e3⟩ := hSw; go_simp; try with_reducible rfl)
  try simp only [PT]
  refine tk 2 (.bool true) ‹_› ?_ ?_
  ·intro w0 hSw
   obtain ⟨e0, e1, e2, e3⟩ := hSw
   go_simp
   all_goals first | done | (simp; done) | (simp [hk]; done)
  try simp only [PT]
  refine tk 3 ?_ ‹_› ?_ ?_; rotate_left; focus (intro w0 hSw; obtain ⟨e0, e1, e2, e3⟩ := hSw; go_simp; try with_reducible rfl)
  try simp only [PT]
  refine sk 4 ‹_› ?_
  try simp only [PT]
  refine sk 5 ‹_› ?_
  try simp only [PT]
  refine sk 6 ‹_› ?_
  try simp only [PT]
  refine tk 7 ?_ ‹_› ?_ ?_; rotate_left; focus (intro w0 hSw; obtain ⟨e0, e1, e2, e3⟩ := hSw; go_simp; try with_reducible rfl)
  try simp only [PT]
  refine tk 8 ?_ ‹_› ?_ ?_; rotate_left; focus (intro w0 hSw; obtain ⟨e0, e1, e2, e3⟩ := hSw; go_simp; try with_reducible rfl)
  try simp only [PT]
  refine sk 9 ‹_› ?_
  try simp only [PT]
  refine sk 10 ‹_› ?_
  try simp only [PT]
  refine sk 11 ‹_› ?_
  try simp only [PT]
  refine tk 12 ?_ ‹_› ?_ ?_; rotate_left; focus (intro w0 hSw; obtain ⟨e0, e1, e2, e3⟩ := hSw; go_simp; try with_reducible rfl)
  try simp only [PT]
  refine tk 13 ?_ ‹_› ?_ ?_; rotate_left; focus (intro w0 hSw; obtain ⟨e0, e1, e2, e3⟩ := hSw; go_simp; try with_reducible rfl)
  try simp only [PT]
  refine sk 14 ‹_› ?_
  try simp only [PT]
  refine sk 15 ‹_› ?_
  try simp only [PT]
  refine sk 16 ‹_› ?_
  try simp only [PT]
  refine sk 17 ‹_› ?_
  try simp only [PT]
  refine sk 18 ‹_› ?_
  try simp only [PT]
  refine sk 19 ‹_› ?_
  try simp only [PT]
  refine sk 20 ‹_› ?_
  try simp only [PT]
  refine sk 21 ‹_› ?_
  try simp only [PT]
  refine tk 22 ?_ ‹_› ?_ ?_; rotate_left; focus (intro w0 hSw; obtain ⟨e0, e1, e2, e3⟩ := hSw; go_simp; try with_reducible rfl)
  try simp only [PT]
  refine wpAnyH_done (by kernel_rfl) ?_ _
  clear hHeld0 hs0
  go_wp2_with fail
  refine bodyPost_ret (results_tmp rfl _ _ _) rfl ⟨by rw [← HR.out, at_none (by rintro ⟨h, -⟩; exact hk h)]; rfl, HB.out⟩
section
variable {w w' : World} {ow : Nat → Option Nat} {A : Nat} {H : Hs} {R : List Value}
theorem rows_cell {B n s : Nat} {T : TypeId} {g cap : Nat} {v : Value} {xs : List Value} (h : w.ownsRow B T s v n xs) (e : v = .slice (some ⟨g, 0, none⟩) n cap) {j : Nat} {u : Value} (hj : xs[j]? = some u) : w.cell? ⟨g, j, none⟩ = some u ∧ w.frozen? ⟨g, j, none⟩ = false := by
 obtain ⟨hx, h2⟩ := h
 have hlt : j < n * s := by
  have := (List.getElem?_eq_some_iff.1 hj).1
  rw [hx] at this
  exact this
 rcases h2 with ⟨e2, h0⟩ | ⟨g', cap', cur, e2, -, hg, -, -, -, htk⟩
 ·rw [h0, Nat.zero_mul] at hlt
  omega
 ·rw [e] at e2
  injection e2 with e3 _ _
  injection e3 with e3
  injection e3 with e3 _ _
  subst e3
  rw [← htk, List.getElem?_take_of_lt hlt, Array.getElem?_toList] at hj
  refine ⟨?_, ?_⟩
  ·unfold World.cell?
   rw [hg]
   simpa using hj
  ·unfold World.frozen?
   rw [hg]
   simp
theorem RH.row (h : RH w A H ow R) {i : Nat} {o : Ob} (ho : H.os[i]? = some o) : ∃ g cap r, w.cell? ⟨A, 0, none⟩ = some (.slice (some ⟨g, 0, none⟩) H.os.length cap) ∧ H.os.length ≤ cap ∧ R[i]? = some r ∧ (∀ j v, (objV (o, r))[j]? = some v → w.cell? ⟨g, i * 8 + j, none⟩ = some v ∧ w.frozen? ⟨g, i * 8 + j, none⟩ = false) ∧ ow g = some 0 := by
 obtain ⟨ov, hov, hrow, hown⟩ := h.hb
 have hi : i < H.os.length := (List.getElem?_eq_some_iff.1 ho).1
 have hr : i < R.length := by rw [h.len]; exact hi
 rcases id hrow.2 with ⟨e, h0⟩ | ⟨g, cap, cur, e, -, -, hc, -⟩
 ·omega
 ·refine ⟨g, cap, R[i], by rw [← e]; exact hov.cell (k := 0) rfl, hc, List.getElem?_eq_getElem hr, fun j v hj => ?_, hown g (by rw [e]; rfl)⟩
  have hj8 : j < 8 := (List.getElem?_eq_some_iff.1 hj).1
  refine rows_cell hrow e ?_
  rw [flat_get objV 8 objV_len _ i j hj8, show (H.os.zip R)[i]? = some (o, R[i]) from List.getElem?_zip_eq_some.2 ⟨ho, List.getElem?_eq_getElem hr⟩]
  exact hj
set_option maxRecDepth 8000 in
theorem rclass_any (h : RH w A H ow R) (v : Vl) (hl : H.os.length ≤ 100000) :
  Calls Tryz.prog 46 #[pv A, v.v] w fun e w' => e = .returned (.string (clsR (H.obj v))) ∧ Below w.heap.size w w' := by
 have hb0 := below_new w (.cells v.cs.toArray 29)
 have HH := Lib.hid (h.low hb0)
 have HB := Lib.hid hb0
 have HT := Lib.hid (rat_any (h.low hb0) v hl)
 clear h hb0
 cases hat : H.at v with
 | none =>
  have HO : Hid (H.obj v = none) := by show (H.at v).bind _ = none; rw [hat]; rfl
  rw [hat] at HT
  clear hat
  obtain ⟨vk, vn, vs⟩ := v
  simp only [Vl.v, Vl.cs, atI] at HB HT HH ⊢
  go_enter Tryz.func46, Tryz.ntmps46
  go_wp2_with fail
  refine HT.out.mono ?_
  rintro e w1 ⟨rfl, hb⟩
  go_wp2_with fail
  refine bodyPost_ret (results_tmp rfl _ _ _) rfl ⟨by rw [HO.out]; rfl, HB.out.trans (hb.mono HB.out.size)⟩
 | some i =>
  have hi := at_lt hat
  obtain ⟨o, ho⟩ : ∃ o, H.os[i]? = some o := ⟨H.os[i], List.getElem?_eq_getElem hi⟩
  have HO : Hid (H.obj v = some o) := by show (H.at v).bind _ = some o; rw [hat]; exact ho
  rw [hat] at HT
  clear hat
  obtain ⟨vk, vn, vs⟩ := v
  simp only [Vl.v, Vl.cs, atI] at HB HT HH ⊢
  go_enter Tryz.func46, Tryz.ntmps46
  go_wp2_with fail
  refine HT.out.mono ?_
  rintro e w1 ⟨rfl, hb⟩
  obtain ⟨g, cap, r, c0, hcap, hr, hcell, -⟩ := (HH.out.low hb).row ho
  have k0 := (hcell 0 _ rfl).1
  have hii : (i : Int) < (H.os.length : Int) := by omega
  have HBB := Lib.hid (HB.out.trans (hb.mono HB.out.size))
  clear hcell hb HT HB
  simp only [Nat.add_zero] at k0
  go_wp2_with fail
  refine bodyPost_ret (results_tmp rfl _ _ _) rfl ⟨by rw [HO.out]; rfl, HBB.out⟩
set_option maxRecDepth 8000 in
theorem rIsOpen_any (h : RH w A H ow R) (v : Vl) (hl : H.os.length ≤ 100000) :
  Calls Tryz.prog 48 #[pv A, v.v] w fun e w' => e = .returned (.bool (openR (H.obj v))) ∧ Below w.heap.size w w' := by
 have hb0 := below_new w (.cells v.cs.toArray 29)
 have HH := Lib.hid (h.low hb0)
 have HB := Lib.hid hb0
 have HT := Lib.hid (rat_any (h.low hb0) v hl)
 clear h hb0
 cases hat : H.at v with
 | none =>
  have HO : Hid (H.obj v = none) := by show (H.at v).bind _ = none; rw [hat]; rfl
  rw [hat] at HT
  clear hat
  obtain ⟨vk, vn, vs⟩ := v
  simp only [Vl.v, Vl.cs, atI] at HB HT HH ⊢
  go_enter Tryz.func48, Tryz.ntmps48
  go_wp2_with fail
  refine HT.out.mono ?_
  rintro e w1 ⟨rfl, hb⟩
  go_wp2_with fail
  refine bodyPost_ret (results_tmp rfl _ _ _) rfl ⟨by rw [HO.out]; rfl, HB.out.trans (hb.mono HB.out.size)⟩
 | some i =>
  have hi := at_lt hat
  obtain ⟨o, ho⟩ : ∃ o, H.os[i]? = some o := ⟨H.os[i], List.getElem?_eq_getElem hi⟩
  have HO : Hid (H.obj v = some o) := by show (H.at v).bind _ = some o; rw [hat]; exact ho
  rw [hat] at HT
  clear hat
  obtain ⟨vk, vn, vs⟩ := v
  simp only [Vl.v, Vl.cs, atI] at HB HT HH ⊢
  go_enter Tryz.func48, Tryz.ntmps48
  go_wp2_with fail
  refine HT.out.mono ?_
  rintro e w1 ⟨rfl, hb⟩
  obtain ⟨g, cap, r, c0, hcap, hr, hcell, -⟩ := (HH.out.low hb).row ho
  have k0 := (hcell 5 _ rfl).1
  have hii : (i : Int) < (H.os.length : Int) := by omega
  have HBB := Lib.hid (HB.out.trans (hb.mono HB.out.size))
  clear hcell hb HT HB
  go_wp2_with fail
  refine bodyPost_ret (results_tmp rfl _ _ _) rfl ⟨by rw [HO.out]; rfl, HBB.out⟩
end
theorem rnull_any (w : World) : Calls Tryz.prog 70 #[] w fun e w' => e = .returned null.v ∧ Below w.heap.size w w' := by
 have HB := Lib.hid (below_new w)
 go_enter Tryz.func70, Tryz.ntmps70
 go_wp2_with fail
 refine bodyPost_ret (res_v rfl _ _ w.heap.size null (by rfl) ?_) rfl ⟨rfl, ?_⟩
 ·exact Blk.new w _ _
 ·exact HB.out _
section
variable {w w' : World} {ow : Nat → Option Nat} {A : Nat} {H : Hs} {R : List Value}
set_option maxRecDepth 8000 in
theorem rproto_any (h : RH w A H ow R) (v : Vl) (hl : H.os.length ≤ 100000) :
  Calls Tryz.prog 47 #[pv A, v.v] w fun e w' => e = .returned (protoR (H.obj v)).v ∧ Below w.heap.size w w' := by
 have hb0 := two_low (w := w) 29 29 (Vl.cs v) (Vl.cs vundef)
 have HH := Lib.hid (h.low hb0)
 have HB := Lib.hid hb0
 have HT := Lib.hid (rat_any (h.low hb0) v hl)
 have HR0 : Hid (Blk ((w.alloc (.cells (Vl.cs v).toArray 29)).alloc (.cells (Vl.cs vundef).toArray 29)) (w.heap.size + 1) 29 vundef.cs) := by
  obtain ⟨W0, e, h1, h2, -⟩ := two_new w 29 29 v.cs vundef.cs
  rw [← e] at h2
  exact h2
 clear h hb0
 cases hat : H.at v with
 | none =>
  have HO : Hid (H.obj v = none) := by show (H.at v).bind _ = none; rw [hat]; rfl
  have HN := Lib.hid rnull_any
  rw [hat] at HT
  clear hat
  obtain ⟨vk, vn, vs⟩ := v
  simp only [Vl.v, Vl.cs, atI, vundef, nil, null] at HB HT HH HR0 HN ⊢
  go_enter Tryz.func47, Tryz.ntmps47
  go_wp2_with fail
  refine HT.out.mono ?_
  rintro e w1 ⟨rfl, hb⟩
  have HB1 := Lib.hid (HB.out.trans (hb.mono HB.out.size))
  have HR1 := Lib.hid (HR0.out.low hb)
  clear hb HT HB HR0
  go_wp2_with fail
  refine (HN.out _).mono ?_
  rintro e w2 ⟨rfl, hb⟩
  have HB2 := Lib.hid (HB1.out.trans (hb.mono HB1.out.size))
  have HR2 := Lib.hid (HR1.out.low hb)
  obtain ⟨d0, d1, d2⟩ := Blk.three (v := ⟨0, 0, ⟨#[]⟩⟩) HR2.out
  have z := HR2.out.fz
  dsimp only at d0 d1 d2
  clear hb HN HB1 HR1
  go_wp2_with fail
  refine bodyPost_ret (res_v rfl _ _ (w.heap.size + 1) null (by rfl) ?_) rfl ⟨by rw [HO.out]; rfl, ?_⟩
  ·exact ((HR2.out.set 0 _).set 1 _).set 2 _
  ·exact (((HB2.out).setCell (p := ⟨w.heap.size + 1, 0, none⟩) (Nat.le_succ _) _).setCell (p := ⟨w.heap.size + 1, 1, none⟩) (Nat.le_succ _) _).setCell (p := ⟨w.heap.size + 1, 2, none⟩) (Nat.le_succ _) _
 | some i =>
  have hi := at_lt hat
  obtain ⟨o, ho⟩ : ∃ o, H.os[i]? = some o := ⟨H.os[i], List.getElem?_eq_getElem hi⟩
  have HO : Hid (H.obj v = some o) := by show (H.at v).bind _ = some o; rw [hat]; exact ho
  rw [hat] at HT
  clear hat
  obtain ⟨vk, vn, vs⟩ := v
  simp only [Vl.v, Vl.cs, atI, vundef, nil] at HB HT HH HR0 ⊢
  go_enter Tryz.func47, Tryz.ntmps47
  go_wp2_with fail
  refine HT.out.mono ?_
  rintro e w1 ⟨rfl, hb⟩
  obtain ⟨g, cap, r, c0, hcap, hr, hcell, -⟩ := (HH.out.low hb).row ho
  have k1 := (hcell 1 _ rfl).1
  have k2 := (hcell 2 _ rfl).1
  have k3 := (hcell 3 _ rfl).1
  have hii : (i : Int) < (H.os.length : Int) := by omega
  have HB2 := Lib.hid (HB.out.trans (hb.mono HB.out.size))
  have HR2 := Lib.hid (HR0.out.low hb)
  obtain ⟨d0, d1, d2⟩ := Blk.three (v := ⟨0, 0, ⟨#[]⟩⟩) HR2.out
  have z := HR2.out.fz
  dsimp only at d0 d1 d2
  clear hcell hb HT HB HR0
  obtain ⟨q, HQ⟩ : ∃ q, Hid (refO o.proto = q) := ⟨_, rfl⟩
  rw [HQ.out] at k1 k2 k3
  obtain ⟨qk, qn, qs⟩ := q
  dsimp only at k1 k2 k3
  go_wp2_with fail
  refine bodyPost_ret (res_v rfl _ _ (w.heap.size + 1) ⟨qk, qn, qs⟩ (by rfl) ?_) rfl ⟨by rw [HO.out]; show _ = Ending.returned (refO o.proto).v; rw [HQ.out], ?_⟩
  ·exact ((HR2.out.set 0 _).set 1 _).set 2 _
  ·exact (((HB2.out).setCell (p := ⟨w.heap.size + 1, 0, none⟩) (Nat.le_succ _) _).setCell (p := ⟨w.heap.size + 1, 1, none⟩) (Nat.le_succ _) _).setCell (p := ⟨w.heap.size + 1, 2, none⟩) (Nat.le_succ _) _
end
end Go.Proofs.YtcahijpbkjplmaaGreatDoor.G
