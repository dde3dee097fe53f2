/-
  The reference's heap in memory; New, Take, Used, at, by contract. (gen_ta.py)
-/
import Derived.Test.YtcahijpbkjplmaaGreatDoorMRt
namespace Go.Proofs.YtcahijpbkjplmaaGreatDoor.G
open Go.RowKit Go.Shelf Go.Maps Go.Lib Go.Proofs.YtcahijpbkjplmaaGreatDoor

/-- rows of elements of k cells each -/
theorem flat_get {α : Type} (f : α → List Value) (k : Nat) (hk : ∀ a, (f a).length = k) : ∀ (l : List α) (i j : Nat), j < k → ((l.map f).flatten)[i * k + j]? = (l[i]?).bind fun a => (f a)[j]?
  | [], i, j, _ => by simp
  | a :: l, 0, j, hj => by
    rw [List.map_cons, List.flatten_cons, Nat.zero_mul, Nat.zero_add, List.getElem?_append_left (by rw [hk]; exact hj)]
    rfl
  | a :: l, i + 1, j, hj => by
    rw [List.map_cons, List.flatten_cons, List.getElem?_append_right (by rw [hk, Nat.succ_mul]; omega), hk, show (i + 1) * k + j - k = i * k + j by rw [Nat.succ_mul]; omega, flat_get f k hk l i j hj]
    rfl
theorem flat_len {α : Type} (f : α → List Value) (k : Nat) (hk : ∀ a, (f a).length = k) : ∀ (l : List α), ((l.map f).flatten).length = l.length * k
  | [] => by simp
  | a :: l => by
    rw [List.map_cons, List.flatten_cons, List.length_append, hk, flat_len f k hk l, List.length_cons, Nat.succ_mul]
    omega
/-- an object of the reference: 8 cells; r: the slice of its properties -/
def objV (q : Ob × Value) : List Value := [.string q.1.cls, .int .i64 (refO q.1.proto).k, .int .i64 (refO q.1.proto).n, .string (refO q.1.proto).s, q.2, .bool q.1.closed, .int .i64 (q.1.len : Int), .bool q.1.lw]
theorem objV_len (q : Ob × Value) : (objV q).length = 8 := rfl
theorem prV_len (p : Pr) : (Pr.cs p).length = 7 := rfl
/-- a reference's heap in memory -/
structure RH (w : World) (A : Nat) (h : Hs) (ow : Nat → Option Nat) (R : List Value) : Prop where
  hb : ∃ ov, Blk w A 39 [ov, .int .i64 (h.most : Int), .int .i64 (h.n : Int)] ∧ w.ownsRow 0 73 8 ov h.os.length ((h.os.zip R).map objV).flatten ∧ ∀ g, ov.ownBlock = some g → ow g = some 0
  wA : ow A = some 0
  len : R.length = h.os.length
  ps : ∀ i (h1 : i < R.length) (h2 : i < h.os.length), w.ownsRow 0 31 7 R[i] h.os[i].ps.length (h.os[i].ps.map Pr.cs).flatten
  ra : ∀ i (h1 : i < R.length) g, R[i].ownBlock = some g → ow g = some (i + 1)
  lt : ∀ k, ow k ≠ none → k < w.heap.size
section
variable {w w' : World} {ow : Nat → Option Nat} {A : Nat} {H : Hs} {R : List Value}
theorem RH.fr (h : RH w A H ow R) (hf : ∀ k, ow k ≠ none → w'.heap[k]? = w.heap[k]?) (hs : w.heap.size ≤ w'.heap.size) : RH w' A H ow R := by
  obtain ⟨⟨ov, h1, h2, h3⟩, h4, h5, h6, h7, h8⟩ := h
  exact ⟨⟨ov, h1.fr (hf A (by rw [h4]; simp)), row_same h2 fun k e => hf k (by rw [h3 k e]; simp), h3⟩, h4, h5, fun i a b => row_same (h6 i a b) fun k e => hf k (by rw [h7 i a k e]; simp), h7, fun k hk => Nat.lt_of_lt_of_le (h8 k hk) hs⟩
theorem RH.low (h : RH w A H ow R) (hb : Below w.heap.size w w') : RH w' A H ow R := h.fr (fun k hk => hb.block k (h.lt k hk)) hb.size
theorem RH.keep {F : Nat → Prop} (h : RH w A H ow R) (hf : Fr F w w') (hF : ∀ k, ow k ≠ none → F k) : RH w' A H ow R := h.fr (fun k hk => hf.block k (hF k hk)) hf.size
set_option maxRecDepth 8000 in
theorem rnew_any (m : Int) (w : World) :
    Calls Tryz.prog 10 #[.int .i64 m] w fun e w' => ∃ b ow, e = .returned (pv b) ∧ RH w' b (Hs.new m) ow [] ∧ (∀ k, ow k ≠ none → w.heap.size ≤ k) ∧ Below w.heap.size w w' := by
  have HB := Lib.hid (below_new w)
  have HM : Hid (min (max m 0) 100000 = ((Hs.new m).most : Int)) := by
    show min (max m 0) 100000 = (((min (max m 0) 100000).toNat : Nat) : Int)
    omega
  go_enter Tryz.func10, Tryz.ntmps10
  go_wp2_with fail
  go_ret
  refine ⟨w.heap.size, fun k => if k = w.heap.size then some 0 else none, rfl, ?_, fun k hk => ?_, HB.out _⟩
  · refine ⟨⟨.slice none 0 0, ?_, row_nil _ _ _ _, fun g e => by cases e⟩, if_pos rfl, rfl, fun i h => absurd h (Nat.not_lt_zero _), fun i h => absurd h (Nat.not_lt_zero _), fun k hk => ?_⟩
    · rw [← HM.out]
      exact Blk.new w _ _
    · rw [World.size_alloc]
      split at hk
      · omega
      · exact absurd rfl hk
  · dsimp only at hk
    split at hk
    · omega
    · exact absurd rfl hk
theorem rused_any (h : RH w A H ow R) :
    Calls Tryz.prog 13 #[pv A] w fun e w' => e = .returned (.int .i64 (H.n : Int)) ∧ w = w' := by
  obtain ⟨⟨ov, hbk, -, -⟩, -, -, -, -, -⟩ := h
  have c2 := hbk.cell (k := 2) rfl
  clear hbk
  go_enter Tryz.func13, Tryz.ntmps13
  go_wp2_with fail
  go_ret
  exact ⟨rfl, rfl⟩
/-- a cell is taken -/
theorem RH.took (h : RH w A H ow R) : RH (w.setCell ⟨A, 2, none⟩ (.int .i64 ((H.n : Int) + 1))) A { H with n := H.n + 1 } ow R := by
  obtain ⟨⟨ov, h1, h2, h3⟩, h4, h5, h6, h7, h8⟩ := h
  have hk : ∀ k, k ≠ A → (w.setCell ⟨A, 2, none⟩ (.int .i64 ((H.n : Int) + 1))).heap[k]? = w.heap[k]? := fun k hk => Below.heap_setCell _ _ _ _ hk
  refine ⟨⟨ov, ?_, row_same h2 fun k e => hk k fun ek => h1.ne_row h2 (by decide) k e ek.symm, h3⟩, h4, h5, fun i a b => row_same (h6 i a b) fun k e => hk k fun ek => h1.ne_row (h6 i a b) (by decide) k e ek.symm, h7, fun k hk => by simpa [World.setCell] using h8 k hk⟩
  have := h1.set 2 (.int .i64 ((H.n : Int) + 1))
  rw [show ((H.n : Int) + 1) = (((H.n + 1 : Nat)) : Int) from by omega] at this ⊢
  exact this
theorem rtake_none (h : RH w A H ow R) (hm : H.most ≤ H.n) :
    Calls Tryz.prog 44 #[pv A] w fun e w' => e = .returned (.bool false) ∧ Below w.heap.size w w' := by
  obtain ⟨⟨ov, hbk, -, -⟩, -, -, -, -, -⟩ := h
  have HBK := Lib.hid hbk
  have hi : (H.most : Int) ≤ (H.n : Int) := by omega
  have hs0 : (fun w' : World => w'.cell? ⟨A, 1, none⟩ = some (.int .i64 (H.most : Int)) ∧ w'.cell? ⟨A, 2, none⟩ = some (.int .i64 (H.n : Int))) w.drew := ⟨(hbk.fr (w' := w.drew) rfl).cell (k := 1) rfl, (hbk.fr (w' := w.drew) rfl).cell (k := 2) rfl⟩
  have HBD := Lib.hid (below_draw w)
  clear hbk hm
  go_enter Tryz.func44, Tryz.ntmps44
  go_wp2_with fail
  refine wp_region_held_drew (S := (fun w' : World => w'.cell? ⟨A, 1, none⟩ = some (.int .i64 (H.most : Int)) ∧ w'.cell? ⟨A, 2, none⟩ = some (.int .i64 (H.n : Int)))) (by kernel_rfl) (hs0) (fun hHeld0 => ?_)
  generalize w.drew = v0 at *
  (refine wpAnyH_take (i := 0) (v := ?_) rfl (by kernel_rfl) (by decide +kernel) (by decide +kernel) (fun _ _ _ h => h) (Or.inl ⟨by rfl, ?_⟩) (by assumption) ?_; rotate_left; (focus (intro w0 hSw; obtain ⟨e1, e2⟩ := hSw; go_simp; (try with_reducible rfl); done)))
  (refine wpAnyH_take (i := 1) (v := ?_) rfl (by kernel_rfl) (by decide +kernel) (by decide +kernel) (fun _ _ _ h => h) (Or.inl ⟨by rfl, ?_⟩) (by assumption) ?_; rotate_left; (focus (intro w0 hSw; obtain ⟨e1, e2⟩ := hSw; go_simp; (try with_reducible rfl); done)))
  (refine wpAnyH_take (i := 2) (v := ?_) rfl (by kernel_rfl) (by decide +kernel) (by decide +kernel) (fun _ _ _ h => h) (Or.inl ⟨by rfl, ?_⟩) (by assumption) ?_; rotate_left; (focus (intro w0 hSw; obtain ⟨e1, e2⟩ := hSw; go_simp; (try with_reducible rfl); done)))
  (refine wpAnyH_take (i := 3) (v := ?_) rfl (by kernel_rfl) (by decide +kernel) (by decide +kernel) (fun _ _ _ h => h) (Or.inl ⟨by rfl, ?_⟩) (by assumption) ?_; rotate_left; (focus (intro w0 hSw; obtain ⟨e1, e2⟩ := hSw; go_simp; (try with_reducible rfl); done)))
  (refine wpAnyH_take (i := 4) (v := ?_) rfl (by kernel_rfl) (by decide +kernel) (by decide +kernel) (fun _ _ _ h => h) (Or.inl ⟨by rfl, ?_⟩) (by assumption) ?_; rotate_left; (focus (intro w0 hSw; obtain ⟨e1, e2⟩ := hSw; go_simp; (try with_reducible rfl); done)))
  (refine wpAnyH_take (i := 5) (v := ?_) rfl (by kernel_rfl) (by decide +kernel) (by decide +kernel) (fun _ _ _ h => h) (Or.inl ⟨by rfl, ?_⟩) (by assumption) ?_; rotate_left; (focus (intro w0 hSw; obtain ⟨e1, e2⟩ := hSw; go_simp; (try with_reducible rfl); done)))
  (refine wpAnyH_take (i := 6) (v := ?_) rfl (by kernel_rfl) (by decide +kernel) (by decide +kernel) (fun _ _ _ h => h) (Or.inl ⟨by rfl, ?_⟩) (by assumption) ?_; rotate_left; (focus (intro w0 hSw; obtain ⟨e1, e2⟩ := hSw; go_simp; (try with_reducible rfl); done)))
  (refine wpAnyH_take (i := 7) (v := ?_) rfl (by kernel_rfl) (by decide +kernel) (by decide +kernel) (fun _ _ _ h => h) (Or.inl ⟨by rfl, ?_⟩) (by assumption) ?_; rotate_left; (focus (intro w0 hSw; obtain ⟨e1, e2⟩ := hSw; go_simp; (try with_reducible rfl); done)))
  (refine wpAnyH_take (i := 8) (v := ?_) rfl (by kernel_rfl) (by decide +kernel) (by decide +kernel) (fun _ _ _ h => h) (Or.inl ⟨by rfl, ?_⟩) (by assumption) ?_; rotate_left; (focus (intro w0 hSw; obtain ⟨e1, e2⟩ := hSw; go_simp; (try with_reducible rfl); done)))
  try simp only [List.getElem_toArray, List.getElem_cons_zero, List.getElem_cons_succ, Act.put, List.setIfInBounds_toArray, List.set_cons_zero, List.set_cons_succ]
  refine wpAnyH_done (by kernel_rfl) ?_ _
  clear hHeld0 hs0
  go_wp2_with fail
  go_ret
  exact ⟨rfl, HBD.out⟩
theorem rtake_some (h : RH w A H ow R) (hm : H.n < H.most) (hx : H.most ≤ 100000) :
    Calls Tryz.prog 44 #[pv A] w fun e w' => e = .returned (.bool true) ∧ RH w' A { H with n := H.n + 1 } ow R ∧ Fr (fun k => k < w.heap.size ∧ k ≠ A) w w' := by
  have HT := Lib.hid ((h.low (below_draw w)).took)
  have HF : Hid (Fr (fun k => k < w.heap.size ∧ k ≠ A) w (w.drew.setCell ⟨A, 2, none⟩ (.int .i64 ((H.n : Int) + 1)))) := (Fr.of (below_draw w) fun k hk => hk.1).setCell (p := ⟨A, 2, none⟩) (fun hk => hk.2 rfl) _
  obtain ⟨⟨ov, hbk, -, -⟩, -, -, -, -, -⟩ := h
  have HBK := Lib.hid (hbk.fr (w' := w.drew) rfl)
  have hi : ¬ (H.most : Int) ≤ (H.n : Int) := by omega
  have hs0 : (fun w' : World => w'.cell? ⟨A, 1, none⟩ = some (.int .i64 (H.most : Int)) ∧ w'.cell? ⟨A, 2, none⟩ = some (.int .i64 (H.n : Int))) w.drew := ⟨(hbk.fr (w' := w.drew) rfl).cell (k := 1) rfl, (hbk.fr (w' := w.drew) rfl).cell (k := 2) rfl⟩
  have hw : IntKind.i64.wrap ((H.n : Int) + 1) = (H.n : Int) + 1 := IntWalk.i64_in _ (by omega)
  clear hbk hm
  go_enter Tryz.func44, Tryz.ntmps44
  go_wp2_with fail
  refine wp_region_held_drew (S := (fun w' : World => w'.cell? ⟨A, 1, none⟩ = some (.int .i64 (H.most : Int)) ∧ w'.cell? ⟨A, 2, none⟩ = some (.int .i64 (H.n : Int)))) (by kernel_rfl) (hs0) (fun hHeld0 => ?_)
  generalize w.drew = v0 at *
  (refine wpAnyH_take (i := 0) (v := ?_) rfl (by kernel_rfl) (by decide +kernel) (by decide +kernel) (fun _ _ _ h => h) (Or.inl ⟨by rfl, ?_⟩) (by assumption) ?_; rotate_left; (focus (intro w0 hSw; obtain ⟨e1, e2⟩ := hSw; go_simp; (try with_reducible rfl); done)))
  (refine wpAnyH_take (i := 1) (v := ?_) rfl (by kernel_rfl) (by decide +kernel) (by decide +kernel) (fun _ _ _ h => h) (Or.inl ⟨by rfl, ?_⟩) (by assumption) ?_; rotate_left; (focus (intro w0 hSw; obtain ⟨e1, e2⟩ := hSw; go_simp; (try with_reducible rfl); done)))
  (refine wpAnyH_take (i := 2) (v := ?_) rfl (by kernel_rfl) (by decide +kernel) (by decide +kernel) (fun _ _ _ h => h) (Or.inl ⟨by rfl, ?_⟩) (by assumption) ?_; rotate_left; (focus (intro w0 hSw; obtain ⟨e1, e2⟩ := hSw; go_simp; (try with_reducible rfl); done)))
  (refine wpAnyH_take (i := 3) (v := ?_) rfl (by kernel_rfl) (by decide +kernel) (by decide +kernel) (fun _ _ _ h => h) (Or.inl ⟨by rfl, ?_⟩) (by assumption) ?_; rotate_left; (focus (intro w0 hSw; obtain ⟨e1, e2⟩ := hSw; go_simp; (try with_reducible rfl); done)))
  (refine wpAnyH_take (i := 4) (v := ?_) rfl (by kernel_rfl) (by decide +kernel) (by decide +kernel) (fun _ _ _ h => h) (Or.inl ⟨by rfl, ?_⟩) (by assumption) ?_; rotate_left; (focus (intro w0 hSw; obtain ⟨e1, e2⟩ := hSw; go_simp; (try with_reducible rfl); done)))
  (refine wpAnyH_take (i := 5) (v := ?_) rfl (by kernel_rfl) (by decide +kernel) (by decide +kernel) (fun _ _ _ h => h) (Or.inl ⟨by rfl, ?_⟩) (by assumption) ?_; rotate_left; (focus (intro w0 hSw; obtain ⟨e1, e2⟩ := hSw; go_simp; (try with_reducible rfl); done)))
  (refine wpAnyH_take (i := 6) (v := ?_) rfl (by kernel_rfl) (by decide +kernel) (by decide +kernel) (fun _ _ _ h => h) (Or.inl ⟨by rfl, ?_⟩) (by assumption) ?_; rotate_left; (focus (intro w0 hSw; obtain ⟨e1, e2⟩ := hSw; go_simp; (try with_reducible rfl); done)))
  (refine wpAnyH_take (i := 7) (v := ?_) rfl (by kernel_rfl) (by decide +kernel) (by decide +kernel) (fun _ _ _ h => h) (Or.inl ⟨by rfl, ?_⟩) (by assumption) ?_; rotate_left; (focus (intro w0 hSw; obtain ⟨e1, e2⟩ := hSw; go_simp; (try with_reducible rfl); done)))
  (refine wpAnyH_take (i := 8) (v := ?_) rfl (by kernel_rfl) (by decide +kernel) (by decide +kernel) (fun _ _ _ h => h) (Or.inl ⟨by rfl, ?_⟩) (by assumption) ?_; rotate_left; (focus (intro w0 hSw; obtain ⟨e1, e2⟩ := hSw; go_simp; (try with_reducible rfl); done)))
  try simp only [List.getElem_toArray, List.getElem_cons_zero, List.getElem_cons_succ, Act.put, List.setIfInBounds_toArray, List.set_cons_zero, List.set_cons_succ]
  refine wpAnyH_done (by kernel_rfl) ?_ _
  clear hHeld0 hs0
  have c2 := HBK.out.cell (k := 2) rfl
  have z2 := HBK.out.fz 2
  go_wp2_with fail
  go_ret
  exact ⟨rfl, HT.out, HF.out⟩
end
end Go.Proofs.YtcahijpbkjplmaaGreatDoor.G
