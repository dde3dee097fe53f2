/-
  A loop over an iterator, whose body gathers into a row of its own: what the loop's body says speaks of what lay ahead of the loop, and of that row.
-/
import Derived.Test.YtgehgccgologpaaZa
import Derived.Test.YtgehgccgologpaaQ0
namespace Go.Proofs.Ytgehgccgologpaa.Z
open Go.RowKit Go.Proofs.Ytgehgccgologpaa Go.Proofs.Ytgehgccgologpaa.R Go.Proofs.Ytgehgccgologpaa.T

theorem Fr_of {B : Nat} {w w' : World} (h : Below B w w') {F : Nat → Prop} (hF : ∀ k, F k → k < B) : Fr F w w' := ⟨h.os, h.tape, h.output, h.size, fun k hk => h.block k (hF k hk)⟩
/-- the body's blocks: the cell of its slice, and the slice's own row -/
def Dd (B : Nat) (w : World) (k : Nat) : Prop := k = B ∨ ∃ v, w.cell? ⟨B, 0, none⟩ = some v ∧ v.ownBlock = some k
theorem Dd.of {B : Nat} {w w' : World} (h : w'.heap[B]? = w.heap[B]?) {k : Nat} (hk : Dd B w' k) : Dd B w k := by
  rcases hk with h1 | ⟨v, h1, h2⟩
  · exact .inl h1
  · exact .inr ⟨v, (World.cell?_of_block (a := ⟨B, 0, none⟩) h).symm.trans h1, h2⟩
/-- what a round may do: what lay below n0 is as it was, and so is every block of cells but the body's -/
structure Kd (n0 B : Nat) (w w' : World) : Prop where
  below : Below n0 w w'
  cells : ∀ k o, ¬ Dd B w k → w.heap[k]? = some o → o.isCells = true → w'.heap[k]? = some o
  own : ∀ k, k < w.heap.size → Dd B w' k → Dd B w k
theorem Kd.refl (n0 B : Nat) (w : World) : Kd n0 B w w := ⟨Below.refl _ _, fun _ _ _ h _ => h, fun _ _ h => h⟩
theorem Kd.trans {n0 B : Nat} {a b c : World} (h : Kd n0 B a b) (k : Kd n0 B b c) : Kd n0 B a c :=
  ⟨h.below.trans k.below, fun i o hi ho hc => k.cells i o (fun e => hi (h.own i (Array.getElem?_eq_some_iff.1 ho).1 e)) (h.cells i o hi ho hc) hc,
    fun i hi e => h.own i hi (k.own i (Nat.lt_of_lt_of_le hi h.below.size) e)⟩
theorem Kd.turn {n0 B : Nat} {w : World} (hn : n0 ≤ w.heap.size) (hB : B < w.heap.size) (W : World) (l : Nat) (o o' : Obj) (hl : w.heap.size ≤ l) (h : W.heap[l]? = some o) (hc : o.isCells = false) (hw : o.isWalk = false) : Kd n0 B W (W.putObj l o') := by
  have hk : ∀ k, k ≠ l → k < W.heap.size → (W.putObj l o').heap[k]? = W.heap[k]? := fun k h1 h2 => (grownBy_putObj' W l o').block k h2 fun e => h1 (by cases e; rfl)
  have hlW : l < W.heap.size := (Array.getElem?_eq_some_iff.1 h).1
  refine ⟨belowK_b hn W l o o' hl h hc hw, fun k u _ hu hcu => ?_, fun k _ e => Dd.of (hk B (by omega) (by omega)) e⟩
  refine (hk k (fun e => ?_) (Array.getElem?_eq_some_iff.1 hu).1).trans hu
  subst e
  rw [h] at hu
  cases hu
  rw [hc] at hcu
  cases hcu
theorem Kd.of_below {n0 B : Nat} {w w' : World} (hn : n0 ≤ w.heap.size) (hB : B < w.heap.size) (h : Below w.heap.size w w') : Kd n0 B w w' :=
  ⟨h.mono hn, fun k _ _ hu _ => (h.block k (Array.getElem?_eq_some_iff.1 hu).1).trans hu, fun _ _ e => Dd.of (h.block B hB) e⟩
theorem Kd.cell {n0 B : Nat} {w w' : World} (h : Kd n0 B w w') {p : Addr} {u : Value} (hp : ¬ Dd B w p.block) (hc : w.cell? p = some u) : w'.cell? p = some u := by
  obtain ⟨o, ho, hco⟩ := cells_of_cell hc
  exact (World.cell?_of_block (w := w) ((h.cells _ _ hp ho hco).trans ho.symm)).trans hc
theorem Kd.not {n0 B : Nat} {w w' : World} (h : Kd n0 B w w') {k : Nat} (hk : k < w.heap.size) (hn : ¬ Dd B w k) : ¬ Dd B w' k := fun e => hn (h.own k hk e)

/-- J speaks of the blocks below C, and of the body's, alone -/
def LowD {β : Type} (C B : Nat) (J : β → World → Prop) : Prop := ∀ s A A', J s A → Fr (fun k => k < C ∨ Dd B A k) A A' → J s A'
/-- the body's blocks are cells -/
def CelD {β : Type} (B : Nat) (J : β → World → Prop) : Prop := ∀ s A, J s A → ∀ k, Dd B A k → ∃ o, A.heap[k]? = some o ∧ o.isCells = true
theorem CelD.fr_put {β : Type} {B C : Nat} {J : β → World → Prop} (h : CelD B J) {s : β} {W : World} (hj : J s W) {l : Nat} {o o' : Obj} (hl : C ≤ l) (ho : W.heap[l]? = some o) (hc : o.isCells = false) : Fr (fun k => k < C ∨ Dd B W k) W (W.putObj l o') := by
  have hg := grownBy_putObj' W l o'
  refine ⟨hg.os, hg.tape, hg.output, hg.size, fun k hk => ?_⟩
  rcases hk with hk | hk
  · by_cases hkW : k < W.heap.size
    · exact hg.block k hkW fun e => by cases e; omega
    · have := (Array.getElem?_eq_some_iff.1 ho).1
      omega
  · obtain ⟨u, hu, hcu⟩ := h s W hj k hk
    refine hg.block k (Array.getElem?_eq_some_iff.1 hu).1 fun e => ?_
    cases e
    rw [ho] at hu
    cases hu
    rw [hc] at hcu
    cases hcu
/-- a call that hands its items to whatever rounds keep their word -/
def SeqD {α : Type} (F : Fence) (n : Nat) (P : Program) (g : Nat) (lb : Array Value) (encs : α → Array Value) (K : World → World → Prop) (G : α → World → Prop) (S Sp : List α → Prop) (N B : Nat) (w : World) : Prop :=
  ∀ (l : Nat) (J Jx : List α → World → Prop) (W : World), Below w.heap.size w W → LowD W.heap.size B J → CelD B J → Low W.heap.size Jx →
    (∀ pre x W1, J pre W1 → G x W1 → pre.length < N → YieldAt F (n - 1) P l (encs x) W1 fun e W' =>
      (e = .returned (.bool true) ∧ J (pre ++ [x]) W' ∧ K W1 W') ∨ (e = .returned (.bool false) ∧ Jx (pre ++ [x]) W')) →
    J [] W →
    CallsIn F n P g (#[.func (.yield l) #[] #[]] ++ lb) W fun e W' => (∃ v, e = .returned v) ∧ ((∃ xs, S xs ∧ J xs W') ∨ (∃ pre, Sp pre ∧ Jx pre W'))

theorem range_d {F : Fence} {n : Nat} {P : Program} {α : Type} {g : Operand} {ps : Array Tmp} {assign body : Code} {Q : Exit → Act → World → Prop} {a : Act} {w : World}
    (hro : F.round = none) (h1 : 1 ≤ n) {gf : Nat} {lb : Array Value} (hg : a.eval g = .func (.func gf) #[] lb) (hFg : F.fn gf) (eg : ∀ args w, (callFunc gf args).run P w = .ok (.enter gf args) w)
    {encs : α → Array Value} {K : World → World → Prop} {G : α → World → Prop} {S Sp : List α → Prop} {N B : Nat} {w0 : World} (hseq : SeqD F (n - 1) P gf lb encs K G S Sp N B w0) (hG : ∀ x A B, G x A → K A B → G x B)
    (hKt : ∀ {A B C : World}, K A B → K B C → K A C) (hKb : ∀ (W : World) (l : Nat) (o o' : Obj), w.heap.size ≤ l → W.heap[l]? = some o → o.isCells = false → o.isWalk = false → K W (W.putObj l o')) (hb0 : Below w0.heap.size w0 w) (hps : ∀ x, (encs x).size = ps.size)
    (hKl : ∀ (W W' : World), w.heap.size ≤ W.heap.size → Below W.heap.size W W' → K W W') (I : List α → World → Prop) (Ix : Code → List α → World → Prop) (hI : LowD w.heap.size B I) (hIc : CelD B I) (hIx : ∀ c, Low w.heap.size (Ix c)) (h0 : I [] w) (Bx : α → Act → Nat → World → Prop)
    (hassign : ∀ (l : Nat) (x : α) (W : World) (C : Act → World → Prop), (∀ a₁ W', Below W.heap.size W W' → Bx x a₁ W.heap.size W' → C a₁ W') →
      assign.wpIn (F.inRound l) (n - 1 - 1) P (Exit.then C (fun _ _ _ => False)) { tmps := (ps.zip (encs x)).foldl (fun t (p, v) => t.setIfInBounds p v) a.tmps, defers := [] } W)
    (hBx : ∀ (x : α) (a₁ : Act) (m : Nat) (W : World) (l : Nat) (o o' : Obj), Bx x a₁ m W → W.heap[l]? = some o → o.isCells = false → Bx x a₁ m (W.putObj l o'))
    (hbody : ∀ (l : Nat) (pre : List α) (x : α) (a₁ : Act) (m : Nat) (W : World), w.heap.size ≤ m → m ≤ W.heap.size → (∀ k, Dd B W k → k < m) → I pre W → G x W → Bx x a₁ m W → pre.length < N → body.wpIn (F.inRound l) (n - 1 - 1) P (ownPostG w.heap.size K I Ix (pre ++ [x]) W) a₁ W)
    (hdone : ∀ (D : Nat) (xs : List α) (W : World), w.heap.size ≤ D → S xs → I xs W → W.heap[D]? = some (.deferred (some [])) → Q .normal { a with defers := { target := .collected D, args := #[] } :: a.defers } W)
    (hstop : ∀ (D : Nat) (c : Code) (pre : List α) (W : World), w.heap.size ≤ D → Sp pre → Ix c pre W → W.heap[D]? = some (.deferred (some [])) → c.wpIn F n P Q { a with defers := { target := .collected D, args := #[] } :: a.defers } W) :
    (Code.rangeFunc g ps assign body).wpIn F n P Q a w := by
  refine wpIn_rangeFunc ?_
  intro fn hfn
  rw [hro]
  obtain ⟨rc, hrc⟩ : ∃ rc : LoopState → Option Code → Loop, rc = fun st pe => { state := st, pending := pe, fn, tmps := a.tmps, params := ps, assign, body, defers := w.heap.size } := ⟨_, rfl⟩
  obtain ⟨W1, hW1⟩ : ∃ W1, (w.alloc (.deferred (some []))).alloc (.loop (rc .ready none)) = W1 := ⟨_, rfl⟩
  have hB1 : Below w.heap.size w W1 := by rw [← hW1]; exact ((Below.refl _ w).alloc (Nat.le_refl _) _).alloc (by simp) _
  have hz1 : W1.heap.size = w.heap.size + 2 := by rw [← hW1]; simp
  have hL1 : W1.heap[w.heap.size + 1]? = some (.loop (rc .ready none)) := by
    have := World.alloc_heap_new (w.alloc (.deferred (some []))) (.loop (rc .ready none))
    rw [World.size_alloc, hW1] at this
    exact this
  have hD1 : W1.heap[w.heap.size]? = some (.deferred (some [])) := by
    rw [← hW1]
    exact (Below.heap_alloc _ _ _ (by simp)).trans (World.alloc_heap_new w _)
  refine ⟨w.heap.size + 1, [{ target := .collected w.heap.size, args := #[] }], W1, { target := .fn (.func gf) lb, args := #[.func (.yield (w.heap.size + 1)) #[] #[]] }, W1, gf,
    #[.func (.yield (w.heap.size + 1)) #[] #[]] ++ lb, W1, by rw [← hW1, hrc]; exact run_enterLoop_outer _ _ _ _ _, by simp only [resolve, hg]; simp [go_sem], fun f' hf' => by simp [Target.leads] at hf'; subst hf'; exact hFg, by simp [invoke, go_sem, eg], fun _ => h1, ?_⟩
  have hkeep : ∀ {A B : World}, Below W1.heap.size A B → ∀ {o o' : Obj}, A.heap[w.heap.size + 1]? = some o → A.heap[w.heap.size]? = some o' → B.heap[w.heap.size + 1]? = some o ∧ B.heap[w.heap.size]? = some o' := by
    intro A B hb o o' ha hd
    exact ⟨(hb.block _ (by omega)).trans ha, (hb.block _ (by omega)).trans hd⟩
  have hle : w.heap.size ≤ W1.heap.size := by omega
  refine (hseq (w.heap.size + 1)
    (fun pre W => I pre W ∧ W.heap[w.heap.size + 1]? = some (.loop (rc .ready none)) ∧ W.heap[w.heap.size]? = some (.deferred (some [])))
    (fun pre W => ∃ c, Ix c pre W ∧ W.heap[w.heap.size + 1]? = some (.loop (rc .done (some c))) ∧ W.heap[w.heap.size]? = some (.deferred (some [])))
    W1 (hb0.trans (hB1.mono hb0.size))
    (fun s A C hs hb => ⟨hI s A C hs.1 (hb.mono fun k hk => hk.imp (fun e => Nat.lt_of_lt_of_le e hle) id), hkeep (hb.mono (fun k hk => .inl hk)).below hs.2.1 hs.2.2⟩)
    (fun s A hs => hIc s A hs.1)
    (fun s A C hs hb => by
      obtain ⟨c, hc, hl, hd⟩ := hs
      exact ⟨c, hIx c s A C hc (hb.mono hle), hkeep hb hl hd⟩)
    ?_ ⟨hI _ _ _ h0 (Fr_of hB1 fun k hk => hk.elim id fun e => by obtain ⟨u, hu, -⟩ := hIc _ _ h0 k e; exact (Array.getElem?_eq_some_iff.1 hu).1), hL1, hD1⟩).mono ?_
  · -- a round
    rintro pre x W0 ⟨hi0, hl0, hd0⟩ hg00 hlen
    have hlt0 : w.heap.size + 1 < W0.heap.size := (Array.getElem?_eq_some_iff.1 hl0).1
    have hy := run_yield (P := P) (args := encs x) hl0 (by rw [hrc]; exact hps x)
    rw [hrc] at hy
    refine ⟨fn, _, assign, body, hy, roundIn_of_wpIn hfn (hassign _ x W0 _ ?_)⟩
    clear hy
    intro a₁ W hWa hbx
    have hi : I pre W := hI _ _ _ hi0 (Fr_of hWa fun k hk => hk.elim (fun e => by omega) fun e => by obtain ⟨u, hu, -⟩ := hIc _ _ hi0 k e; exact (Array.getElem?_eq_some_iff.1 hu).1)
    have hkA : K W0 W := hKl W0 W (by omega) hWa
    have hg0 : G x W := hG _ _ _ hg00 hkA
    have hl : W.heap[w.heap.size + 1]? = some (.loop (rc .ready none)) := (hWa.block _ hlt0).trans hl0
    have hd : W.heap[w.heap.size]? = some (.deferred (some [])) := (hWa.block _ (by omega)).trans hd0
    have hlt : w.heap.size + 1 < W.heap.size := Nat.lt_of_lt_of_le hlt0 hWa.size
    refine ⟨_, run_beginRound hl (by rw [hrc]), ?_⟩
    obtain ⟨W2, hW2⟩ : ∃ W2, W.putObj (w.heap.size + 1) (.loop { rc .ready none with state := .busy }) = W2 := ⟨_, rfl⟩
    have hl2 : W2.heap[w.heap.size + 1]? = some (.loop { rc .ready none with state := .busy }) := by rw [← hW2]; exact World.putObj_heap_same hlt
    have hd2 : W2.heap[w.heap.size]? = some (.deferred (some [])) := by rw [← hW2]; exact (World.putObj_heap_other (by omega)).trans hd
    have hk2 : K W W2 := by rw [← hW2]; exact hKb _ _ _ _ (by omega) hl rfl rfl
    have hbx2 : Bx x a₁ W0.heap.size W2 := by rw [← hW2]; exact hBx _ _ _ _ _ _ _ hbx hl rfl
    have hsz2 : W0.heap.size ≤ W2.heap.size := by
      have h1 := (below_put (C := 0) W (w.heap.size + 1) _ (.loop { rc .ready none with state := .busy }) (Nat.zero_le _) hl).size
      rw [hW2] at h1
      exact Nat.le_trans hWa.size h1
    have hdd2 : ∀ k, Dd B W2 k → k < W0.heap.size := fun k hk => by
      obtain ⟨u, hu, hcu⟩ := hIc _ _ hi0 B (.inl rfl)
      have hBlt := (Array.getElem?_eq_some_iff.1 hu).1
      have e1 : W.heap[B]? = W0.heap[B]? := hWa.block B hBlt
      have e2 : W2.heap[B]? = W.heap[B]? := by
        rw [← hW2]
        refine World.putObj_heap_other fun e => ?_
        subst e
        rw [← e1, hl] at hu
        cases hu
        cases hcu
      obtain ⟨u', hu', -⟩ := hIc _ _ hi0 k (Dd.of e1 (Dd.of e2 hk))
      exact (Array.getElem?_eq_some_iff.1 hu').1
    have hi2 : I pre W2 := by rw [← hW2]; exact hI _ _ _ hi (hIc.fr_put hi (by omega) hl rfl)
    rw [hW2]
    refine wpIn_mono (hbody _ pre x a₁ W0.heap.size W2 (by omega) hsz2 hdd2 hi2 (hG _ _ _ hg0 hk2) hbx2 hlen) ?_
    have fin : ∀ (jump : Option Code) (W3 : World), KeepsFrom w.heap.size W2 W3 → ∃ W4, (Instr.endRound (w.heap.size + 1) jump).run P W3 = .ok (.bool jump.isNone) W4 ∧ Below w.heap.size W3 W4 ∧ (∀ s, I s W3 → I s W4) ∧ K W3 W4 ∧
        W4.heap[w.heap.size + 1]? = some (.loop (rc (if jump.isNone then .ready else .done) jump)) ∧ W4.heap[w.heap.size]? = some (.deferred (some [])) := by
      intro jump W3 hk3
      have hl3 := hk3.same _ _ (by omega) hl2 rfl
      have hd3 := hk3.same _ _ (Nat.le_refl _) hd2 rfl
      have hr := run_endRound (P := P) jump hl3
      refine ⟨_, hr, below_put _ _ _ _ (by omega) hl3, fun s hs => hI _ _ _ hs (hIc.fr_put hs (by omega) hl3 rfl), hKb _ _ _ _ (by omega) hl3 rfl rfl, ?_, (World.putObj_heap_other (by omega)).trans hd3⟩
      rw [World.putObj_heap_same (Array.getElem?_eq_some_iff.1 hl3).1, hrc]
    rintro e a3 W3 hp
    have out : ∀ c : Code, KeepsFrom w.heap.size W2 W3 → Ix c (pre ++ [x]) W3 → ∃ W4, (Instr.endRound (w.heap.size + 1) (some c)).run P W3 = .ok (.bool false) W4 ∧ ∃ c, Ix c (pre ++ [x]) W4 ∧ W4.heap[w.heap.size + 1]? = some (.loop (rc .done (some c))) ∧ W4.heap[w.heap.size]? = some (.deferred (some [])) := by
      intro c hk3 hi3
      obtain ⟨W4, hr, hb4, _, _, hl4, hd4⟩ := fin (some c) W3 hk3
      exact ⟨W4, hr, c, hIx c _ _ _ hi3 hb4, hl4, hd4⟩
    cases e with
    | normal =>
      obtain ⟨hk3, hkp3, hi3⟩ := hp
      obtain ⟨W4, hr, _, hi4, hk4, hl4, hd4⟩ := fin none W3 hk3
      exact ⟨_, _, hr, .inl ⟨rfl, ⟨hi4 _ hi3, hl4, hd4⟩, hKt hkA (hKt hk2 (hKt hkp3 hk4))⟩⟩
    | ret =>
      obtain ⟨W4, hr, h4⟩ := out .ret hp.1 hp.2
      exact ⟨_, _, hr, .inr ⟨rfl, h4⟩⟩
    | exit id =>
      obtain ⟨W4, hr, h4⟩ := out (.exit id) hp.1 hp.2
      exact ⟨_, _, hr, .inr ⟨rfl, h4⟩⟩
    | goto t =>
      obtain ⟨W4, hr, h4⟩ := out (.goto t) hp.1 hp.2
      exact ⟨_, _, hr, .inr ⟨rfl, h4⟩⟩
    | panic ch => exact hp.elim
    | outgrown => exact hp.elim
  · -- behind the iterator
    rintro e W2 ⟨⟨v, rfl⟩, (⟨xs, hS, hi, hl, hd⟩ | ⟨pre, hSp, c, hi, hl, hd⟩)⟩
    · have hr := run_endLoop (P := P) hl (by rw [hrc]; simp)
      rw [hrc] at hr
      refine ⟨none, _, hr, hdone _ xs _ (Nat.le_refl _) hS (hI _ _ _ hi (hIc.fr_put hi (by omega) hl rfl)) ((World.putObj_heap_other (by omega)).trans hd)⟩
    · have hr := run_endLoop (P := P) hl (by rw [hrc]; simp)
      rw [hrc] at hr
      refine ⟨some c, _, hr, hstop _ c pre _ (Nat.le_refl _) hSp (hIx c _ _ _ hi (below_put _ _ _ _ (by omega) hl)) ((World.putObj_heap_other (by omega)).trans hd)⟩
end Go.Proofs.Ytgehgccgologpaa.Z
