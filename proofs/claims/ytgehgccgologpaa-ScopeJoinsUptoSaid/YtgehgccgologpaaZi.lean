/-
  A statement that draws its order, within a round; what a round does to the world, step by step.
-/
import Derived.Test.YtgehgccgologpaaZh
import Derived.Deep.RegionHeld3
namespace Go.Proofs.Ytgehgccgologpaa.Z
open Go.RowKit Go.Shelf Go.Proofs.Ytgehgccgologpaa Go.Proofs.Ytgehgccgologpaa.R Go.Proofs.Ytgehgccgologpaa.T

section
variable {P : Program} {l n : Nat} {Q : Exit → Act → World → Prop}
theorem rows_round {row : String} {args : Array Value} {w : World} {R : Value → World → Prop} (h : Rows P row args w R) : RowsIn (Fence.wide.inRound l) n P row args w R :=
  fun c cs _ => let ⟨v, w', r, s⟩ := h c cs; ⟨v, w', r, stepsIn_wide.2 s⟩
theorem oper_round {o : Oper} {a : Act} {w : World} {K : Act → World → Prop} (hd : ∀ c, o.op ≠ .defer c) (h : o.wp P a w K Q) : o.wpIn (Fence.wide.inRound l) n P a w K Q := by
  refine ⟨fun _ _ => trivial, ?_⟩
  unfold Oper.wp at h
  rw [Oper.semAt_plain (Fence.wide.inRound l) _ _ hd]
  generalize (execOp a.eval o).run P w = r at h ⊢
  rcases r with ⟨x, w'⟩ | ⟨x, w'⟩
  · cases x with
    | value v => exact h
    | skip => exact h
    | «defer» d => exact h
    | enter f args => exact ⟨(fun e => by cases e), CallsIn.inRound l (callsIn_wide.2 h)⟩
    | row row args => exact ⟨(fun e => by cases e), rows_round h⟩
    | _ => exact h.elim
  · cases x with
    | panic v => exact h
    | _ => exact h.elim
theorem any_round {md : Region.Mode} {ops : Array Oper} (hd : ∀ (i : Nat) (o : Oper) c, ops[i]? = some o → o.op ≠ .defer c) (hq : ¬ LetsOut Q) :
    ∀ (fuel : Nat) (listed : Array Bool) (a : Act) (w : World), wpAny P md ops Q fuel listed a w → wpAnyIn (Fence.wide.inRound l) n P md ops Q fuel listed a w
  | 0, _, _, _, h => h
  | fuel + 1, listed, a, w, h => by
    refine ⟨h.1, fun i hi => ?_⟩
    have hs := h.2 i hi
    have ih := any_round (md := md) hd hq fuel (listed.setIfInBounds i true)
    unfold wpOp at hs
    unfold wpOpIn
    cases ho : ops[i]? with
    | none =>
      rw [ho] at hs
      exact ih _ _ hs
    | some o =>
      rw [ho] at hs
      dsimp only at hs ⊢
      split
      · rename_i hw
        rw [if_pos hw] at hs
        rcases hs with hs | hs
        · exact Oper.wpIn_mono (fun a' w' h' => ih a' w' h') (oper_round (fun c => hd i o c ho) hs)
        · exact absurd hs.2 hq
      · rename_i hw
        rw [if_neg hw] at hs
        exact ⟨fun _ _ => trivial, ih _ _ hs⟩
/-- A statement that draws its order, within a round: S is held. -/
theorem region_round {S : World → Prop} {id : Nat} {ops : Array Oper} {a : Act} {w : World} (hm : P.follows .mixedOrders = true) (hd : (ops.toList.all fun o => match o.op with | .defer _ => false | _ => true) = true) (hq : ¬ LetsOut Q) (hS : S w.drew)
    (h : S w.drew → wpAnyH P .any ops Q S ops.size (Array.replicate ops.size false) a w.drew) : (Code.region id ops true).wpIn (Fence.wide.inRound l) n P Q a w := by
  refine wpIn_region_any hm (any_round (fun i o c ho e => ?_) hq _ _ _ _ (wpAny_of_held _ _ _ _ (h hS)))
  rw [List.all_eq_true] at hd
  have := hd o (by rw [← Array.getElem?_toList] at ho; exact List.mem_of_getElem? ho)
  rw [e] at this
  cases this
end

theorem at_put {W : World} {g o : Nat} {y : X} (h : At W g o y) {l : Nat} {ob o' : Obj} (hl : W.heap[l]? = some ob) (hc : ob.isCells = false) : At (W.putObj l o') g o y := by
  obtain ⟨u, hu, hcu⟩ := cells_of_cell h.c0
  have hb : (W.putObj l o').heap[g]? = W.heap[g]? := (grownBy_putObj' W l o').block g (Array.getElem?_eq_some_iff.1 hu).1 fun e => by
    cases e
    rw [show (⟨g, o, none⟩ : Addr).block = g from rfl, hl] at hu
    cases hu
    rw [hc] at hcu
    cases hcu
  have hk : ∀ j, (W.putObj l o').cell? ⟨g, j, none⟩ = W.cell? ⟨g, j, none⟩ := fun j => World.cell?_of_block (a := ⟨g, j, none⟩) hb
  exact ⟨(hk _).trans h.c0, (hk _).trans h.c1, (hk _).trans h.c2, (hk _).trans h.c3, (hk _).trans h.c4, (hk _).trans h.c5⟩
/-- what a round does -/
structure Stp (n0 B C : Nat) (W W' : World) : Prop where
  kf : KeepsFrom C W W'
  kd : Kd n0 B W W'
theorem Stp.refl (n0 B C : Nat) (W : World) : Stp n0 B C W W := ⟨KeepsFrom.refl _ _, Kd.refl _ _ _⟩
theorem Stp.trans {n0 B C : Nat} {a b c : World} (h : Stp n0 B C a b) (k : Stp n0 B C b c) : Stp n0 B C a c := ⟨h.kf.trans k.kf, h.kd.trans k.kd⟩
theorem kf_low {C : Nat} {W W' : World} (h : Below W.heap.size W W') : KeepsFrom C W W' := ⟨h.size, fun k _ _ hk _ => (h.block k (Array.getElem?_eq_some_iff.1 hk).1).trans hk⟩
theorem Stp.low {n0 B C : Nat} {W W' : World} (hn : n0 ≤ W.heap.size) (hB : B < W.heap.size) (h : Below W.heap.size W W') : Stp n0 B C W W' := ⟨kf_low h, Kd.of_below hn hB h⟩
/-- a map is written -/
theorem Stp.map {n0 B C m : Nat} {W W' : World} {o : Obj} (hg : W.grownBy W' (some m)) (hm : W.heap[m]? = some o) (hc : o.isCells = false) (hn : n0 ≤ m) (hC : m < C) (hB : B < W.heap.size) (hBm : B ≠ m) : Stp n0 B C W W' := by
  have hmw := (Array.getElem?_eq_some_iff.1 hm).1
  have hk : ∀ k, k ≠ m → k < W.heap.size → W'.heap[k]? = W.heap[k]? := fun k h1 h2 => hg.block k h2 fun e => h1 (by cases e; rfl)
  refine ⟨KeepsFrom.of_grownBy hg fun j hj => by cases hj; exact hC, ⟨grownN hg (by omega) fun k hk => by cases hk; exact hn, fun k u _ hu hcu => ?_, fun k _ e => Dd.of (hk B hBm hB) e⟩⟩
  refine (hk k (fun e => ?_) (Array.getElem?_eq_some_iff.1 hu).1).trans hu
  subst e
  rw [hm] at hu
  cases hu
  rw [hc] at hcu
  cases hcu
/-- the body's row grows, and its cell is set -/
theorem Stp.app {n0 B C : Nat} {W W1 : World} {nv v' : Value} (hc : W.cell? ⟨B, 0, none⟩ = some nv) (hg : W.grownBy W1 nv.ownBlock) (ho : v'.ownBlock = nv.ownBlock ∨ v'.ownBlock = some W.heap.size) (hnB : n0 ≤ B) (hBn : nv.ownBlock ≠ some B)
    (hr : ∀ k, nv.ownBlock = some k → n0 ≤ k ∧ ∃ o, W.heap[k]? = some o ∧ o.isCells = true) : Stp n0 B C W (W1.setCell ⟨B, 0, none⟩ v') := by
  have hB : B < W.heap.size := by
    obtain ⟨o, h1, _⟩ := cells_of_cell hc
    exact (Array.getElem?_eq_some_iff.1 h1).1
  have hk : ∀ k, k ≠ B → nv.ownBlock ≠ some k → k < W.heap.size → (W1.setCell ⟨B, 0, none⟩ v').heap[k]? = W.heap[k]? := fun k h1 h2 h3 => (Below.heap_setCell W1 ⟨B, 0, none⟩ v' k h1).trans (hg.block k h3 fun e => h2 e.symm)
  have hs : (W1.setCell ⟨B, 0, none⟩ v').heap.size = W1.heap.size := by simp [World.setCell]
  refine ⟨⟨by rw [hs]; exact hg.size, fun k o _ hko hco => ?_⟩, ⟨⟨hg.os, hg.tape, hg.output, by rw [hs]; exact hg.size, fun k hkn => hk k (by omega) (fun e => by have := (hr k e).1; omega) (by omega)⟩, fun k o hD hko _ => ?_, fun k hkW e => ?_⟩⟩
  · refine (hk k (fun e => ?_) (fun e => ?_) (Array.getElem?_eq_some_iff.1 hko).1).trans hko
    · subst e
      obtain ⟨o', h1, h2⟩ := cells_of_cell hc
      rw [show (⟨k, 0, none⟩ : Addr).block = k from rfl, hko] at h1
      cases h1
      rw [hco] at h2
      cases h2
    · obtain ⟨_, o', h1, h2⟩ := hr k e
      rw [hko] at h1
      cases h1
      rw [hco] at h2
      cases h2
  · exact (hk k (fun e => hD (.inl e)) (fun e => hD (.inr ⟨nv, hc, e⟩)) (Array.getElem?_eq_some_iff.1 hko).1).trans hko
  · rcases e with e | ⟨u, hu, hu2⟩
    · exact .inl e
    · have hc1 : W1.cell? ⟨B, 0, none⟩ = some nv := (World.cell?_of_block (hg.block B hB fun e => hBn e.symm)).trans hc
      have hu' : u = v' := by
        have := World.cell?_setCell_same W1 ⟨B, 0, none⟩ v' hc1
        rw [hu] at this
        cases this
        rfl
      subst hu'
      rcases ho with ho | ho
      · exact .inr ⟨nv, hc, ho ▸ hu2⟩
      · rw [ho] at hu2
        cases hu2
        exact absurd hkW (Nat.lt_irrefl _)
end Go.Proofs.Ytgehgccgologpaa.Z
