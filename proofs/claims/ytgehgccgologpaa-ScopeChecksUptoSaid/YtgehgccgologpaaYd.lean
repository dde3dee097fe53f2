/-
  What may be said, in the reference's words and in the program's: the same.
  The reference: within, but at a label. (gen_yd.py)
-/
import Derived.Test.YtgehgccgologpaaYc
import Derived.Test.YtgehgccgologpaaZq
import Derived.Laws.Rows
namespace Go.Proofs.Ytgehgccgologpaa.Z
open Go.RowKit Go.Shelf Go.Proofs.Ytgehgccgologpaa Go.Proofs.Ytgehgccgologpaa.R Go.Proofs.Ytgehgccgologpaa.T

def withinP (v : V) (a : Ar) : Ar :=
  if v.k = 39 ∨ v.k = 10 then ⟨[], [], false, false, true⟩
  else if isLp v then { a with loop := true, breaks := true }
  else if v.k = 36 then { a with breaks := true }
  else if v.k = 38 then { a with labels := a.labels ++ [v.nm], loops := if isLp (lbl v) then a.loops ++ [v.nm] else a.loops }
  else a
mutual
def mayP : V → Ar → Bool
  | .mk k nm n s ks l, a => ownP (.mk k nm n s ks l) a && maysP l (withinP (.mk k nm n s ks l) a)
def maysP : List V → Ar → Bool
  | [], _ => true
  | v :: r, a => mayP v a && maysP r a
end
def is38 (v : V) : Bool := decide (v.k = 38)
def arOf (ar : List V) (fb : Bool) : Ar := ⟨(ar.filter is38).map V.nm, (ar.filter fun u => is38 u && isLp (lbl u)).map V.nm, ar.any isLp, ar.any isLS, fb⟩
theorem mayP_eq (v : V) (a : Ar) : mayP v a = (ownP v a && maysP v.l (withinP v a)) := by cases v; rw [mayP]; rfl
theorem lab_has (ar : List V) (fb : Bool) (s : ByteArray) : hasB (arOf ar fb).labels s = ar.any (isLb s) := by
  unfold arOf hasB isLb
  dsimp only
  rw [List.any_map, List.any_filter]
  rfl
theorem loop_has : ∀ (ar : List V) (s : ByteArray), ((ar.filter is38).map V.nm).Nodup → hasB ((ar.filter fun u => is38 u && isLp (lbl u)).map V.nm) s = !(match ar.find? (isLb s) with | none => true | some u => !isLp (lbl u))
  | [], _, _ => rfl
  | u :: r, s, hn => by
    rw [List.find?_cons]
    cases h1 : is38 u with
    | false =>
      have h2 : isLb s u = false := by unfold isLb; unfold is38 at h1; rw [h1]; rfl
      rw [List.filter_cons_of_neg (by rw [h1]; simp)] at hn
      rw [h2, List.filter_cons_of_neg (by rw [h1]; simp)]
      exact loop_has r s hn
    | true =>
      rw [List.filter_cons_of_pos h1, List.map_cons, List.nodup_cons] at hn
      have hlb : isLb s u = decide (u.nm = s) := by unfold isLb; unfold is38 at h1; rw [h1, Bool.true_and]
      by_cases h3 : u.nm = s
      · rw [hlb, decide_eq_true h3]
        have hno : hasB ((r.filter fun u => is38 u && isLp (lbl u)).map V.nm) s = false := by
          rw [Bool.eq_false_iff]
          intro e
          rw [hasB_iff] at e
          obtain ⟨t, ht, he⟩ := List.mem_map.1 e
          obtain ⟨ht1, ht2⟩ := List.mem_filter.1 ht
          rw [Bool.and_eq_true] at ht2
          exact hn.1 (by rw [h3, ← he]; exact List.mem_map.2 ⟨t, List.mem_filter.2 ⟨ht1, ht2.1⟩, rfl⟩)
        cases h4 : isLp (lbl u) with
        | true =>
          rw [List.filter_cons_of_pos (by rw [h1, h4]; rfl), List.map_cons]
          simp [hasB, h3, h4]
        | false =>
          rw [List.filter_cons_of_neg (by rw [h1, h4]; simp), hno]
          simp [h4]
      · rw [hlb, decide_eq_false h3]
        have ih := loop_has r s hn.2
        cases h4 : isLp (lbl u) with
        | true =>
          rw [List.filter_cons_of_pos (by rw [h1, h4]; rfl), List.map_cons]
          have : hasB (u.nm :: (r.filter fun u => is38 u && isLp (lbl u)).map V.nm) s = hasB ((r.filter fun u => is38 u && isLp (lbl u)).map V.nm) s := by
            unfold hasB
            rw [List.any_cons, decide_eq_false h3, Bool.false_or]
          rw [this]
          exact ih
        | false =>
          rw [List.filter_cons_of_neg (by rw [h1, h4]; simp)]
          exact ih
theorem own_bad (v : V) (ar : List V) (fb : Bool) (hn : (arOf ar fb).labels.Nodup) : ownP v (arOf ar fb) = !badN ar v fb := by
  unfold badN ownP wrong astray
  split
  · rename_i h
    have h1 : ¬ v.k = 33 ∧ ¬ v.k = 31 ∧ ¬ v.k = 32 ∧ ¬ v.k = 38 := by omega
    rw [if_neg h1.1, if_neg h1.2.1, if_neg h1.2.2.1, if_neg h1.2.2.2, Bool.or_false]
  split
  · rename_i h
    have h1 : ¬ v.k = 33 ∧ ¬ v.k = 31 ∧ ¬ v.k = 32 ∧ ¬ v.k = 38 := by omega
    rw [if_neg h1.1, if_neg h1.2.1, if_neg h1.2.2.1, if_neg h1.2.2.2, Bool.or_false]
  split
  · rename_i h
    have h1 : ¬ v.k = 33 ∧ ¬ v.k = 31 ∧ ¬ v.k = 32 ∧ ¬ v.k = 38 := by omega
    rw [if_neg h1.1, if_neg h1.2.1, if_neg h1.2.2.1, if_neg h1.2.2.2, Bool.or_false]
  split
  · rename_i h
    have h1 : ¬ v.k = 33 ∧ ¬ v.k = 31 ∧ ¬ v.k = 32 ∧ ¬ v.k = 38 := by omega
    rw [if_neg h1.1, if_neg h1.2.1, if_neg h1.2.2.1, if_neg h1.2.2.2, Bool.or_false]
  split
  · rename_i h
    have h1 : ¬ v.k = 33 ∧ ¬ v.k = 31 ∧ ¬ v.k = 32 ∧ ¬ v.k = 38 := by omega
    rw [if_neg h1.1, if_neg h1.2.1, if_neg h1.2.2.1, if_neg h1.2.2.2, Bool.or_false]
  rw [Bool.false_or]
  split
  · simp [arOf]
  split
  · split
    · simp [arOf]
    · rw [lab_has]; simp
  split
  · split
    · simp [arOf]
    · refine (loop_has ar v.nm hn).trans ?_
      cases ar.find? (isLb v.nm) <;> rfl
  split
  · rw [lab_has]
  · rfl
theorem within_of {v : V} (ar : List V) (fb : Bool) (h : isFn v = false) : withinP v (arOf ar fb) = arOf (ar ++ [v]) fb := by
  have h0 : ¬ (v.k = 39 ∨ v.k = 10) := fun e => by
    have := (isFn_iff v).2 e.symm
    rw [h] at this
    cases this
  unfold withinP
  rw [if_neg h0]
  unfold arOf isLS
  split
  · rename_i h1
    have h2 : is38 v = false := by
      unfold isLp at h1
      unfold is38
      rw [decide_eq_true_eq] at h1
      exact decide_eq_false (by omega)
    simp [h1, h2]
  split
  · rename_i h1 h2
    have h3 : is38 v = false := by unfold is38; exact decide_eq_false (by omega)
    simp [h1, h2, h3]
  split
  · rename_i h1 h2 h3
    have h4 : is38 v = true := by unfold is38; exact decide_eq_true h3
    cases h5 : isLp (lbl v) <;> simp [h1, h2, h4, h5]
  · rename_i h1 h2 h3
    have h4 : is38 v = false := by unfold is38; exact decide_eq_false h3
    simp [h1, h2, h4]
theorem labels_next {v : V} {ar : List V} {fb : Bool} (hn : (arOf ar fb).labels.Nodup) (h : ownP v (arOf ar fb) = true) : (arOf (ar ++ [v]) fb).labels.Nodup := by
  have he : (arOf (ar ++ [v]) fb).labels = (arOf ar fb).labels ++ (if is38 v then [v.nm] else []) := by
    unfold arOf
    cases h1 : is38 v <;> simp [h1]
  rw [he]
  cases h1 : is38 v with
  | false => simpa using hn
  | true =>
    rw [if_pos rfl]
    have hk : v.k = 38 := by unfold is38 at h1; simpa using h1
    have hh : hasB (arOf ar fb).labels v.nm = false := by
      unfold ownP at h
      rw [if_neg (by omega), if_neg (by omega), if_neg (by omega), if_neg (by omega), if_neg (by omega), if_neg (by omega), if_neg (by omega), if_neg (by omega), if_pos hk] at h
      simpa using h
    exact List.nodup_append.2 ⟨hn, by simp, fun a ha b hb e => by simp at hb; subst hb; subst e; rw [(hasB_iff _ _).2 ha] at hh; cases hh⟩
theorem fnsP_cons (x : It) (r : List It) : fnsP (x :: r) = (if isFn x.2 then [x.2] else []) ++ fnsP r := by
  unfold fnsP
  cases h : isFn x.2 <;> simp [h]
theorem bads_cons (fb : Bool) (x : It) (r : List It) : bads fb (x :: r) = (badN x.1 x.2 fb || bads fb r) := by simp [bads]
theorem may_all : ∀ n : Nat, (∀ v : V, v.size ≤ n → ∀ ar fb, (arOf ar fb).labels.Nodup → mayP v (arOf ar fb) = !(bads fb (wiV ar v) || (fnsP (wiV ar v)).any early)) ∧
    (∀ l : List V, V.sizes l ≤ n → ∀ ar fb, (arOf ar fb).labels.Nodup → maysP l (arOf ar fb) = !(bads fb (wi ar l) || (fnsP (wi ar l)).any early))
  | 0 => ⟨fun v h => by rw [R.size_eq] at h; omega, fun l h ar fb _ => by
      cases l with
      | nil => rw [maysP, wi]; rfl
      | cons v r => rw [V.sizes, R.size_eq] at h; omega⟩
  | n + 1 => by
    obtain ⟨ih1, ih2⟩ := may_all n
    have hv : ∀ v : V, v.size ≤ n + 1 → ∀ ar fb, (arOf ar fb).labels.Nodup → mayP v (arOf ar fb) = !(bads fb (wiV ar v) || (fnsP (wiV ar v)).any early) := fun v hs ar fb hn => by
      rw [R.size_eq] at hs
      rw [mayP_eq, wiV_eq, bads_cons, fnsP_cons]
      dsimp only
      have hob := own_bad v ar fb hn
      cases hf : isFn v with
      | true =>
        have hk := (isFn_iff v).1 hf
        have hw : withinP v (arOf ar fb) = arOf [] true := by unfold withinP; rw [if_pos hk.symm]; rfl
        rw [hw, ih2 v.l (by omega) [] true (by simp [arOf]), hob, if_pos rfl, if_pos rfl]
        have he : early v = (bads true (wi [] v.l) || (fns v.l).any early) := by rw [early_eq, hf]
        simp [he, bads, fnsP]
      | false =>
        rw [if_neg (by decide), if_neg (by decide), List.nil_append, within_of ar fb hf]
        cases ho : ownP v (arOf ar fb) with
        | false =>
          rw [ho] at hob
          have : badN ar v fb = true := by simpa using hob
          rw [this]
          simp
        | true =>
          have hb : badN ar v fb = false := by rw [ho] at hob; simpa using hob
          rw [ih2 v.l (by omega) (ar ++ [v]) fb (labels_next hn ho), hb, Bool.true_and, Bool.false_or]
    refine ⟨hv, fun l hs ar fb hn => ?_⟩
    induction l with
    | nil => rw [maysP, wi]; rfl
    | cons v r ihl =>
      rw [V.sizes] at hs
      rw [maysP, wi, hv v (by omega) ar fb hn, ihl (by omega), bads_append, fnsP_append, List.any_append]
      cases bads fb (wiV ar v) <;> cases (fnsP (wiV ar v)).any early <;> simp
/-- a program may be said in the reference's words just if nothing in it is an early error -/
theorem may_prog (v : V) (hk : v.k = 41) : mayP v ⟨[], [], false, false, false⟩ = !early v := by
  have hf : isFn v = false := by
    rw [Bool.eq_false_iff]
    intro e
    have := (isFn_iff v).1 e
    omega
  have h1 : ownP v ⟨[], [], false, false, false⟩ = true := by
    unfold ownP
    rw [if_neg (by omega), if_neg (by omega), if_neg (by omega), if_neg (by omega), if_neg (by omega), if_neg (by omega), if_neg (by omega), if_neg (by omega), if_neg (by omega)]
  have h2 : withinP v ⟨[], [], false, false, false⟩ = arOf [] false := by
    have hl : ¬ isLp v = true := by unfold isLp; rw [decide_eq_true_eq]; omega
    unfold withinP
    rw [if_neg (by omega), if_neg hl, if_neg (by omega), if_neg (by omega)]
    rfl
  rw [mayP_eq, h1, h2, Bool.true_and, (may_all (V.sizes v.l)).2 v.l (Nat.le_refl _) [] false (by simp [arOf]), early_eq, hf]
theorem infoAr : (Try.prog.info? 46).map (fun i => (i.zero, i.size, i.bytes)) = some (some (.agg #[.slice none 0 0, .slice none 0 0, .bool false, .bool false, .bool false]), 5, 56) := by kernel_rfl
theorem rp_new {w : World} {o : Obj} {g : Nat} (h : g = w.heap.size) : (w.alloc o).heap[g]? = some o := by subst h; exact World.alloc_heap_new w o
theorem rp_alloc {w : World} {o o' : Obj} {g : Nat} (h : w.heap[g]? = some o) : (w.alloc o').heap[g]? = some o := (Below.heap_alloc w o' g (Array.getElem?_eq_some_iff.1 h).1).trans h
/-- what is at hand behind the question whether a node is a loop -/
structure Wit (w : World) (n : Array Value) (a : Ar) (z : ArX) (W : World) : Prop where
  bl : Below w.heap.size w W
  n' : W.heap[w.heap.size]? = some (.cells n 25)
  r : W.heap[w.heap.size + 1]? = some (.cells (z.cells a) 46)
  q : W.heap[w.heap.size + 1 + 1]? = some (.cells #[.slice none 0 0, .slice none 0 0, .bool false, .bool false, .bool false] 46)
theorem wit_new (w : World) (n : Array Value) (a : Ar) (z : ArX) (W : World) (hb : Below (((w.alloc (.cells n 25)).alloc (.cells (z.cells a) 46)).alloc (.cells #[.slice none 0 0, .slice none 0 0, .bool false, .bool false, .bool false] 46)).heap.size (((w.alloc (.cells n 25)).alloc (.cells (z.cells a) 46)).alloc (.cells #[.slice none 0 0, .slice none 0 0, .bool false, .bool false, .bool false] 46)) W) : Wit w n a z W := by
  refine ⟨?_, (hb.block _ (by simp; omega)).trans (rp_alloc (rp_alloc (rp_new rfl))), (hb.block _ (by simp)).trans (rp_alloc (rp_new (by simp))), (hb.block _ (by simp)).trans (rp_new (by simp))⟩
  refine Below.trans ?_ (hb.mono (by simp; omega))
  repeat' (first | exact Below.refl _ _ | refine Below.alloc ?_ (by simp <;> omega) _)
theorem set5_row {w : World} {g : Nat} {a0 a1 a2 a3 a4 : Value} {t : TypeId} {fr : Nat × Nat} (h : w.heap[g]? = some (.cells #[a0, a1, a2, a3, a4] t fr)) (b0 b1 b2 b3 b4 : Value) :
    (((((w.setCell ⟨g, 0, none⟩ b0).setCell ⟨g, 1, none⟩ b1).setCell ⟨g, 2, none⟩ b2).setCell ⟨g, 3, none⟩ b3).setCell ⟨g, 4, none⟩ b4).heap[g]? = some (.cells #[b0, b1, b2, b3, b4] t fr) := by
  simp [World.setCell, Array.getElem?_modify, h]
set_option maxRecDepth 8000 in
set_option maxHeartbeats 1000000 in
theorem rwithin_39 (v : V) (x : X) (a : Ar) (z : ArX) (w : World) (hx : Is w v x) (hk : v.k = 39) : Calls Try.prog 55 #[x.v, z.v a] w fun e w' => ∃ z' : ArX, e = .returned (z'.v ⟨[], [], false, false, true⟩) ∧ IsAr w' w'.heap.size ⟨[], [], false, false, true⟩ z' ∧ Below w.heap.size w w' := by
  obtain ⟨i5, hi5, hz5, hs5, hb5⟩ := info_parts infoAr
  obtain ⟨xka, xkc, xla, xlc, rfl, -, -, -, -⟩ := hx.open
  simp only [X.v, ArX.v, ArX.cells]
  rw [hk]
  clear hx hk
  go_enter Try.func55, Try.ntmps55
  go_wp2_with fail
  refine bodyPost_ret (results_cell_row rfl _ _ (w.heap.size + 1 + 1) 46 _ (0, 0) _ rfl (rp_new (by simp)) Try.underlying46 rfl (by rw [hi5]; simp [hs5])) rfl ⟨⟨none, 0, none, 0⟩, rfl, ⟨.inl rfl, Nat.le_refl _, .inl rfl, Nat.le_refl _, Nat.zero_le _, Nat.zero_le _⟩, ?_⟩
  repeat' (first | exact Below.refl _ _ | refine Below.alloc ?_ (by simp <;> omega) _)
set_option maxRecDepth 8000 in
set_option maxHeartbeats 1000000 in
theorem rwithin_10 (v : V) (x : X) (a : Ar) (z : ArX) (w : World) (hx : Is w v x) (hk : v.k = 10) : Calls Try.prog 55 #[x.v, z.v a] w fun e w' => ∃ z' : ArX, e = .returned (z'.v ⟨[], [], false, false, true⟩) ∧ IsAr w' w'.heap.size ⟨[], [], false, false, true⟩ z' ∧ Below w.heap.size w w' := by
  obtain ⟨i5, hi5, hz5, hs5, hb5⟩ := info_parts infoAr
  obtain ⟨xka, xkc, xla, xlc, rfl, -, -, -, -⟩ := hx.open
  simp only [X.v, ArX.v, ArX.cells]
  rw [hk]
  clear hx hk
  go_enter Try.func55, Try.ntmps55
  go_wp2_with fail
  refine bodyPost_ret (results_cell_row rfl _ _ (w.heap.size + 1 + 1) 46 _ (0, 0) _ rfl (rp_new (by simp)) Try.underlying46 rfl (by rw [hi5]; simp [hs5])) rfl ⟨⟨none, 0, none, 0⟩, rfl, ⟨.inl rfl, Nat.le_refl _, .inl rfl, Nat.le_refl _, Nat.zero_le _, Nat.zero_le _⟩, ?_⟩
  repeat' (first | exact Below.refl _ _ | refine Below.alloc ?_ (by simp <;> omega) _)
set_option maxRecDepth 8000 in
set_option maxHeartbeats 1000000 in
theorem rwithin_36 (v : V) (x : X) (a : Ar) (z : ArX) (w : World) (hx : Is w v x) (ha : IsAr w w.heap.size a z) (hk : v.k = 36) : Calls Try.prog 55 #[x.v, z.v a] w fun e w' => ∃ z' : ArX, e = .returned (z'.v { a with breaks := true }) ∧ IsAr w' w'.heap.size { a with breaks := true } z' ∧ Below w.heap.size w w' := by
  obtain ⟨i5, hi5, hz5, hs5, hb5⟩ := info_parts infoAr
  obtain ⟨xka, xkc, xla, xlc, rfl, -, -, -, -⟩ := hx.open
  have HL : Hid (∀ w', Calls Try.prog 74 #[X.v ⟨v.k, v.nm, v.n, v.s, xka, v.ks.length, xkc, xla, v.l.length, xlc⟩] w' (AnsB w' false)) := fun w' => by
    have := rLoop_x ⟨v.k, v.nm, v.n, v.s, xka, v.ks.length, xkc, xla, v.l.length, xlc⟩ w'
    rwa [show kLp (X.k ⟨v.k, v.nm, v.n, v.s, xka, v.ks.length, xkc, xla, v.l.length, xlc⟩) = false by show kLp v.k = false; rw [hk]; rfl] at this
  have HWI := Lib.hid fun n W => wit_new w n a z W
  have HAR := Lib.hid ha
  simp only [X.v, ArX.v, ArX.cells] at HL HWI ⊢
  rw [hk] at HL ⊢
  clear hx ha hk
  go_enter Try.func55, Try.ntmps55
  go_wp2_with fail
  refine (HL.out _).mono ?_
  rintro e w1 ⟨rfl, hb1⟩
  have HW := Lib.hid (HWI.out _ _ hb1)
  have h1 := HW.out.r
  have h2 := HW.out.q
  have h0 := HW.out.n'
  have c0 : w1.cell? ⟨w.heap.size, 0, none⟩ = some (.int .i64 36) := (cell_of_row w1 _ 0 _ _ _ h0).trans rfl
  have r0 : w1.cell? ⟨w.heap.size + 1, 0, none⟩ = some (.slice z.la a.labels.length z.lc) := (cell_of_row w1 _ 0 _ _ _ h1).trans rfl
  have r1 : w1.cell? ⟨w.heap.size + 1, 1, none⟩ = some (.slice z.pa a.loops.length z.pc) := (cell_of_row w1 _ 1 _ _ _ h1).trans rfl
  have r2 : w1.cell? ⟨w.heap.size + 1, 2, none⟩ = some (.bool a.loop) := (cell_of_row w1 _ 2 _ _ _ h1).trans rfl
  have r3 : w1.cell? ⟨w.heap.size + 1, 3, none⟩ = some (.bool a.breaks) := (cell_of_row w1 _ 3 _ _ _ h1).trans rfl
  have r4 : w1.cell? ⟨w.heap.size + 1, 4, none⟩ = some (.bool a.inside) := (cell_of_row w1 _ 4 _ _ _ h1).trans rfl
  have q0 : w1.cell? ⟨w.heap.size + 1 + 1, 0, none⟩ = some (.slice none 0 0) := (cell_of_row w1 _ 0 _ _ _ h2).trans rfl
  have q1 : w1.cell? ⟨w.heap.size + 1 + 1, 1, none⟩ = some (.slice none 0 0) := (cell_of_row w1 _ 1 _ _ _ h2).trans rfl
  have q2 : w1.cell? ⟨w.heap.size + 1 + 1, 2, none⟩ = some (.bool false) := (cell_of_row w1 _ 2 _ _ _ h2).trans rfl
  have q3 : w1.cell? ⟨w.heap.size + 1 + 1, 3, none⟩ = some (.bool false) := (cell_of_row w1 _ 3 _ _ _ h2).trans rfl
  have q4 : w1.cell? ⟨w.heap.size + 1 + 1, 4, none⟩ = some (.bool false) := (cell_of_row w1 _ 4 _ _ _ h2).trans rfl
  have rf : ∀ j, w1.frozen? ⟨w.heap.size + 1, j, none⟩ = false := fun j => by simp [World.frozen?, h1]
  have qf : ∀ j, w1.frozen? ⟨w.heap.size + 1 + 1, j, none⟩ = false := fun j => by simp [World.frozen?, h2]
  clear hb1 h0 h1 h2
  go_wp2_with fail
  have HBF := ((((((HW.out.bl).setCell (p := ⟨w.heap.size + 1, 3, none⟩) (by show w.heap.size ≤ w.heap.size + 1; omega) (.bool true)).setCell (p := ⟨w.heap.size + 1 + 1, 0, none⟩) (by show w.heap.size ≤ w.heap.size + 1 + 1; omega) (.slice z.la a.labels.length z.lc)).setCell (p := ⟨w.heap.size + 1 + 1, 1, none⟩) (by show w.heap.size ≤ w.heap.size + 1 + 1; omega) (.slice z.pa a.loops.length z.pc)).setCell (p := ⟨w.heap.size + 1 + 1, 2, none⟩) (by show w.heap.size ≤ w.heap.size + 1 + 1; omega) (.bool a.loop)).setCell (p := ⟨w.heap.size + 1 + 1, 3, none⟩) (by show w.heap.size ≤ w.heap.size + 1 + 1; omega) (.bool true)).setCell (p := ⟨w.heap.size + 1 + 1, 4, none⟩) (by show w.heap.size ≤ w.heap.size + 1 + 1; omega) (.bool a.inside)
  refine bodyPost_ret (results_cell_row rfl _ _ (w.heap.size + 1 + 1) 46 _ (0, 0) _ rfl (set5_row ((Below.heap_setCell _ ⟨w.heap.size + 1, 3, none⟩ _ (w.heap.size + 1 + 1) (by show w.heap.size + 1 + 1 ≠ w.heap.size + 1; omega)).trans (HW.out.q)) (.slice z.la a.labels.length z.lc) (.slice z.pa a.loops.length z.pc) (.bool a.loop) (.bool true) (.bool a.inside)) Try.underlying46 rfl (by rw [hi5]; simp [hs5])) rfl ⟨⟨z.la, z.lc, z.pa, z.pc⟩, rfl, ?_, HBF⟩
  have h := HAR.out.to HBF HBF.size
  exact ⟨h.ls, h.lc, h.ps, h.pc, h.ll, h.pl⟩

set_option maxRecDepth 8000 in
set_option maxHeartbeats 1000000 in
theorem rwithin_27 (v : V) (x : X) (a : Ar) (z : ArX) (w : World) (hx : Is w v x) (ha : IsAr w w.heap.size a z) (hk : v.k = 27) : Calls Try.prog 55 #[x.v, z.v a] w fun e w' => ∃ z' : ArX, e = .returned (z'.v { a with loop := true, breaks := true }) ∧ IsAr w' w'.heap.size { a with loop := true, breaks := true } z' ∧ Below w.heap.size w w' := by
  obtain ⟨i5, hi5, hz5, hs5, hb5⟩ := info_parts infoAr
  obtain ⟨xka, xkc, xla, xlc, rfl, -, -, -, -⟩ := hx.open
  have HL : Hid (∀ w', Calls Try.prog 74 #[X.v ⟨v.k, v.nm, v.n, v.s, xka, v.ks.length, xkc, xla, v.l.length, xlc⟩] w' (AnsB w' true)) := fun w' => by
    have := rLoop_x ⟨v.k, v.nm, v.n, v.s, xka, v.ks.length, xkc, xla, v.l.length, xlc⟩ w'
    rwa [show kLp (X.k ⟨v.k, v.nm, v.n, v.s, xka, v.ks.length, xkc, xla, v.l.length, xlc⟩) = true by show kLp v.k = true; rw [hk]; rfl] at this
  have HWI := Lib.hid fun n W => wit_new w n a z W
  have HAR := Lib.hid ha
  simp only [X.v, ArX.v, ArX.cells] at HL HWI ⊢
  rw [hk] at HL ⊢
  clear hx ha hk
  go_enter Try.func55, Try.ntmps55
  go_wp2_with fail
  refine (HL.out _).mono ?_
  rintro e w1 ⟨rfl, hb1⟩
  have HW := Lib.hid (HWI.out _ _ hb1)
  have h1 := HW.out.r
  have h2 := HW.out.q
  have h0 := HW.out.n'
  have c0 : w1.cell? ⟨w.heap.size, 0, none⟩ = some (.int .i64 27) := (cell_of_row w1 _ 0 _ _ _ h0).trans rfl
  have r0 : w1.cell? ⟨w.heap.size + 1, 0, none⟩ = some (.slice z.la a.labels.length z.lc) := (cell_of_row w1 _ 0 _ _ _ h1).trans rfl
  have r1 : w1.cell? ⟨w.heap.size + 1, 1, none⟩ = some (.slice z.pa a.loops.length z.pc) := (cell_of_row w1 _ 1 _ _ _ h1).trans rfl
  have r2 : w1.cell? ⟨w.heap.size + 1, 2, none⟩ = some (.bool a.loop) := (cell_of_row w1 _ 2 _ _ _ h1).trans rfl
  have r3 : w1.cell? ⟨w.heap.size + 1, 3, none⟩ = some (.bool a.breaks) := (cell_of_row w1 _ 3 _ _ _ h1).trans rfl
  have r4 : w1.cell? ⟨w.heap.size + 1, 4, none⟩ = some (.bool a.inside) := (cell_of_row w1 _ 4 _ _ _ h1).trans rfl
  have q0 : w1.cell? ⟨w.heap.size + 1 + 1, 0, none⟩ = some (.slice none 0 0) := (cell_of_row w1 _ 0 _ _ _ h2).trans rfl
  have q1 : w1.cell? ⟨w.heap.size + 1 + 1, 1, none⟩ = some (.slice none 0 0) := (cell_of_row w1 _ 1 _ _ _ h2).trans rfl
  have q2 : w1.cell? ⟨w.heap.size + 1 + 1, 2, none⟩ = some (.bool false) := (cell_of_row w1 _ 2 _ _ _ h2).trans rfl
  have q3 : w1.cell? ⟨w.heap.size + 1 + 1, 3, none⟩ = some (.bool false) := (cell_of_row w1 _ 3 _ _ _ h2).trans rfl
  have q4 : w1.cell? ⟨w.heap.size + 1 + 1, 4, none⟩ = some (.bool false) := (cell_of_row w1 _ 4 _ _ _ h2).trans rfl
  have rf : ∀ j, w1.frozen? ⟨w.heap.size + 1, j, none⟩ = false := fun j => by simp [World.frozen?, h1]
  have qf : ∀ j, w1.frozen? ⟨w.heap.size + 1 + 1, j, none⟩ = false := fun j => by simp [World.frozen?, h2]
  clear hb1 h0 h1 h2
  go_wp2_with fail
  have HBF := (((((((HW.out.bl).setCell (p := ⟨w.heap.size + 1, 2, none⟩) (by show w.heap.size ≤ w.heap.size + 1; omega) (.bool true)).setCell (p := ⟨w.heap.size + 1, 3, none⟩) (by show w.heap.size ≤ w.heap.size + 1; omega) (.bool true)).setCell (p := ⟨w.heap.size + 1 + 1, 0, none⟩) (by show w.heap.size ≤ w.heap.size + 1 + 1; omega) (.slice z.la a.labels.length z.lc)).setCell (p := ⟨w.heap.size + 1 + 1, 1, none⟩) (by show w.heap.size ≤ w.heap.size + 1 + 1; omega) (.slice z.pa a.loops.length z.pc)).setCell (p := ⟨w.heap.size + 1 + 1, 2, none⟩) (by show w.heap.size ≤ w.heap.size + 1 + 1; omega) (.bool true)).setCell (p := ⟨w.heap.size + 1 + 1, 3, none⟩) (by show w.heap.size ≤ w.heap.size + 1 + 1; omega) (.bool true)).setCell (p := ⟨w.heap.size + 1 + 1, 4, none⟩) (by show w.heap.size ≤ w.heap.size + 1 + 1; omega) (.bool a.inside)
  refine bodyPost_ret (results_cell_row rfl _ _ (w.heap.size + 1 + 1) 46 _ (0, 0) _ rfl (set5_row ((Below.heap_setCell _ ⟨w.heap.size + 1, 3, none⟩ _ (w.heap.size + 1 + 1) (by show w.heap.size + 1 + 1 ≠ w.heap.size + 1; omega)).trans (((Below.heap_setCell _ ⟨w.heap.size + 1, 2, none⟩ _ (w.heap.size + 1 + 1) (by show w.heap.size + 1 + 1 ≠ w.heap.size + 1; omega)).trans (HW.out.q)))) (.slice z.la a.labels.length z.lc) (.slice z.pa a.loops.length z.pc) (.bool true) (.bool true) (.bool a.inside)) Try.underlying46 rfl (by rw [hi5]; simp [hs5])) rfl ⟨⟨z.la, z.lc, z.pa, z.pc⟩, rfl, ?_, HBF⟩
  have h := HAR.out.to HBF HBF.size
  exact ⟨h.ls, h.lc, h.ps, h.pc, h.ll, h.pl⟩

set_option maxRecDepth 8000 in
set_option maxHeartbeats 1000000 in
theorem rwithin_28 (v : V) (x : X) (a : Ar) (z : ArX) (w : World) (hx : Is w v x) (ha : IsAr w w.heap.size a z) (hk : v.k = 28) : Calls Try.prog 55 #[x.v, z.v a] w fun e w' => ∃ z' : ArX, e = .returned (z'.v { a with loop := true, breaks := true }) ∧ IsAr w' w'.heap.size { a with loop := true, breaks := true } z' ∧ Below w.heap.size w w' := by
  obtain ⟨i5, hi5, hz5, hs5, hb5⟩ := info_parts infoAr
  obtain ⟨xka, xkc, xla, xlc, rfl, -, -, -, -⟩ := hx.open
  have HL : Hid (∀ w', Calls Try.prog 74 #[X.v ⟨v.k, v.nm, v.n, v.s, xka, v.ks.length, xkc, xla, v.l.length, xlc⟩] w' (AnsB w' true)) := fun w' => by
    have := rLoop_x ⟨v.k, v.nm, v.n, v.s, xka, v.ks.length, xkc, xla, v.l.length, xlc⟩ w'
    rwa [show kLp (X.k ⟨v.k, v.nm, v.n, v.s, xka, v.ks.length, xkc, xla, v.l.length, xlc⟩) = true by show kLp v.k = true; rw [hk]; rfl] at this
  have HWI := Lib.hid fun n W => wit_new w n a z W
  have HAR := Lib.hid ha
  simp only [X.v, ArX.v, ArX.cells] at HL HWI ⊢
  rw [hk] at HL ⊢
  clear hx ha hk
  go_enter Try.func55, Try.ntmps55
  go_wp2_with fail
  refine (HL.out _).mono ?_
  rintro e w1 ⟨rfl, hb1⟩
  have HW := Lib.hid (HWI.out _ _ hb1)
  have h1 := HW.out.r
  have h2 := HW.out.q
  have h0 := HW.out.n'
  have c0 : w1.cell? ⟨w.heap.size, 0, none⟩ = some (.int .i64 28) := (cell_of_row w1 _ 0 _ _ _ h0).trans rfl
  have r0 : w1.cell? ⟨w.heap.size + 1, 0, none⟩ = some (.slice z.la a.labels.length z.lc) := (cell_of_row w1 _ 0 _ _ _ h1).trans rfl
  have r1 : w1.cell? ⟨w.heap.size + 1, 1, none⟩ = some (.slice z.pa a.loops.length z.pc) := (cell_of_row w1 _ 1 _ _ _ h1).trans rfl
  have r2 : w1.cell? ⟨w.heap.size + 1, 2, none⟩ = some (.bool a.loop) := (cell_of_row w1 _ 2 _ _ _ h1).trans rfl
  have r3 : w1.cell? ⟨w.heap.size + 1, 3, none⟩ = some (.bool a.breaks) := (cell_of_row w1 _ 3 _ _ _ h1).trans rfl
  have r4 : w1.cell? ⟨w.heap.size + 1, 4, none⟩ = some (.bool a.inside) := (cell_of_row w1 _ 4 _ _ _ h1).trans rfl
  have q0 : w1.cell? ⟨w.heap.size + 1 + 1, 0, none⟩ = some (.slice none 0 0) := (cell_of_row w1 _ 0 _ _ _ h2).trans rfl
  have q1 : w1.cell? ⟨w.heap.size + 1 + 1, 1, none⟩ = some (.slice none 0 0) := (cell_of_row w1 _ 1 _ _ _ h2).trans rfl
  have q2 : w1.cell? ⟨w.heap.size + 1 + 1, 2, none⟩ = some (.bool false) := (cell_of_row w1 _ 2 _ _ _ h2).trans rfl
  have q3 : w1.cell? ⟨w.heap.size + 1 + 1, 3, none⟩ = some (.bool false) := (cell_of_row w1 _ 3 _ _ _ h2).trans rfl
  have q4 : w1.cell? ⟨w.heap.size + 1 + 1, 4, none⟩ = some (.bool false) := (cell_of_row w1 _ 4 _ _ _ h2).trans rfl
  have rf : ∀ j, w1.frozen? ⟨w.heap.size + 1, j, none⟩ = false := fun j => by simp [World.frozen?, h1]
  have qf : ∀ j, w1.frozen? ⟨w.heap.size + 1 + 1, j, none⟩ = false := fun j => by simp [World.frozen?, h2]
  clear hb1 h0 h1 h2
  go_wp2_with fail
  have HBF := (((((((HW.out.bl).setCell (p := ⟨w.heap.size + 1, 2, none⟩) (by show w.heap.size ≤ w.heap.size + 1; omega) (.bool true)).setCell (p := ⟨w.heap.size + 1, 3, none⟩) (by show w.heap.size ≤ w.heap.size + 1; omega) (.bool true)).setCell (p := ⟨w.heap.size + 1 + 1, 0, none⟩) (by show w.heap.size ≤ w.heap.size + 1 + 1; omega) (.slice z.la a.labels.length z.lc)).setCell (p := ⟨w.heap.size + 1 + 1, 1, none⟩) (by show w.heap.size ≤ w.heap.size + 1 + 1; omega) (.slice z.pa a.loops.length z.pc)).setCell (p := ⟨w.heap.size + 1 + 1, 2, none⟩) (by show w.heap.size ≤ w.heap.size + 1 + 1; omega) (.bool true)).setCell (p := ⟨w.heap.size + 1 + 1, 3, none⟩) (by show w.heap.size ≤ w.heap.size + 1 + 1; omega) (.bool true)).setCell (p := ⟨w.heap.size + 1 + 1, 4, none⟩) (by show w.heap.size ≤ w.heap.size + 1 + 1; omega) (.bool a.inside)
  refine bodyPost_ret (results_cell_row rfl _ _ (w.heap.size + 1 + 1) 46 _ (0, 0) _ rfl (set5_row ((Below.heap_setCell _ ⟨w.heap.size + 1, 3, none⟩ _ (w.heap.size + 1 + 1) (by show w.heap.size + 1 + 1 ≠ w.heap.size + 1; omega)).trans (((Below.heap_setCell _ ⟨w.heap.size + 1, 2, none⟩ _ (w.heap.size + 1 + 1) (by show w.heap.size + 1 + 1 ≠ w.heap.size + 1; omega)).trans (HW.out.q)))) (.slice z.la a.labels.length z.lc) (.slice z.pa a.loops.length z.pc) (.bool true) (.bool true) (.bool a.inside)) Try.underlying46 rfl (by rw [hi5]; simp [hs5])) rfl ⟨⟨z.la, z.lc, z.pa, z.pc⟩, rfl, ?_, HBF⟩
  have h := HAR.out.to HBF HBF.size
  exact ⟨h.ls, h.lc, h.ps, h.pc, h.ll, h.pl⟩

set_option maxRecDepth 8000 in
set_option maxHeartbeats 1000000 in
theorem rwithin_29 (v : V) (x : X) (a : Ar) (z : ArX) (w : World) (hx : Is w v x) (ha : IsAr w w.heap.size a z) (hk : v.k = 29) : Calls Try.prog 55 #[x.v, z.v a] w fun e w' => ∃ z' : ArX, e = .returned (z'.v { a with loop := true, breaks := true }) ∧ IsAr w' w'.heap.size { a with loop := true, breaks := true } z' ∧ Below w.heap.size w w' := by
  obtain ⟨i5, hi5, hz5, hs5, hb5⟩ := info_parts infoAr
  obtain ⟨xka, xkc, xla, xlc, rfl, -, -, -, -⟩ := hx.open
  have HL : Hid (∀ w', Calls Try.prog 74 #[X.v ⟨v.k, v.nm, v.n, v.s, xka, v.ks.length, xkc, xla, v.l.length, xlc⟩] w' (AnsB w' true)) := fun w' => by
    have := rLoop_x ⟨v.k, v.nm, v.n, v.s, xka, v.ks.length, xkc, xla, v.l.length, xlc⟩ w'
    rwa [show kLp (X.k ⟨v.k, v.nm, v.n, v.s, xka, v.ks.length, xkc, xla, v.l.length, xlc⟩) = true by show kLp v.k = true; rw [hk]; rfl] at this
  have HWI := Lib.hid fun n W => wit_new w n a z W
  have HAR := Lib.hid ha
  simp only [X.v, ArX.v, ArX.cells] at HL HWI ⊢
  rw [hk] at HL ⊢
  clear hx ha hk
  go_enter Try.func55, Try.ntmps55
  go_wp2_with fail
  refine (HL.out _).mono ?_
  rintro e w1 ⟨rfl, hb1⟩
  have HW := Lib.hid (HWI.out _ _ hb1)
  have h1 := HW.out.r
  have h2 := HW.out.q
  have h0 := HW.out.n'
  have c0 : w1.cell? ⟨w.heap.size, 0, none⟩ = some (.int .i64 29) := (cell_of_row w1 _ 0 _ _ _ h0).trans rfl
  have r0 : w1.cell? ⟨w.heap.size + 1, 0, none⟩ = some (.slice z.la a.labels.length z.lc) := (cell_of_row w1 _ 0 _ _ _ h1).trans rfl
  have r1 : w1.cell? ⟨w.heap.size + 1, 1, none⟩ = some (.slice z.pa a.loops.length z.pc) := (cell_of_row w1 _ 1 _ _ _ h1).trans rfl
  have r2 : w1.cell? ⟨w.heap.size + 1, 2, none⟩ = some (.bool a.loop) := (cell_of_row w1 _ 2 _ _ _ h1).trans rfl
  have r3 : w1.cell? ⟨w.heap.size + 1, 3, none⟩ = some (.bool a.breaks) := (cell_of_row w1 _ 3 _ _ _ h1).trans rfl
  have r4 : w1.cell? ⟨w.heap.size + 1, 4, none⟩ = some (.bool a.inside) := (cell_of_row w1 _ 4 _ _ _ h1).trans rfl
  have q0 : w1.cell? ⟨w.heap.size + 1 + 1, 0, none⟩ = some (.slice none 0 0) := (cell_of_row w1 _ 0 _ _ _ h2).trans rfl
  have q1 : w1.cell? ⟨w.heap.size + 1 + 1, 1, none⟩ = some (.slice none 0 0) := (cell_of_row w1 _ 1 _ _ _ h2).trans rfl
  have q2 : w1.cell? ⟨w.heap.size + 1 + 1, 2, none⟩ = some (.bool false) := (cell_of_row w1 _ 2 _ _ _ h2).trans rfl
  have q3 : w1.cell? ⟨w.heap.size + 1 + 1, 3, none⟩ = some (.bool false) := (cell_of_row w1 _ 3 _ _ _ h2).trans rfl
  have q4 : w1.cell? ⟨w.heap.size + 1 + 1, 4, none⟩ = some (.bool false) := (cell_of_row w1 _ 4 _ _ _ h2).trans rfl
  have rf : ∀ j, w1.frozen? ⟨w.heap.size + 1, j, none⟩ = false := fun j => by simp [World.frozen?, h1]
  have qf : ∀ j, w1.frozen? ⟨w.heap.size + 1 + 1, j, none⟩ = false := fun j => by simp [World.frozen?, h2]
  clear hb1 h0 h1 h2
  go_wp2_with fail
  have HBF := (((((((HW.out.bl).setCell (p := ⟨w.heap.size + 1, 2, none⟩) (by show w.heap.size ≤ w.heap.size + 1; omega) (.bool true)).setCell (p := ⟨w.heap.size + 1, 3, none⟩) (by show w.heap.size ≤ w.heap.size + 1; omega) (.bool true)).setCell (p := ⟨w.heap.size + 1 + 1, 0, none⟩) (by show w.heap.size ≤ w.heap.size + 1 + 1; omega) (.slice z.la a.labels.length z.lc)).setCell (p := ⟨w.heap.size + 1 + 1, 1, none⟩) (by show w.heap.size ≤ w.heap.size + 1 + 1; omega) (.slice z.pa a.loops.length z.pc)).setCell (p := ⟨w.heap.size + 1 + 1, 2, none⟩) (by show w.heap.size ≤ w.heap.size + 1 + 1; omega) (.bool true)).setCell (p := ⟨w.heap.size + 1 + 1, 3, none⟩) (by show w.heap.size ≤ w.heap.size + 1 + 1; omega) (.bool true)).setCell (p := ⟨w.heap.size + 1 + 1, 4, none⟩) (by show w.heap.size ≤ w.heap.size + 1 + 1; omega) (.bool a.inside)
  refine bodyPost_ret (results_cell_row rfl _ _ (w.heap.size + 1 + 1) 46 _ (0, 0) _ rfl (set5_row ((Below.heap_setCell _ ⟨w.heap.size + 1, 3, none⟩ _ (w.heap.size + 1 + 1) (by show w.heap.size + 1 + 1 ≠ w.heap.size + 1; omega)).trans (((Below.heap_setCell _ ⟨w.heap.size + 1, 2, none⟩ _ (w.heap.size + 1 + 1) (by show w.heap.size + 1 + 1 ≠ w.heap.size + 1; omega)).trans (HW.out.q)))) (.slice z.la a.labels.length z.lc) (.slice z.pa a.loops.length z.pc) (.bool true) (.bool true) (.bool a.inside)) Try.underlying46 rfl (by rw [hi5]; simp [hs5])) rfl ⟨⟨z.la, z.lc, z.pa, z.pc⟩, rfl, ?_, HBF⟩
  have h := HAR.out.to HBF HBF.size
  exact ⟨h.ls, h.lc, h.ps, h.pc, h.ll, h.pl⟩

set_option maxRecDepth 8000 in
set_option maxHeartbeats 1000000 in
theorem rwithin_30 (v : V) (x : X) (a : Ar) (z : ArX) (w : World) (hx : Is w v x) (ha : IsAr w w.heap.size a z) (hk : v.k = 30) : Calls Try.prog 55 #[x.v, z.v a] w fun e w' => ∃ z' : ArX, e = .returned (z'.v { a with loop := true, breaks := true }) ∧ IsAr w' w'.heap.size { a with loop := true, breaks := true } z' ∧ Below w.heap.size w w' := by
  obtain ⟨i5, hi5, hz5, hs5, hb5⟩ := info_parts infoAr
  obtain ⟨xka, xkc, xla, xlc, rfl, -, -, -, -⟩ := hx.open
  have HL : Hid (∀ w', Calls Try.prog 74 #[X.v ⟨v.k, v.nm, v.n, v.s, xka, v.ks.length, xkc, xla, v.l.length, xlc⟩] w' (AnsB w' true)) := fun w' => by
    have := rLoop_x ⟨v.k, v.nm, v.n, v.s, xka, v.ks.length, xkc, xla, v.l.length, xlc⟩ w'
    rwa [show kLp (X.k ⟨v.k, v.nm, v.n, v.s, xka, v.ks.length, xkc, xla, v.l.length, xlc⟩) = true by show kLp v.k = true; rw [hk]; rfl] at this
  have HWI := Lib.hid fun n W => wit_new w n a z W
  have HAR := Lib.hid ha
  simp only [X.v, ArX.v, ArX.cells] at HL HWI ⊢
  rw [hk] at HL ⊢
  clear hx ha hk
  go_enter Try.func55, Try.ntmps55
  go_wp2_with fail
  refine (HL.out _).mono ?_
  rintro e w1 ⟨rfl, hb1⟩
  have HW := Lib.hid (HWI.out _ _ hb1)
  have h1 := HW.out.r
  have h2 := HW.out.q
  have h0 := HW.out.n'
  have c0 : w1.cell? ⟨w.heap.size, 0, none⟩ = some (.int .i64 30) := (cell_of_row w1 _ 0 _ _ _ h0).trans rfl
  have r0 : w1.cell? ⟨w.heap.size + 1, 0, none⟩ = some (.slice z.la a.labels.length z.lc) := (cell_of_row w1 _ 0 _ _ _ h1).trans rfl
  have r1 : w1.cell? ⟨w.heap.size + 1, 1, none⟩ = some (.slice z.pa a.loops.length z.pc) := (cell_of_row w1 _ 1 _ _ _ h1).trans rfl
  have r2 : w1.cell? ⟨w.heap.size + 1, 2, none⟩ = some (.bool a.loop) := (cell_of_row w1 _ 2 _ _ _ h1).trans rfl
  have r3 : w1.cell? ⟨w.heap.size + 1, 3, none⟩ = some (.bool a.breaks) := (cell_of_row w1 _ 3 _ _ _ h1).trans rfl
  have r4 : w1.cell? ⟨w.heap.size + 1, 4, none⟩ = some (.bool a.inside) := (cell_of_row w1 _ 4 _ _ _ h1).trans rfl
  have q0 : w1.cell? ⟨w.heap.size + 1 + 1, 0, none⟩ = some (.slice none 0 0) := (cell_of_row w1 _ 0 _ _ _ h2).trans rfl
  have q1 : w1.cell? ⟨w.heap.size + 1 + 1, 1, none⟩ = some (.slice none 0 0) := (cell_of_row w1 _ 1 _ _ _ h2).trans rfl
  have q2 : w1.cell? ⟨w.heap.size + 1 + 1, 2, none⟩ = some (.bool false) := (cell_of_row w1 _ 2 _ _ _ h2).trans rfl
  have q3 : w1.cell? ⟨w.heap.size + 1 + 1, 3, none⟩ = some (.bool false) := (cell_of_row w1 _ 3 _ _ _ h2).trans rfl
  have q4 : w1.cell? ⟨w.heap.size + 1 + 1, 4, none⟩ = some (.bool false) := (cell_of_row w1 _ 4 _ _ _ h2).trans rfl
  have rf : ∀ j, w1.frozen? ⟨w.heap.size + 1, j, none⟩ = false := fun j => by simp [World.frozen?, h1]
  have qf : ∀ j, w1.frozen? ⟨w.heap.size + 1 + 1, j, none⟩ = false := fun j => by simp [World.frozen?, h2]
  clear hb1 h0 h1 h2
  go_wp2_with fail
  have HBF := (((((((HW.out.bl).setCell (p := ⟨w.heap.size + 1, 2, none⟩) (by show w.heap.size ≤ w.heap.size + 1; omega) (.bool true)).setCell (p := ⟨w.heap.size + 1, 3, none⟩) (by show w.heap.size ≤ w.heap.size + 1; omega) (.bool true)).setCell (p := ⟨w.heap.size + 1 + 1, 0, none⟩) (by show w.heap.size ≤ w.heap.size + 1 + 1; omega) (.slice z.la a.labels.length z.lc)).setCell (p := ⟨w.heap.size + 1 + 1, 1, none⟩) (by show w.heap.size ≤ w.heap.size + 1 + 1; omega) (.slice z.pa a.loops.length z.pc)).setCell (p := ⟨w.heap.size + 1 + 1, 2, none⟩) (by show w.heap.size ≤ w.heap.size + 1 + 1; omega) (.bool true)).setCell (p := ⟨w.heap.size + 1 + 1, 3, none⟩) (by show w.heap.size ≤ w.heap.size + 1 + 1; omega) (.bool true)).setCell (p := ⟨w.heap.size + 1 + 1, 4, none⟩) (by show w.heap.size ≤ w.heap.size + 1 + 1; omega) (.bool a.inside)
  refine bodyPost_ret (results_cell_row rfl _ _ (w.heap.size + 1 + 1) 46 _ (0, 0) _ rfl (set5_row ((Below.heap_setCell _ ⟨w.heap.size + 1, 3, none⟩ _ (w.heap.size + 1 + 1) (by show w.heap.size + 1 + 1 ≠ w.heap.size + 1; omega)).trans (((Below.heap_setCell _ ⟨w.heap.size + 1, 2, none⟩ _ (w.heap.size + 1 + 1) (by show w.heap.size + 1 + 1 ≠ w.heap.size + 1; omega)).trans (HW.out.q)))) (.slice z.la a.labels.length z.lc) (.slice z.pa a.loops.length z.pc) (.bool true) (.bool true) (.bool a.inside)) Try.underlying46 rfl (by rw [hi5]; simp [hs5])) rfl ⟨⟨z.la, z.lc, z.pa, z.pc⟩, rfl, ?_, HBF⟩
  have h := HAR.out.to HBF HBF.size
  exact ⟨h.ls, h.lc, h.ps, h.pc, h.ll, h.pl⟩

set_option maxRecDepth 8000 in
set_option maxHeartbeats 1000000 in
theorem rwithin_no (v : V) (x : X) (a : Ar) (z : ArX) (w : World) (hx : Is w v x) (ha : IsAr w w.heap.size a z) (h39 : ¬ v.k = 39) (h10 : ¬ v.k = 10) (h27 : ¬ v.k = 27) (h28 : ¬ v.k = 28) (h29 : ¬ v.k = 29) (h30 : ¬ v.k = 30) (h36 : ¬ v.k = 36) (h38 : ¬ v.k = 38) : Calls Try.prog 55 #[x.v, z.v a] w fun e w' => ∃ z' : ArX, e = .returned (z'.v a) ∧ IsAr w' w'.heap.size a z' ∧ Below w.heap.size w w' := by
  obtain ⟨i5, hi5, hz5, hs5, hb5⟩ := info_parts infoAr
  obtain ⟨xka, xkc, xla, xlc, rfl, -, -, -, -⟩ := hx.open
  have HL : Hid (∀ w', Calls Try.prog 74 #[X.v ⟨v.k, v.nm, v.n, v.s, xka, v.ks.length, xkc, xla, v.l.length, xlc⟩] w' (AnsB w' false)) := fun w' => by
    have := rLoop_x ⟨v.k, v.nm, v.n, v.s, xka, v.ks.length, xkc, xla, v.l.length, xlc⟩ w'
    rwa [show kLp (X.k ⟨v.k, v.nm, v.n, v.s, xka, v.ks.length, xkc, xla, v.l.length, xlc⟩) = false by show kLp v.k = false; unfold kLp; exact decide_eq_false (by omega)] at this
  have HWI := Lib.hid fun n W => wit_new w n a z W
  have HAR := Lib.hid ha
  simp only [X.v, ArX.v, ArX.cells] at HL HWI ⊢
  have e39 := beqF h39
  have e10 := beqF h10
  have e36 := beqF h36
  have e38 := beqF h38
  clear hx ha h39 h10 h27 h28 h29 h30 h36 h38
  go_enter Try.func55, Try.ntmps55
  go_wp2_with fail
  refine (HL.out _).mono ?_
  rintro e w1 ⟨rfl, hb1⟩
  have HW := Lib.hid (HWI.out _ _ hb1)
  have h1 := HW.out.r
  have h2 := HW.out.q
  have h0 := HW.out.n'
  have c0 : w1.cell? ⟨w.heap.size, 0, none⟩ = some (.int .i64 v.k) := (cell_of_row w1 _ 0 _ _ _ h0).trans rfl
  have r0 : w1.cell? ⟨w.heap.size + 1, 0, none⟩ = some (.slice z.la a.labels.length z.lc) := (cell_of_row w1 _ 0 _ _ _ h1).trans rfl
  have r1 : w1.cell? ⟨w.heap.size + 1, 1, none⟩ = some (.slice z.pa a.loops.length z.pc) := (cell_of_row w1 _ 1 _ _ _ h1).trans rfl
  have r2 : w1.cell? ⟨w.heap.size + 1, 2, none⟩ = some (.bool a.loop) := (cell_of_row w1 _ 2 _ _ _ h1).trans rfl
  have r3 : w1.cell? ⟨w.heap.size + 1, 3, none⟩ = some (.bool a.breaks) := (cell_of_row w1 _ 3 _ _ _ h1).trans rfl
  have r4 : w1.cell? ⟨w.heap.size + 1, 4, none⟩ = some (.bool a.inside) := (cell_of_row w1 _ 4 _ _ _ h1).trans rfl
  have q0 : w1.cell? ⟨w.heap.size + 1 + 1, 0, none⟩ = some (.slice none 0 0) := (cell_of_row w1 _ 0 _ _ _ h2).trans rfl
  have q1 : w1.cell? ⟨w.heap.size + 1 + 1, 1, none⟩ = some (.slice none 0 0) := (cell_of_row w1 _ 1 _ _ _ h2).trans rfl
  have q2 : w1.cell? ⟨w.heap.size + 1 + 1, 2, none⟩ = some (.bool false) := (cell_of_row w1 _ 2 _ _ _ h2).trans rfl
  have q3 : w1.cell? ⟨w.heap.size + 1 + 1, 3, none⟩ = some (.bool false) := (cell_of_row w1 _ 3 _ _ _ h2).trans rfl
  have q4 : w1.cell? ⟨w.heap.size + 1 + 1, 4, none⟩ = some (.bool false) := (cell_of_row w1 _ 4 _ _ _ h2).trans rfl
  have rf : ∀ j, w1.frozen? ⟨w.heap.size + 1, j, none⟩ = false := fun j => by simp [World.frozen?, h1]
  have qf : ∀ j, w1.frozen? ⟨w.heap.size + 1 + 1, j, none⟩ = false := fun j => by simp [World.frozen?, h2]
  clear hb1 h0 h1 h2
  go_wp2_with fail
  have HBF := (((((HW.out.bl).setCell (p := ⟨w.heap.size + 1 + 1, 0, none⟩) (by show w.heap.size ≤ w.heap.size + 1 + 1; omega) (.slice z.la a.labels.length z.lc)).setCell (p := ⟨w.heap.size + 1 + 1, 1, none⟩) (by show w.heap.size ≤ w.heap.size + 1 + 1; omega) (.slice z.pa a.loops.length z.pc)).setCell (p := ⟨w.heap.size + 1 + 1, 2, none⟩) (by show w.heap.size ≤ w.heap.size + 1 + 1; omega) (.bool a.loop)).setCell (p := ⟨w.heap.size + 1 + 1, 3, none⟩) (by show w.heap.size ≤ w.heap.size + 1 + 1; omega) (.bool a.breaks)).setCell (p := ⟨w.heap.size + 1 + 1, 4, none⟩) (by show w.heap.size ≤ w.heap.size + 1 + 1; omega) (.bool a.inside)
  refine bodyPost_ret (results_cell_row rfl _ _ (w.heap.size + 1 + 1) 46 _ (0, 0) _ rfl (set5_row HW.out.q (.slice z.la a.labels.length z.lc) (.slice z.pa a.loops.length z.pc) (.bool a.loop) (.bool a.breaks) (.bool a.inside)) Try.underlying46 rfl (by rw [hi5]; simp [hs5])) rfl ⟨⟨z.la, z.lc, z.pa, z.pc⟩, rfl, ?_, HBF⟩
  have h := HAR.out.to HBF HBF.size
  exact ⟨h.ls, h.lc, h.ps, h.pc, h.ll, h.pl⟩
end Go.Proofs.Ytgehgccgologpaa.Z
