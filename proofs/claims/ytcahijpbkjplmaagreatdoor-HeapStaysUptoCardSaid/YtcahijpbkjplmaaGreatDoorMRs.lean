/-
  A set of texts in memory; what is enumerated, told round by round.
-/
import Derived.Test.YtcahijpbkjplmaaGreatDoorMRr
import Derived.Maps.OwnSet
namespace Go.Proofs.YtcahijpbkjplmaaGreatDoor.G
open Go.RowKit Go.Shelf Go.Maps Go.Lib Go.Proofs.YtcahijpbkjplmaaGreatDoor

theorem beq_bytes (a b : ByteArray) : (a == b) = decide (a = b) := by
  rw [beq_toListBytes]
  by_cases h : a = b
  · subst h
    rw [decide_eq_true rfl]
    exact beq_self_eq_true _
  · rw [decide_eq_false h, beq_eq_false_iff_ne]
    exact fun e => h (toList_inj e)
/-- a set of texts: map[string]struct{} -/
def MapU (w : World) (b n : Nat) (met : List ByteArray) : Prop := ∃ D : DataW Value, w.ownsMap Tryz.prog 9 unitElem b n D ∧ ∀ s, Go.Maps.has D (keyL s) = met.contains s
theorem MapU.fr {w w' : World} {b n : Nat} {met : List ByteArray} (h : MapU w b n met) (he : w'.heap[b]? = w.heap[b]?) : MapU w' b n met := by
  obtain ⟨D, ⟨es, c, hb, r⟩, h2⟩ := h
  exact ⟨D, ⟨es, c, he.trans hb, r⟩, h2⟩
theorem MapU.isMap {w : World} {b n : Nat} {met : List ByteArray} (h : MapU w b n met) : ∃ es c, w.heap[b]? = some (.map es c) := by
  obtain ⟨D, ⟨es, c, hb, r⟩, h2⟩ := h
  exact ⟨es, c, hb⟩
theorem MapU.lt {w : World} {b n : Nat} {met : List ByteArray} (h : MapU w b n met) : b < w.heap.size := by
  obtain ⟨es, c, hb⟩ := h.isMap
  exact (Array.getElem?_eq_some_iff.1 hb).1
theorem MapU.new (w : World) : MapU (w.alloc (.map #[] 0)) w.heap.size 0 [] := ⟨.map [], World.ownsMap_made w _ _ _, fun _ => rfl⟩
theorem MapU.mono {w : World} {b n m : Nat} {met : List ByteArray} (h : MapU w b n met) (hm : n ≤ m) : MapU w b m met := by
  obtain ⟨D, h1, h2⟩ := h
  exact ⟨D, h1.mono hm, h2⟩
/-- _, ok := m[k] -/
theorem MapU.look {w : World} {b n : Nat} {met : List ByteArray} (h : MapU w b n met) {t e : TypeId} (ht : Tryz.prog.underlying t = some (.map 9 e)) (hz : (zeroValue e).run Tryz.prog w = .ok (.agg #[]) w) {s : ByteArray} (hs : s.size ≤ maxLen) :
    (Instr.lookup t (.map (some b)) (.string s) true).run Tryz.prog w = .ok (.tuple #[.agg #[], .bool (met.contains s)]) w := by
  obtain ⟨D, h1, h2⟩ := h
  obtain ⟨v, ps, h3, h4⟩ := h1.look_ok kStr ht hz (zd := .agg []) unitElem_mk (keyS hs)
  rw [h2 s] at h3
  obtain ⟨rfl, -⟩ := unitElem_inv h4
  exact h3
/-- m[k] = struct{}{} -/
theorem MapU.store {w : World} {b n : Nat} {met : List ByteArray} (h : MapU w b n met) {t e : TypeId} (ht : Tryz.prog.underlying t = some (.map 9 e)) (hn : n < maxLen) {s : ByteArray} (hs : s.size ≤ maxLen) :
    ∃ w', (Instr.mapUpdate t (.map (some b)) (.string s) (.agg #[])).run Tryz.prog w = .ok () w' ∧ MapU w' b (n + 1) (met ++ [s]) ∧ w.mapTurned w' b := by
  obtain ⟨D, h1, h2⟩ := h
  obtain ⟨w', h3, h4, h5⟩ := h1.store kStr ht hn (keyS hs) (val := .agg #[]) (d := .agg []) (ps := []) unitElem_mk
  refine ⟨w', h3, ⟨_, h4, fun t => ?_⟩, h5⟩
  have hc : (met ++ [s]).contains t = (met.contains t || decide (t = s)) := by
    rw [List.contains_append, List.contains_cons, List.contains_nil, Bool.or_false, beq_bytes]
  rw [hc]
  by_cases e : t = s
  · subst e
    rw [has_put_same h1.isMap (keyL_lit t), decide_eq_true rfl, Bool.or_true]
  · rw [has_put_other (fun e' => e (keyL_inj e')), h2 t, decide_eq_false e, Bool.or_false]
/-- a property's round -/
def stp (st : List ByteArray × List ByteArray) (p : Pr) : List ByteArray × List ByteArray := (if p.e && !st.2.contains p.key then st.1 ++ [p.key] else st.1, st.2 ++ [p.key])
/-- an object's round -/
def sto (st : List ByteArray × List ByteArray) (o : Ob) : List ByteArray × List ByteArray := if o.cls = AR then ((o.ps.foldl stp st).1, (o.ps.foldl stp st).2 ++ [LK]) else o.ps.foldl stp st
theorem fold_enumP : ∀ (ps : List Pr) (st : List ByteArray × List ByteArray), ps.foldl stp st = (st.1 ++ (enumP ps st.2).1, (enumP ps st.2).2)
  | [], st => by
    show st = (st.1 ++ [], st.2)
    rw [List.append_nil]
  | p :: r, st => by
    rw [List.foldl_cons, fold_enumP r]
    unfold stp
    rw [enumP]
    dsimp only
    split
    · rw [List.append_assoc]
      rfl
    · rfl
theorem sto_is (st : List ByteArray × List ByteArray) (o : Ob) : sto st o = (st.1 ++ (enumO LK AR o st.2).1, (enumO LK AR o st.2).2) := by
  unfold sto enumO
  rw [fold_enumP]
  dsimp only
  split <;> rfl
/-- the chain's round -/
def stc (os : List Ob) (st : List ByteArray × List ByteArray) (i : Nat) : List ByteArray × List ByteArray := match os[i]? with
  | none => st
  | some o => sto st o
theorem fold_enumC (os : List Ob) : ∀ (l : List Nat) (st : List ByteArray × List ByteArray), (∀ i ∈ l, i < os.length) → (l.foldl (stc os) st).1 = st.1 ++ enumC LK AR os l st.2
  | [], st, _ => by
    rw [enumC, List.append_nil]
    rfl
  | i :: r, st, h => by
    have hi := h i (List.mem_cons_self ..)
    rw [List.foldl_cons, fold_enumC os r _ fun j hj => h j (List.mem_cons_of_mem _ hj), enumC]
    unfold stc
    rw [List.getElem?_eq_getElem hi]
    dsimp only
    rw [sto_is]
    dsimp only
    rw [List.append_assoc]
/-- how many there can be -/
theorem stp_len : ∀ (ps : List Pr) (st : List ByteArray × List ByteArray), (ps.foldl stp st).2.length = st.2.length + ps.length ∧ (ps.foldl stp st).1.length ≤ st.1.length + ps.length
  | [], st => ⟨rfl, Nat.le_refl _⟩
  | p :: r, st => by
    rw [List.foldl_cons]
    obtain ⟨h1, h2⟩ := stp_len r (stp st p)
    unfold stp at h1 h2
    dsimp only at h1 h2
    rw [List.length_append, List.length_singleton] at h1
    refine ⟨by rw [List.length_cons]; unfold stp; omega, ?_⟩
    rw [List.length_cons]
    unfold stp
    split at h2
    · rename_i hc
      rw [List.length_append, List.length_singleton] at h2
      rw [if_pos hc]
      omega
    · rename_i hc
      rw [if_neg hc]
      omega
end Go.Proofs.YtcahijpbkjplmaaGreatDoor.G
