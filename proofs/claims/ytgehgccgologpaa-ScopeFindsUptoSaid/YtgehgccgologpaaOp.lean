/-
  AN ARGUMENT OPENED: what a value of type Node reads as.
-/
import Derived.Test.YtgehgccgologpaaRows
import Derived.Test.YtgehgccgologpaaWn
import Derived.Test.YtgehgccgologpaaQ0
import Derived.OpenShut
import Derived.ChangeSlices
import Derived.SliceStrings
namespace Go.Proofs.Ytgehgccgologpaa.R
open Go.Proofs.Ytgehgccgologpaa Go.Proofs.Ytgehgccgologpaa.T Go.ChangeShapes Go.WideShapes Go.ChangeAt Go.RowKit

theorem cInt : Try.prog.cellsOf 3 = 1 := by kernel_rfl
theorem cInt64 : Try.prog.cellsOf 2 = 1 := by kernel_rfl
theorem cStr : Try.prog.cellsOf 9 = 1 := by kernel_rfl
theorem cStrs : Try.prog.cellsOf 22 = 1 := by kernel_rfl
theorem cList : Try.prog.cellsOf 23 = 1 := by kernel_rfl
theorem cData : Try.prog.cellsOf 25 = 6 := by kernel_rfl
section
variable {H : Type} {enc : TypeId × Value → H}
theorem bulk_strs : ∀ ss : List ByteArray, keysBulk ss ≤ Rows.uptoBulkAll (strs (H := H) ss)
  | [] => Nat.zero_le _
  | s :: r => by
    have := bulk_strs r
    have h := (Lib.size_eq s)
    simp only [strs, List.map_cons, Rows.uptoBulkAll, Rows.uptoBulk, keysBulk] at *
    omega
theorem keysBulk_take_le (ss : List ByteArray) (n : Nat) : keysBulk (ss.take n) ≤ keysBulk ss := by
  induction ss generalizing n with
  | nil => simp
  | cons s r ih =>
    cases n with
    | zero => simp [keysBulk]
    | succ n =>
      have := ih n
      simp only [List.take_succ_cons, keysBulk]
      omega
theorem addr_none {w : World} {a : Addr} {v : Value} (h : w.cell? (a.add 0) = some v) : a.spot = none := by
  obtain ⟨ab, ao, spot⟩ := a
  simpa [Addr.add] using World.cell?_spot h
/-- keys -/
theorem open_keys {w : World} {base fuel : Nat} {held : Bool} {c : Value} {x : DataW H × List MemPlace} (h : DataW.trod enc Try.prog w base (fun _ => true) held fuel 22 [c] = some x) :
    ∃ (A : Option Addr) (ks : List ByteArray) (cap : Nat), c = .slice A ks.length cap ∧ ks.length ≤ cap ∧ Strs w A ks ∧ keysBulk ks ≤ Rows.uptoBulk x.1 := by
  rcases open_strings Try.underlying22 Try.underlying9 cStr h with ⟨hc, rfl⟩ | ⟨a, len, cap, ss, hc, _, hl, _, hss, rfl, hcell, _⟩
  · simp at hc
    subst hc
    exact ⟨none, [], 0, rfl, Nat.le_refl _, .inl rfl, Nat.zero_le _⟩
  · simp only [if_true] at hss
    simp at hc
    subst hc
    have hlen : (ss.take len).length = len := by simp; omega
    refine ⟨some a, ss.take len, cap, by rw [hlen], by omega, ?_, ?_⟩
    · by_cases h0 : len = 0
      · exact .inl (by subst h0; simp)
      · have hsp := addr_none (hcell 0 (by omega))
        obtain ⟨ab, ao, spot⟩ := a
        simp only at hsp
        subst hsp
        have h0' := hcell 0 (by omega)
        rw [add_lit] at h0'
        refine .inr ⟨ab, ao, rfl, World.block_lt_of_cell? w _ h0', fun j hj => ?_⟩
        have hj' := hcell j (by omega)
        rw [add_lit] at hj'
        rw [hj', List.getD_eq_getElem?_getD, List.getElem?_eq_getElem (by omega), List.getElem_take]
        rfl
    · have h1 := bulk_strs (H := H) (ss.take len)
      simp only [Rows.uptoBulk]
      omega
theorem bulk_elems : ∀ (xs : List (DataW H)) (l : List V), xs.length = l.length → (∀ i (h1 : i < xs.length) (h2 : i < l.length), l[i].bulk ≤ Rows.uptoBulk xs[i]) → V.bulks l ≤ Rows.uptoBulkAll xs
  | [], [], _, _ => Nat.le_refl _
  | x :: r, v :: t, hl, h => by
    have h0 := h 0 (by simp) (by simp)
    have := bulk_elems r t (by simpa using hl) fun i h1 h2 => h (i + 1) (by simpa using h1) (by simpa using h2)
    simp only [V.bulks, Rows.uptoBulkAll]
    simp at h0
    omega
  | [], _ :: _, hl, _ => by simp at hl
  | _ :: _, [], hl, _ => by simp at hl
theorem choose_v {n : Nat} {P : Nat → V → Prop} (h : ∀ i, i < n → ∃ v, P i v) : ∃ l : List V, l.length = n ∧ ∀ i (h : i < l.length), P i l[i] := by
  refine ⟨List.ofFn fun i : _root_.Fin n => Classical.choose (h i.1 i.2), by simp, fun i hi => ?_⟩
  rw [List.getElem_ofFn]
  exact Classical.choose_spec (h i (by simpa using hi))
theorem six {cs : List Value} (h : cs.length = 6) : ∃ a b c d e f, cs = [a, b, c, d, e, f] := by
  match cs, h with
  | [a, b, c, d, e, f], _ => exact ⟨a, b, c, d, e, f, rfl⟩
theorem six' {cs : List (DataW H × List MemPlace)} (h : cs.length = 6) : ∃ a b c d e f, cs = [a, b, c, d, e, f] := by
  match cs, h with
  | [a, b, c, d, e, f], _ => exact ⟨a, b, c, d, e, f, rfl⟩
theorem at_cells {w : World} {g o : Nat} {y : X} (h : ∀ (r : Nat) u, y.cells.toList[r]? = some u → w.cell? ⟨g, o + r, none⟩ = some u) : At w g o y :=
  ⟨h 0 _ rfl, h 1 _ rfl, h 2 _ rfl, h 3 _ rfl, h 4 _ rfl, h 5 _ rfl⟩
/-- a struct -/
theorem open_v {w : World} {base : Nat} {held : Bool} : ∀ (N fuel : Nat) (cs : List Value) (x : DataW H × List MemPlace), fuel ≤ N → DataW.trod enc Try.prog w base (fun _ => true) held fuel 25 cs = some x →
    ∃ (v : V) (y : X), cs = y.cells.toList ∧ Is w v y ∧ v.bulk ≤ Rows.uptoBulk x.1 := by
  intro N
  induction N with
  | zero =>
    intro fuel cs x hN h
    obtain ⟨_, n, rfl, _⟩ := DataW.trod_struct Try.underlying25 h
    omega
  | succ N ih =>
    intro fuel cs x hN h
    obtain ⟨xs, n, rfl, rfl, hl, hlen, hf⟩ := DataW.trod_struct Try.underlying25 h
    rw [cData] at hl
    obtain ⟨a0, a1, a2, a3, a4, a5, rfl⟩ := six hl
    obtain ⟨x0, x1, x2, x3, x4, x5, rfl⟩ := six' hlen
    have f0 : DataW.trod enc Try.prog w base (fun _ => true) held n 3 (([a0, a1, a2, a3, a4, a5].drop 0).take (Try.prog.cellsOf 3)) = some x0 := hf 0 _ rfl
    have f1 : DataW.trod enc Try.prog w base (fun _ => true) held n 9 (([a0, a1, a2, a3, a4, a5].drop 1).take (Try.prog.cellsOf 9)) = some x1 := hf 1 _ rfl
    have f2 : DataW.trod enc Try.prog w base (fun _ => true) held n 2 (([a0, a1, a2, a3, a4, a5].drop 2).take (Try.prog.cellsOf 2)) = some x2 := hf 2 _ rfl
    have f3 : DataW.trod enc Try.prog w base (fun _ => true) held n 9 (([a0, a1, a2, a3, a4, a5].drop 3).take (Try.prog.cellsOf 9)) = some x3 := hf 3 _ rfl
    have f4 : DataW.trod enc Try.prog w base (fun _ => true) held n 22 (([a0, a1, a2, a3, a4, a5].drop 4).take (Try.prog.cellsOf 22)) = some x4 := hf 4 _ rfl
    have f5 : DataW.trod enc Try.prog w base (fun _ => true) held n 23 (([a0, a1, a2, a3, a4, a5].drop 5).take (Try.prog.cellsOf 23)) = some x5 := hf 5 _ rfl
    rw [cInt] at f0
    rw [cStr] at f1
    rw [cInt64] at f2
    rw [cStr] at f3
    rw [cStrs] at f4
    rw [cList] at f5
    obtain ⟨k, e0, rfl, w0⟩ := DataW.trod_int Try.underlying3 f0
    obtain ⟨nm, e1, rfl, w1⟩ := DataW.trod_string Try.underlying9 f1
    obtain ⟨m, e2, rfl, w2⟩ := DataW.trod_int Try.underlying2 f2
    obtain ⟨s, e3, rfl, w3⟩ := DataW.trod_string Try.underlying9 f3
    obtain ⟨ka, ks, kc, e4, k1, k2, k3⟩ := open_keys f4
    obtain rfl : a0 = .int .i64 k := by simpa using e0
    obtain rfl : a1 = .string nm := by simpa using e1
    obtain rfl : a2 = .int .i64 m := by simpa using e2
    obtain rfl : a3 = .string s := by simpa using e3
    subst e4
    clear e0 e1 e2 e3
    have hnm := Lib.size_eq nm
    have hs := Lib.size_eq s
    rcases DataW.trod_slice Try.underlying23 f5 with ⟨e5, rfl⟩ | ⟨a, len, cap, elems, rest, n', rfl, e5, rfl, _, hl1, _, hlen2, hel, _, _⟩
    · obtain rfl : a5 = .slice none 0 0 := by simpa using e5
      refine ⟨.mk k nm m s ks [], ⟨k, nm, m, s, ka, ks.length, kc, none, 0, 0⟩, rfl, Is.mk (v := .mk k nm m s ks []) k1 (Nat.le_refl _) k2 (.inl rfl), ?_⟩
      simp only [V.bulk, V.bulks, Rows.uptoBulk, Rows.uptoBulkAll, List.map_cons, List.map_nil]
      omega
    · obtain rfl : a5 = .slice (some a) len cap := by simpa using e5
      have hch : ∀ i, i < len → ∃ v : V, ∃ (y : X) (xe : DataW H × List MemPlace), w.cells? base (a.add (i * 6)) 6 = some y.cells.toList ∧ Is w v y ∧ elems[i]? = some xe ∧ v.bulk ≤ Rows.uptoBulk xe.1 := fun i hi => by
        have h1 := hel i hi
        rw [cData] at h1
        have he : elems[i]? = some elems[i] := List.getElem?_eq_getElem (by omega)
        rw [he] at h1
        obtain ⟨cs', g1, g2⟩ := Option.bind_eq_some_iff.1 h1
        obtain ⟨v, y, rfl, g3, g4⟩ := ih n' cs' _ (by omega) g2
        exact ⟨v, y, _, g1, g3, he, g4⟩
      obtain ⟨l, hll, hl2⟩ := choose_v hch
      have hrow : Row w (some a) l := by
        by_cases h0 : len = 0
        · exact .inl (List.eq_nil_of_length_eq_zero (by omega))
        · obtain ⟨y0, _, g0, _⟩ := hl2 0 (by omega)
          have hc0 := (World.cells?_some g0).2.2 0 (by omega)
          rw [show (0 : Nat) * 6 = 0 from rfl] at hc0
          have hsp : a.spot = none := by
            obtain ⟨ab, ao, spot⟩ := a
            simpa [Addr.add] using World.cell?_spot hc0
          obtain ⟨ab, ao, spot⟩ := a
          simp only at hsp
          subst hsp
          rw [add_lit, add_lit] at hc0
          refine .inr ⟨ab, ao, rfl, World.block_lt_of_cell? w _ hc0, (isAll_iff _ _ _ _ _).2 fun i hi => ?_⟩
          obtain ⟨y, _, g1, g2, _⟩ := hl2 i hi
          refine ⟨y, at_cells fun r u hu => ?_, g2⟩
          have hr : r < 6 := by
            have := (List.getElem?_eq_some_iff.1 hu).1
            simpa [X.cells] using this
          have := (World.cells?_some g1).2.2 r hr
          rw [add_lit, add_lit] at this
          rw [this, hu]
      refine ⟨.mk k nm m s ks l, ⟨k, nm, m, s, ka, ks.length, kc, some a, l.length, cap⟩, by rw [hll]; rfl, Is.mk (v := .mk k nm m s ks l) k1 (by show l.length ≤ cap; omega) k2 hrow, ?_⟩
      have hbl : V.bulks l ≤ Rows.uptoBulkAll (elems.map (·.1)) := bulk_elems _ _ (by simp; omega) fun i h1 h2 => by
        obtain ⟨_, xe, _, _, g1, g2⟩ := hl2 i h2
        have : elems[i]? = some elems[i] := List.getElem?_eq_getElem (by omega)
        rw [this] at g1
        injection g1 with g1
        rw [List.getElem_map, g1]
        exact g2
      simp only [V.bulk, Rows.uptoBulk, Rows.uptoBulkAll, List.map_cons, List.map_nil]
      omega
/-- a slice of nodes -/
theorem open_list {w : World} {base : Nat} {held : Bool} {fuel : Nat} {c : Value} {x : DataW H × List MemPlace} (h : DataW.trod enc Try.prog w base (fun _ => true) held fuel 23 [c] = some x) :
    ∃ (A : Option Addr) (l : List V) (cap : Nat), c = .slice A l.length cap ∧ l.length ≤ cap ∧ Row w A l ∧ V.bulks l ≤ Rows.uptoBulk x.1 := by
  rcases DataW.trod_slice Try.underlying23 h with ⟨e5, rfl⟩ | ⟨a, len, cap, elems, rest, n', rfl, e5, rfl, _, hl1, _, hlen2, hel, _, _⟩
  · obtain rfl : c = .slice none 0 0 := by simpa using e5
    exact ⟨none, [], 0, rfl, Nat.le_refl _, .inl rfl, Nat.zero_le _⟩
  · obtain rfl : c = .slice (some a) len cap := by simpa using e5
    have hch : ∀ i, i < len → ∃ v : V, ∃ (y : X) (xe : DataW H × List MemPlace), w.cells? base (a.add (i * 6)) 6 = some y.cells.toList ∧ Is w v y ∧ elems[i]? = some xe ∧ v.bulk ≤ Rows.uptoBulk xe.1 := fun i hi => by
      have h1 := hel i hi
      rw [cData] at h1
      have he : elems[i]? = some elems[i] := List.getElem?_eq_getElem (by omega)
      rw [he] at h1
      obtain ⟨cs', g1, g2⟩ := Option.bind_eq_some_iff.1 h1
      obtain ⟨v, y, rfl, g3, g4⟩ := open_v n' n' cs' _ (Nat.le_refl _) g2
      exact ⟨v, y, _, g1, g3, he, g4⟩
    obtain ⟨l, hll, hl2⟩ := choose_v hch
    have hrow : Row w (some a) l := by
      by_cases h0 : len = 0
      · exact .inl (List.eq_nil_of_length_eq_zero (by omega))
      · obtain ⟨y0, _, g0, _⟩ := hl2 0 (by omega)
        have hc0 := (World.cells?_some g0).2.2 0 (by omega)
        rw [show (0 : Nat) * 6 = 0 from rfl] at hc0
        have hsp : a.spot = none := by
          obtain ⟨ab, ao, spot⟩ := a
          simpa [Addr.add] using World.cell?_spot hc0
        obtain ⟨ab, ao, spot⟩ := a
        simp only at hsp
        subst hsp
        rw [add_lit, add_lit] at hc0
        refine .inr ⟨ab, ao, rfl, World.block_lt_of_cell? w _ hc0, (isAll_iff _ _ _ _ _).2 fun i hi => ?_⟩
        obtain ⟨y, _, g1, g2, _⟩ := hl2 i hi
        refine ⟨y, at_cells fun r u hu => ?_, g2⟩
        have hr : r < 6 := by
          have := (List.getElem?_eq_some_iff.1 hu).1
          simpa [X.cells] using this
        have := (World.cells?_some g1).2.2 r hr
        rw [add_lit, add_lit] at this
        rw [this, hu]
    refine ⟨some a, l, cap, by rw [hll], by show l.length ≤ cap; omega, hrow, ?_⟩
    have hbl : V.bulks l ≤ Rows.uptoBulkAll (elems.map (·.1)) := bulk_elems _ _ (by simp; omega) fun i h1 h2 => by
      obtain ⟨_, xe, _, _, g1, g2⟩ := hl2 i h2
      have : elems[i]? = some elems[i] := List.getElem?_eq_getElem (by omega)
      rw [this] at g1
      injection g1 with g1
      rw [List.getElem_map, g1]
      exact g2
    simp only [Rows.uptoBulk]
    omega
end
end Go.Proofs.Ytgehgccgologpaa.R
