/-
  TOKENS THAT COME IN, with what TokenBack asks of them.
-/
import Derived.Test.YtkaamaopjcaalaaDoorCard0
import Derived.Test.YtkaamaopjcaalaaDoorZB
namespace Go.Proofs.YtkaamaopjcaalaaDoor.T
open Go.ChangeShapes Go.WideShapes Go.ChangeAt Go.RowKit Go.Proofs.YtkaamaopjcaalaaDoor

theorem int_bounds {i : Int} (h : (Lit.int .i64 i).wf = true) : -9223372036854775808 ≤ i ∧ i ≤ 9223372036854775807 := by
  simp only [Lit.wf, IntKind.min, IntKind.max, IntKind.signed, IntKind.bits, Bool.and_eq_true, decide_eq_true_eq] at h
  obtain ⟨h1, h2⟩ := h
  simp at h1 h2
  omega
theorem length_le_bulk (k : List Tk) : k.length ≤ bulk k := by
  induction k with
  | nil => simp
  | cons p r ih => simp only [List.length_cons, bulk]; omega
theorem mem_bulk {p : Tk} {k : List Tk} (h : p ∈ k) : p.t.length + 1 ≤ bulk k := by
  induction k with
  | nil => cases h
  | cons q r ih =>
    simp only [bulk]
    cases h with
    | head => omega
    | tail _ h => have := ih h; omega
section
variable {H : Type} {enc : TypeId × Value → H}
set_option maxRecDepth 8000 in
/-- a token -/
theorem open_tok2 {w : World} {base fuel : Nat} {held : Bool} {cs : List Value} {x : DataW H × List MemPlace} (h : DataW.trod enc Tryd.prog w base (fun _ => true) held fuel 30 cs = some x) :
    ∃ p : Tk, cs = [.int .i64 p.k, .string ⟨p.t.toArray⟩, .int .i64 p.n, .int .i64 p.a, .bool p.f] ∧ p.t.length + 1 ≤ Rows.uptoBulk x.1 ∧ p.n ≤ 9223372036854775807 := by
  obtain ⟨xs, n, rfl, rfl, hl, hlen, hf⟩ := DataW.trod_struct Tryd.underlying30 h
  rw [cTok] at hl
  obtain ⟨a0, a1, a2, a3, a4, rfl⟩ := five hl
  obtain ⟨x0, x1, x2, x3, x4, rfl⟩ := five hlen
  have f0 : DataW.trod enc Tryd.prog w base (fun _ => true) held n 3 (([a0, a1, a2, a3, a4].drop 0).take (Tryd.prog.cellsOf 3)) = some x0 := hf 0 _ rfl
  have f1 : DataW.trod enc Tryd.prog w base (fun _ => true) held n 9 (([a0, a1, a2, a3, a4].drop 1).take (Tryd.prog.cellsOf 9)) = some x1 := hf 1 _ rfl
  have f2 : DataW.trod enc Tryd.prog w base (fun _ => true) held n 2 (([a0, a1, a2, a3, a4].drop 2).take (Tryd.prog.cellsOf 2)) = some x2 := hf 2 _ rfl
  have f3 : DataW.trod enc Tryd.prog w base (fun _ => true) held n 3 (([a0, a1, a2, a3, a4].drop 3).take (Tryd.prog.cellsOf 3)) = some x3 := hf 3 _ rfl
  have f4 : DataW.trod enc Tryd.prog w base (fun _ => true) held n 4 (([a0, a1, a2, a3, a4].drop 4).take (Tryd.prog.cellsOf 4)) = some x4 := hf 4 _ rfl
  rw [cInt] at f0 f3
  rw [cStr] at f1
  rw [cInt64] at f2
  rw [cBool] at f4
  obtain ⟨k, e0, rfl, w0⟩ := DataW.trod_int Tryd.underlying3 f0
  obtain ⟨s, e1, rfl, w1⟩ := DataW.trod_string Tryd.underlying9 f1
  obtain ⟨m, e2, rfl, w2⟩ := DataW.trod_int Tryd.underlying2 f2
  obtain ⟨a, e3, rfl, w3⟩ := DataW.trod_int Tryd.underlying3 f3
  obtain ⟨b, e4, rfl⟩ := DataW.trod_bool Tryd.underlying4 f4
  obtain rfl : a0 = .int .i64 k := by simpa using e0
  obtain rfl : a1 = .string s := by simpa using e1
  obtain rfl : a2 = .int .i64 m := by simpa using e2
  obtain rfl : a3 = .int .i64 a := by simpa using e3
  obtain rfl : a4 = .bool b := by simpa using e4
  refine ⟨⟨k, s.data.toList, m, a, b⟩, by simp only [mk_list], ?_, (int_bounds w2).2⟩
  have hs := Lib.size_eq s
  simp only [Rows.uptoBulk, Rows.uptoBulkAll, List.map_cons, List.map_nil]
  omega
set_option maxRecDepth 8000 in
/-- tokens -/
theorem open_toks2 {W : World} {base : Nat} {v : Value} {d : DataW H} {p : List MemPlace} (hval : Value.okWide Tryd.prog W .any base 24 v) (h : DataW.Trod enc Tryd.prog W 0 (fun _ => true) true 24 v d p) :
    ∃ (A : Option Addr) (k : List Tk) (c : Nat), v = .slice A k.length c ∧ Row W A k ∧ k.length ≤ c ∧ c ≤ maxLen ∧ bulk k + 1 ≤ Rows.uptoBulk d ∧ ∀ p ∈ k, p.n ≤ 9223372036854775807 := by
  obtain ⟨a1, len1, cap1, rfl⟩ := okWide_slice Tryd.underlying24 hval
  obtain ⟨fuel, hf⟩ := h
  rcases DataW.trod_slice Tryd.underlying24 hf with ⟨hc, hx⟩ | ⟨a, len, cap, elems, rest, n', rfl, hc, hx, _, hl1, hl2, hlen2, hel, _, _⟩
  · simp [Value.cells] at hc
    obtain ⟨rfl, rfl, rfl⟩ := hc
    simp only [Prod.mk.injEq] at hx
    obtain ⟨rfl, rfl⟩ := hx
    exact ⟨Option.none, [], 0, rfl, .inl rfl, Nat.le_refl _, Nat.zero_le _, Nat.le_refl _, fun p hp => by cases hp⟩
  · simp [Value.cells] at hc
    obtain ⟨rfl, rfl, rfl⟩ := hc
    simp only [Prod.mk.injEq] at hx
    obtain ⟨rfl, rfl⟩ := hx
    have hch : ∀ i, i < len1 → ∃ q : Tk, ∃ xe : DataW H × List MemPlace, W.cells? 0 (a.add (i * 5)) 5 = some [.int .i64 q.k, .string ⟨q.t.toArray⟩, .int .i64 q.n, .int .i64 q.a, .bool q.f] ∧ elems[i]? = some xe ∧ q.t.length + 1 ≤ Rows.uptoBulk xe.1 ∧ q.n ≤ 9223372036854775807 := fun i hi => by
      have h1 := hel i hi
      rw [cTok] at h1
      have he : elems[i]? = some elems[i] := List.getElem?_eq_getElem (by omega)
      rw [he] at h1
      obtain ⟨cs', g1, g2⟩ := Option.bind_eq_some_iff.1 h1
      obtain ⟨q, rfl, g3, g4⟩ := open_tok2 g2
      exact ⟨q, _, g1, he, g3, g4⟩
    obtain ⟨l, hll, hl3⟩ := choose_p hch
    refine ⟨some a, l, cap1, by rw [hll], ?_, by omega, hl2, ?_, ?_⟩
    · by_cases h0 : len1 = 0
      · exact .inl (List.eq_nil_of_length_eq_zero (by omega))
      · obtain ⟨_, g0, _⟩ := hl3 0 (by omega)
        have hc0 := (World.cells?_some g0).2.2 0 (by omega)
        rw [show (0 : Nat) * 5 = 0 from rfl] at hc0
        have hsp : a.spot = none := by
          obtain ⟨ab, ao, spot⟩ := a
          simpa [Addr.add] using World.cell?_spot hc0
        obtain ⟨ab, ao, spot⟩ := a
        simp only at hsp
        subst hsp
        rw [add_lit, add_lit] at hc0
        refine .inr ⟨ab, ao, rfl, World.block_lt_of_cell? W _ hc0, fun i hi => ?_⟩
        obtain ⟨_, g1, _⟩ := hl3 i hi
        have e := fun r hr => (World.cells?_some g1).2.2 r hr
        have e0 := e 0 (by omega)
        have e1 := e 1 (by omega)
        have e2 := e 2 (by omega)
        have e3 := e 3 (by omega)
        have e4 := e 4 (by omega)
        rw [add_lit, add_lit] at e0 e1 e2 e3 e4
        exact ⟨e0, e1, e2, e3, e4⟩
    · have hbl : bulk l ≤ Rows.uptoBulkAll (elems.map (·.1)) := bulk_elems _ _ (by simp; omega) fun i h1 h2 => by
        obtain ⟨xe, _, g1, g2, _⟩ := hl3 i h2
        have : elems[i]? = some elems[i] := List.getElem?_eq_getElem (by omega)
        rw [this] at g1
        injection g1 with g1
        rw [List.getElem_map, g1]
        exact g2
      simp only [Rows.uptoBulk]
      omega
    · intro p hp
      obtain ⟨i, hi, rfl⟩ := List.getElem_of_mem hp
      obtain ⟨_, _, _, _, g4⟩ := hl3 i hi
      exact g4
end
end Go.Proofs.YtkaamaopjcaalaaDoor.T
