/-
 ARGUMENTS OPENED: what a value of a script, and a row of ops, read as.
 WHAT ALL THE CARDS OF THE HEAP LAWS LEAN ON: the table among the listed variables, the start of the witness, the row's last step.
-/
import Derived.Test.YtcahijpbkjplmaaGreatDoorRows
import Derived.Test.YtcahijpbkjplmaaGreatDoorMGh
import Derived.Test.YtcahijpbkjplmaaGreatDoorCards
import Derived.Test.YtcahijpbkjplmaaGreatDoorTie
import Derived.OpenShut
import Derived.ChangeSlices
import Derived.SliceStrings
import Derived.LaidMore
import Derived.Stop.LaidErr
import Derived.Carry
import Derived.SevenTiedAt
import Derived.SizedLaws
import Derived.JoinedCond
import Derived.Deep.DeepHandedRow
import Derived.Deep.DeepWitnessRowRef
set_option linter.unusedSimpArgs false
namespace Go.Proofs.YtcahijpbkjplmaaGreatDoor.G
open Go.Proofs.YtcahijpbkjplmaaGreatDoor Go.ChangeShapes Go.WideShapes Go.ChangeAt Go.RowKit
theorem cInt : Tryz.prog.cellsOf 3 = 1 := by kernel_rfl
theorem cInt64 : Tryz.prog.cellsOf 2 = 1 := by kernel_rfl
theorem cStr : Tryz.prog.cellsOf 9 = 1 := by kernel_rfl
theorem cBool : Tryz.prog.cellsOf 4 = 1 := by kernel_rfl
theorem cVal : Tryz.prog.cellsOf 29 = 3 := by kernel_rfl
theorem cProp : Tryz.prog.cellsOf 31 = 7 := by kernel_rfl
theorem cVals : Tryz.prog.cellsOf 32 = 1 := by kernel_rfl
theorem cOp : Tryz.prog.cellsOf 34 = 16 := by kernel_rfl
section
variable {H : Type} {enc : TypeId × Value → H}
theorem three {α : Type} {cs : List α} (h : cs.length = 3) : ∃ a b c, cs = [a, b, c] := by
 match cs, h with
 | [a, b, c], _ => exact ⟨a, b, c, rfl⟩
theorem five {α : Type} {cs : List α} (h : cs.length = 5) : ∃ a b c d e, cs = [a, b, c, d, e] := by
 match cs, h with
 | [a, b, c, d, e], _ => exact ⟨a, b, c, d, e, rfl⟩
theorem six {α : Type} {cs : List α} (h : cs.length = 6) : ∃ a b c d e f, cs = [a, b, c, d, e, f] := by
 match cs, h with
 | [a, b, c, d, e, f], _ => exact ⟨a, b, c, d, e, f, rfl⟩
theorem seven {α : Type} {cs : List α} (h : cs.length = 7) : ∃ a b c d e f g, cs = [a, b, c, d, e, f, g] := by
 match cs, h with
 | [a, b, c, d, e, f, g], _ => exact ⟨a, b, c, d, e, f, g, rfl⟩
theorem sixteen {α : Type} {cs : List α} (h : cs.length = 16) : ∃ a b c d e f g i j k l m n o p q, cs = [a, b, c, d, e, f, g, i, j, k, l, m, n, o, p, q] := by
 match cs, h with
 | [a, b, c, d, e, f, g, i, j, k, l, m, n, o, p, q], _ => exact ⟨a, b, c, d, e, f, g, i, j, k, l, m, n, o, p, q, rfl⟩
theorem open_val {w : World} {base fuel : Nat} {held : Bool} {cs : List Value} {x : DataW H × List MemPlace} (h : DataW.trod enc Tryz.prog w base (fun _ => true) held fuel 29 cs = some x) :
  ∃ v : Vl, cs = v.cs ∧ v.s.size + 1 ≤ Rows.uptoBulk x.1 := by
 obtain ⟨xs, n, rfl, rfl, hl, hlen, hf⟩ := DataW.trod_struct Tryz.underlying29 h
 rw [cVal] at hl
 obtain ⟨a0, a1, a2, rfl⟩ := three hl
 obtain ⟨x0, x1, x2, rfl⟩ := three hlen
 have f0 : DataW.trod enc Tryz.prog w base (fun _ => true) held n 3 (([a0, a1, a2].drop 0).take (Tryz.prog.cellsOf 3)) = some x0 := hf 0 _ rfl
 have f1 : DataW.trod enc Tryz.prog w base (fun _ => true) held n 2 (([a0, a1, a2].drop 1).take (Tryz.prog.cellsOf 2)) = some x1 := hf 1 _ rfl
 have f2 : DataW.trod enc Tryz.prog w base (fun _ => true) held n 9 (([a0, a1, a2].drop 2).take (Tryz.prog.cellsOf 9)) = some x2 := hf 2 _ rfl
 rw [cInt] at f0
 rw [cInt64] at f1
 rw [cStr] at f2
 obtain ⟨k, e0, rfl, w0⟩ := DataW.trod_int Tryz.underlying3 f0
 obtain ⟨m, e1, rfl, w1⟩ := DataW.trod_int Tryz.underlying2 f1
 obtain ⟨s, e2, rfl, w2⟩ := DataW.trod_string Tryz.underlying9 f2
 obtain rfl : a0 = .int .i64 k := by simpa using e0
 obtain rfl : a1 = .int .i64 m := by simpa using e1
 obtain rfl : a2 = .string s := by simpa using e2
 refine ⟨⟨k, m, s⟩, rfl, ?_⟩
 have hs := Lib.size_eq s
 simp only [Rows.uptoBulk, Rows.uptoBulkAll, List.map_cons, List.map_nil]
 omega
theorem open_prop {w : World} {base fuel : Nat} {held : Bool} {cs : List Value} {x : DataW H × List MemPlace} (h : DataW.trod enc Tryz.prog w base (fun _ => true) held fuel 31 cs = some x) :
  ∃ p : Pr, cs = p.cs ∧ p.key.size + p.v.s.size + 1 ≤ Rows.uptoBulk x.1 := by
 obtain ⟨xs, n, rfl, rfl, hl, hlen, hf⟩ := DataW.trod_struct Tryz.underlying31 h
 rw [cProp] at hl
 obtain ⟨a0, a1, a2, a3, a4, a5, a6, rfl⟩ := seven hl
 obtain ⟨x0, x1, x2, x3, x4, rfl⟩ := five hlen
 have f0 : DataW.trod enc Tryz.prog w base (fun _ => true) held n 9 (([a0, a1, a2, a3, a4, a5, a6].drop 0).take (Tryz.prog.cellsOf 9)) = some x0 := hf 0 _ rfl
 have f1 : DataW.trod enc Tryz.prog w base (fun _ => true) held n 29 (([a0, a1, a2, a3, a4, a5, a6].drop 1).take (Tryz.prog.cellsOf 29)) = some x1 := hf 1 _ rfl
 have f2 : DataW.trod enc Tryz.prog w base (fun _ => true) held n 4 (([a0, a1, a2, a3, a4, a5, a6].drop 4).take (Tryz.prog.cellsOf 4)) = some x2 := hf 2 _ rfl
 have f3 : DataW.trod enc Tryz.prog w base (fun _ => true) held n 4 (([a0, a1, a2, a3, a4, a5, a6].drop 5).take (Tryz.prog.cellsOf 4)) = some x3 := hf 3 _ rfl
 have f4 : DataW.trod enc Tryz.prog w base (fun _ => true) held n 4 (([a0, a1, a2, a3, a4, a5, a6].drop 6).take (Tryz.prog.cellsOf 4)) = some x4 := hf 4 _ rfl
 rw [cStr] at f0
 rw [cVal] at f1
 rw [cBool] at f2 f3 f4
 obtain ⟨s, e0, rfl, w0⟩ := DataW.trod_string Tryz.underlying9 f0
 obtain ⟨v, e1, b1⟩ := open_val f1
 obtain ⟨t2, e2, rfl⟩ := DataW.trod_bool Tryz.underlying4 f2
 obtain ⟨t3, e3, rfl⟩ := DataW.trod_bool Tryz.underlying4 f3
 obtain ⟨t4, e4, rfl⟩ := DataW.trod_bool Tryz.underlying4 f4
 obtain rfl : a0 = .string s := by simpa using e0
 obtain rfl : a4 = .bool t2 := by simpa using e2
 obtain rfl : a5 = .bool t3 := by simpa using e3
 obtain rfl : a6 = .bool t4 := by simpa using e4
 have e1 : [a1, a2, a3] = v.cs := e1
 unfold Vl.cs at e1
 simp only [List.cons.injEq, and_true] at e1
 obtain ⟨rfl, rfl, rfl⟩ := e1
 refine ⟨⟨s, v, t2, t3, t4⟩, rfl, ?_⟩
 have hs := Lib.size_eq s
 simp only [Rows.uptoBulk, Rows.uptoBulkAll, List.map_cons, List.map_nil]
 show s.size + v.s.size + 1 ≤ _
 omega
theorem choose_v {α : Type} {n : Nat} {P : Nat → α → Prop} (h : ∀ i, i < n → ∃ v, P i v) : ∃ l : List α, l.length = n ∧ ∀ i (h : i < l.length), P i l[i] := by
 refine ⟨List.ofFn fun i : _root_.Fin n => Classical.choose (h i.1 i.2), by simp, fun i hi => ?_⟩
 rw [List.getElem_ofFn]
 exact Classical.choose_spec (h i (by simpa using hi))
theorem bulk_mem : ∀ (xs : List (DataW H)) (i : Nat) (x : DataW H), xs[i]? = some x → Rows.uptoBulk x ≤ Rows.uptoBulkAll xs
 | [], i, x, h => by simp at h
 | y :: r, 0, x, h => by
  simp only [List.getElem?_cons_zero, Option.some.injEq] at h
  subst h
  simp only [Rows.uptoBulkAll]
  omega
 | y :: r, i + 1, x, h => by
  have := bulk_mem r i x (by simpa using h)
  simp only [Rows.uptoBulkAll]
  omega
theorem bulk_len : ∀ (xs : List (DataW H)), (∀ (i : Nat) (x : DataW H), xs[i]? = some x → 1 ≤ Rows.uptoBulk x) → xs.length ≤ Rows.uptoBulkAll xs
 | [], _ => Nat.zero_le _
 | y :: r, h => by
  have h0 := h 0 y rfl
  have := bulk_len r fun i x hx => h (i + 1) x (by simpa using hx)
  simp only [Rows.uptoBulkAll, List.length_cons]
  omega
theorem open_vals {W : World} (hpos : 0 < W.heap.size) {fuel : Nat} {held : Bool} {c : Value} {x : DataW H × List MemPlace} (h : DataW.trod enc Tryz.prog W 0 (fun _ => true) held fuel 32 [c] = some x) :
  ∃ (l : List Vl) (bk : Nat), bk < W.heap.size ∧ Vls W c l bk ∧ l.length ≤ Rows.uptoBulk x.1 ∧ ∀ v ∈ l, v.s.size ≤ Rows.uptoBulk x.1 := by
 rcases DataW.trod_slice Tryz.underlying32 h with ⟨hc, rfl⟩ | ⟨a, len, cap, elems, rest, n', rfl, hc, rfl, _, hl1, hl2, hlen2, hel, _, _⟩
 ·obtain rfl : c = .slice none 0 0 := by simpa using hc
  exact ⟨[], 0, hpos, ⟨none, 0, rfl, fun j v hj => by simp at hj⟩, Nat.zero_le _, fun v hv => by cases hv⟩
 ·obtain rfl : c = .slice (some a) len cap := by simpa using hc
  have hch : ∀ i, i < len → ∃ q : Vl, ∃ xe : DataW H × List MemPlace, W.cells? 0 (a.add (i * 3)) 3 = some q.cs ∧ elems[i]? = some xe ∧ q.s.size + 1 ≤ Rows.uptoBulk xe.1 := fun i hi => by
   have h1 := hel i hi
   rw [cVal] at h1
   have he : elems[i]? = some elems[i] := List.getElem?_eq_getElem (by omega)
   rw [he] at h1
   obtain ⟨cs', g1, g2⟩ := Option.bind_eq_some_iff.1 h1
   obtain ⟨q, rfl, g3⟩ := open_val g2
   exact ⟨q, _, g1, he, g3⟩
  obtain ⟨l, hll, hl3⟩ := choose_v hch
  have hb : ∀ (i : Nat) (y : DataW H), (elems.map (·.1))[i]? = some y → 1 ≤ Rows.uptoBulk y := fun i y hy => by
   rw [List.getElem?_map] at hy
   obtain ⟨xe, h1, rfl⟩ := Option.map_eq_some_iff.1 hy
   have hi := (List.getElem?_eq_some_iff.1 h1).1
   obtain ⟨xe', _, g1, g2⟩ := hl3 i (by omega)
   rw [h1] at g1
   injection g1 with g1
   subst g1
   omega
  have hlen := bulk_len _ hb
  rw [List.length_map] at hlen
  have hsz : ∀ v ∈ l, v.s.size ≤ Rows.uptoBulkAll (elems.map (·.1)) := fun v hv => by
   obtain ⟨i, hi, rfl⟩ := List.getElem_of_mem hv
   obtain ⟨xe, _, g1, g2⟩ := hl3 i hi
   have := bulk_mem (elems.map (·.1)) i xe.1 (by rw [List.getElem?_map, g1]; rfl)
   omega
  have hrow : ∃ bk, bk < W.heap.size ∧ Vls W (.slice (some a) len cap) l bk := by
   by_cases h0 : len = 0
   ·refine ⟨0, hpos, some a, cap, by rw [hll], fun j v hj => ?_⟩
    have := (List.getElem?_eq_some_iff.1 hj).1
    omega
   ·obtain ⟨_, g0, _⟩ := hl3 0 (by omega)
    have hc0 := (World.cells?_some g0).2.2 0 (by omega)
    rw [show (0 : Nat) * 3 = 0 from rfl] at hc0
    have hsp : a.spot = none := by
     obtain ⟨ab, ao, spot⟩ := a
     simpa [Addr.add] using World.cell?_spot hc0
    obtain ⟨ab, ao, spot⟩ := a
    simp only at hsp
    subst hsp
    rw [add_lit, add_lit] at hc0
    refine ⟨ab, World.block_lt_of_cell? W _ hc0, some ⟨ab, ao, none⟩, cap, by rw [hll], fun j v hj => ⟨ao, rfl, ?_⟩⟩
    obtain ⟨hj1, hj2⟩ := List.getElem?_eq_some_iff.1 hj
    obtain ⟨_, g1, _⟩ := hl3 j hj1
    rw [hj2] at g1
    have e := fun r hr => (World.cells?_some g1).2.2 r hr
    have e0 := e 0 (by omega)
    have e1 := e 1 (by omega)
    have e2 := e 2 (by omega)
    rw [add_lit, add_lit] at e0 e1 e2
    exact ⟨e0, e1, e2⟩
  obtain ⟨bk, h1, h2⟩ := hrow
  refine ⟨l, bk, h1, h2, ?_, fun v hv => ?_⟩
  ·simp only [Rows.uptoBulk]
   omega
  ·have := hsz v hv
   simp only [Rows.uptoBulk]
   omega
set_option maxRecDepth 8000 in
theorem open_op {W : World} (hpos : 0 < W.heap.size) {fuel : Nat} {held : Bool} {cs : List Value} {x : DataW H × List MemPlace} (h : DataW.trod enc Tryz.prog W 0 (fun _ => true) held fuel 34 cs = some x) :
  ∃ (o : Op) (sl : Value) (bk : Nat), cs = opC o sl ∧ bk < W.heap.size ∧ Vls W sl o.l bk ∧ (Rows.uptoBulk x.1 ≤ 1048576 → Sm o) := by
 obtain ⟨xs, n, rfl, rfl, hl, hlen, hf⟩ := DataW.trod_struct Tryz.underlying34 h
 rw [cOp] at hl
 obtain ⟨a0, a1, a2, a3, a4, a5, a6, a7, a8, a9, a10, a11, a12, a13, a14, a15, rfl⟩ := sixteen hl
 obtain ⟨x0, x1, x2, x3, x4, x5, rfl⟩ := six hlen
 have f0 : DataW.trod enc Tryz.prog W 0 (fun _ => true) held n 3 (([a0, a1, a2, a3, a4, a5, a6, a7, a8, a9, a10, a11, a12, a13, a14, a15].drop 0).take (Tryz.prog.cellsOf 3)) = some x0 := hf 0 _ rfl
 have f1 : DataW.trod enc Tryz.prog W 0 (fun _ => true) held n 29 (([a0, a1, a2, a3, a4, a5, a6, a7, a8, a9, a10, a11, a12, a13, a14, a15].drop 1).take (Tryz.prog.cellsOf 29)) = some x1 := hf 1 _ rfl
 have f2 : DataW.trod enc Tryz.prog W 0 (fun _ => true) held n 29 (([a0, a1, a2, a3, a4, a5, a6, a7, a8, a9, a10, a11, a12, a13, a14, a15].drop 4).take (Tryz.prog.cellsOf 29)) = some x2 := hf 2 _ rfl
 have f3 : DataW.trod enc Tryz.prog W 0 (fun _ => true) held n 9 (([a0, a1, a2, a3, a4, a5, a6, a7, a8, a9, a10, a11, a12, a13, a14, a15].drop 7).take (Tryz.prog.cellsOf 9)) = some x3 := hf 3 _ rfl
 have f4 : DataW.trod enc Tryz.prog W 0 (fun _ => true) held n 31 (([a0, a1, a2, a3, a4, a5, a6, a7, a8, a9, a10, a11, a12, a13, a14, a15].drop 8).take (Tryz.prog.cellsOf 31)) = some x4 := hf 4 _ rfl
 have f5 : DataW.trod enc Tryz.prog W 0 (fun _ => true) held n 32 (([a0, a1, a2, a3, a4, a5, a6, a7, a8, a9, a10, a11, a12, a13, a14, a15].drop 15).take (Tryz.prog.cellsOf 32)) = some x5 := hf 5 _ rfl
 rw [cInt] at f0
 rw [cVal] at f1 f2
 rw [cStr] at f3
 rw [cProp] at f4
 rw [cVals] at f5
 obtain ⟨d, e0, rfl, w0⟩ := DataW.trod_int Tryz.underlying3 f0
 obtain ⟨v, e1, b1⟩ := open_val f1
 obtain ⟨vx, e2, b2⟩ := open_val f2
 obtain ⟨key, e3, rfl, w3⟩ := DataW.trod_string Tryz.underlying9 f3
 obtain ⟨p, e4, b4⟩ := open_prop f4
 obtain ⟨l, bk, h5, h6, h7, h8⟩ := open_vals hpos f5
 obtain rfl : a0 = .int .i64 d := by simpa using e0
 obtain rfl : a7 = .string key := by simpa using e3
 have e1 : [a1, a2, a3] = v.cs := e1
 have e2 : [a4, a5, a6] = vx.cs := e2
 have e4 : [a8, a9, a10, a11, a12, a13, a14] = p.cs := e4
 unfold Vl.cs at e1 e2
 unfold Pr.cs at e4
 simp only [List.cons.injEq, and_true] at e1 e2 e4
 obtain ⟨rfl, rfl, rfl⟩ := e1
 obtain ⟨rfl, rfl, rfl⟩ := e2
 obtain ⟨rfl, rfl, rfl, rfl, rfl, rfl, rfl⟩ := e4
 refine ⟨⟨d, v, vx, key, p, l⟩, a15, bk, rfl, h5, h6, fun hb => ?_⟩
 have hs := Lib.size_eq key
 simp only [Rows.uptoBulk, Rows.uptoBulkAll, List.map_cons, List.map_nil] at hb
 refine ⟨⟨?_, ?_, ⟨?_, ?_⟩, fun u hu => ?_⟩, ?_⟩
 ·show key.size ≤ 16777216
  omega
 ·show vx.s.size ≤ 16777216
  omega
 ·show p.key.size ≤ 16777216
  omega
 ·show p.v.s.size ≤ 16777216
  omega
 ·have := h8 u hu
  show u.s.size ≤ 16777216
  omega
 ·show l.length ≤ 4194304
  omega
set_option maxRecDepth 8000 in
theorem open_ops {W : World} (hpos : 0 < W.heap.size) {base : Nat} {v : Value} {d : DataW H} {p : List MemPlace} (hval : Value.okWide Tryz.prog W .any base 22 v) (h : DataW.Trod enc Tryz.prog W 0 (fun _ => true) true 22 v d p) :
  ∃ l : List Op, OpsB W W.heap.size v l ∧ (Rows.uptoBulk d ≤ 1048576 → ∀ o ∈ l, Sm o) := by
 obtain ⟨a1, len1, cap1, rfl⟩ := okWide_slice Tryz.underlying22 hval
 obtain ⟨fuel, hf⟩ := h
 rcases DataW.trod_slice Tryz.underlying22 hf with ⟨hc, hx⟩ | ⟨a, len, cap, elems, rest, n', rfl, hc, hx, _, hl1, hl2, hlen2, hel, _, _⟩
 ·simp [Value.cells] at hc
  obtain ⟨rfl, rfl, rfl⟩ := hc
  exact ⟨[], ⟨none, 0, 0, rfl, hpos, fun j o hj => by simp at hj⟩, fun _ o ho => by cases ho⟩
 ·simp [Value.cells] at hc
  obtain ⟨rfl, rfl, rfl⟩ := hc
  obtain ⟨rfl, rfl⟩ := Prod.mk.inj hx
  have hch : ∀ i, i < len1 → ∃ o : Op, ∃ (sl : Value) (bk : Nat) (xe : DataW H × List MemPlace), W.cells? 0 (a.add (i * 16)) 16 = some (opC o sl) ∧ elems[i]? = some xe ∧ bk < W.heap.size ∧ Vls W sl o.l bk ∧ (Rows.uptoBulk xe.1 ≤ 1048576 → Sm o) := fun i hi => by
   have h1 := hel i hi
   rw [cOp] at h1
   have he : elems[i]? = some elems[i] := List.getElem?_eq_getElem (by omega)
   rw [he] at h1
   obtain ⟨cs', g1, g2⟩ := Option.bind_eq_some_iff.1 h1
   obtain ⟨o, sl, bk, rfl, g3, g4, g5⟩ := open_op hpos g2
   exact ⟨o, sl, bk, _, g1, he, g3, g4, g5⟩
  obtain ⟨l, hll, hl3⟩ := choose_v hch
  refine ⟨l, ?_, fun hb o ho => ?_⟩
  ·by_cases h0 : len1 = 0
   ·refine ⟨some a, cap1, 0, by rw [hll], hpos, fun j o hj => ?_⟩
    have := (List.getElem?_eq_some_iff.1 hj).1
    omega
   ·obtain ⟨_, _, _, g0, _⟩ := hl3 0 (by omega)
    have hc0 := (World.cells?_some g0).2.2 0 (by omega)
    rw [show (0 : Nat) * 16 = 0 from rfl] at hc0
    have hsp : a.spot = none := by
     obtain ⟨ab, ao, spot⟩ := a
     simpa [Addr.add] using World.cell?_spot hc0
    obtain ⟨ab, ao, spot⟩ := a
    simp only at hsp
    subst hsp
    rw [add_lit, add_lit] at hc0
    refine ⟨some ⟨ab, ao, none⟩, cap1, ab, by rw [hll], World.block_lt_of_cell? W _ hc0, fun j o hj => ?_⟩
    obtain ⟨hj1, hj2⟩ := List.getElem?_eq_some_iff.1 hj
    obtain ⟨sl, bk, xe, g1, g2, g3, g4, g5⟩ := hl3 j hj1
    rw [hj2] at g1 g4
    refine ⟨ao, sl, bk, rfl, g3, g4, fun i v hi => ?_⟩
    have hi16 : i < 16 := (List.getElem?_eq_some_iff.1 hi).1
    have e := (World.cells?_some g1).2.2 i hi16
    rw [add_lit, add_lit] at e
    rw [e]
    exact hi
  ·obtain ⟨i, hi, rfl⟩ := List.getElem_of_mem ho
   obtain ⟨sl, bk, xe, g1, g2, g3, g4, g5⟩ := hl3 i hi
   refine g5 ?_
   have := bulk_mem (elems.map (·.1)) i xe.1 (by rw [List.getElem?_map, g2]; rfl)
   simp only [Rows.uptoBulk] at hb
   omega
end
end Go.Proofs.YtcahijpbkjplmaaGreatDoor.G
namespace Go.Proofs.YtcahijpbkjplmaaGreatDoor
open Go.Proofs.YtcahijpbkjplmaaGreatDoor.G Go.ChangeShapes Go.WideShapes Go.ChangeAt Go.RowKit
theorem own : ownKnob Tryz.prog.godebug = none := by kernel_rfl
theorem laidOut : laidOutB Tryz.prog = true := by kernel_rfl
theorem tabAt {W : World} (h : laidMetH Tryz.prog Rows.heapCellsRow.laid W) : Tab W := by
 rw [MakeChecks.laidMetH_plain _ _ _ (by kernel_rfl)] at h
 exact Lib.tabIs_of_head (g := 0) (t := 142) (e := 135) (n := 20) (rest := []) (by kernel_rfl) (by kernel_rfl) Tryz.underlying142 Tryz.underlying135 (by kernel_rfl) (by kernel_rfl) h.tail.tail
theorem laid_met (os : Os) (args : Array Value) : laidMet Tryz.prog Rows.heapCellsRow.laid ((World.doorLaid Tryz.prog 4000 os).forCall (fun _ _ => 0) ⟨#[], args, []⟩).memory :=
 laidMet_of_run' 10 (by kernel_rfl) (by kernel_rfl)
section
variable {H : Type} {enc : TypeId × Value → H}
theorem trodAll_keep {P : Program} (hl : laidOutB P = true) {W W' : World} (hb : Below W.heap.size W W') : ∀ (ts : List TypeId) (vs : List Value) (ds : List (DataW H)) (ps : List MemPlace), (∀ t ∈ ts, P.readableRec t = true ∧ t < P.types.size) →
  DataW.TrodAll enc P W 0 (fun _ => true) true ts vs ds ps → (∀ x ∈ ps, x.block < W.heap.size) → DataW.TrodAll enc P W' 0 (fun b => decide (b < W.heap.size)) true ts vs ds ps
 | [], vs, ds, ps, _, h, _ => by
  obtain ⟨rfl, rfl, rfl⟩ := trodAll_nil h
  exact trodAll_mk0
 | t :: ts, vs, ds, ps, hr, h, hlt => by
  obtain ⟨v, vs', d, ds', p, q, rfl, rfl, rfl, h0, h1⟩ := trodAll_cons h
  have ht := hr t (by simp)
  exact trodAll_cons_mk (Below.trod hl ht.1 ht.2 h0 hb fun x hx => hlt x (by simp [hx])) (trodAll_keep hl hb ts vs' ds' q (fun t' h' => hr t' (by simp [h'])) h1 fun x hx => hlt x (by simp [hx]))
theorem post_keep {P : Program} {f : Func} {s : ChangeSpec} {W W' : World} {args : Array Value} {v : Value} {ds : List (DataW H)} {p : List MemPlace} (hl : laidOutB P = true) (hr : ∀ t ∈ f.params.toList, P.readableRec t = true ∧ t < P.types.size) (hv : s.vars = [])
  (hW : DataW.Whole enc P f.params.toList s.vars false W args.toList ds [] p) (hA : DataW.TrodAll enc P W 0 (fun _ => true) true f.params.toList args.toList ds p)
  (hres : ∀ (b : Nat) (sp : Nat → Bool) (hd : Bool), DataW.TrodAll enc P W' b sp hd f.resultTypes.toList (v.resultList f.resultTypes.size) (s.fn H (ds ++ [])).results [])
  (hargs : (s.fn H (ds ++ [])).args = ds) (hvars : (s.fn H (ds ++ [])).vars = [])
  (hb : Below W.heap.size W W') : s.post enc P f false true false false W args v W' := by
 refine ⟨ds, [], p, [], p, [], hW, hres _ _ _, ?_, ?_, hb.frame _, fun h => by cases h⟩
 ·rw [hargs]
  exact trodAll_keep hl hb _ _ _ _ hr hA hW.lt
 ·rw [hvars, hv]
  rfl
end
end Go.Proofs.YtcahijpbkjplmaaGreatDoor
