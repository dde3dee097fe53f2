/-
  WHAT ALL THE CARDS OF THE TOKEN LAWS LEAN ON: how tokens read, the library's variables in memory, the row's last step.
-/
import Derived.Test.YtkaamaopjcaalaaDoorCards
import Derived.Test.YtkaamaopjcaalaaDoorTie
import Derived.Test.YtkaamaopjcaalaaDoorV
import Derived.OpenShut
import Derived.LaidMore
import Derived.Lay
import Derived.Stop.LaidErr
import Derived.Carry
import Derived.SevenTiedAt
import Derived.SizedLaws
import Derived.JoinedCond
import Derived.Deep.DeepHandedRow
import Derived.Deep.DeepWitnessRowRef
import Derived.Shelf.Vars
namespace Go.Proofs.YtkaamaopjcaalaaDoor.T
open Go.ChangeShapes Go.WideShapes Go.ChangeAt Go.RowKit Go.Proofs.YtkaamaopjcaalaaDoor

theorem own : ownKnob Tryd.prog.godebug = none := by kernel_rfl
theorem laidOut : laidOutB Tryd.prog = true := by kernel_rfl
theorem cBool : Tryd.prog.cellsOf 4 = 1 := by kernel_rfl
theorem cInt64 : Tryd.prog.cellsOf 2 = 1 := by kernel_rfl
theorem cInt : Tryd.prog.cellsOf 3 = 1 := by kernel_rfl
theorem cStr : Tryd.prog.cellsOf 9 = 1 := by kernel_rfl
theorem cTok : Tryd.prog.cellsOf 30 = 5 := by kernel_rfl
theorem mlAt {W : World} (h : W.ShapedOpen Tryd.prog) : Ml W :=
  cell_of_shapedOpen_int (zero := #[.int .i64 0]) (t := 3) h (of_decide_eq_true (by kernel_rfl)) (by kernel_rfl) rfl (by kernel_rfl) (by kernel_rfl) Tryd.underlying3
theorem gSyn : Tryd.prog.globalNamed "strconv.ErrSyntax" = some 1 := by kernel_rfl
theorem gSynType : (Tryd.prog.globals[1]?).map (·.type) = some 70 := by kernel_rfl
theorem gRng : Tryd.prog.globalNamed "strconv.ErrRange" = some 2 := by kernel_rfl
theorem gRngType : (Tryd.prog.globals[2]?).map (·.type) = some 70 := by kernel_rfl
theorem cellsErr : Tryd.prog.cellsOf 104 = 1 := by kernel_rfl
theorem starErr : "*" ++ "errors.errorString" = "*errors.errorString" := by decide
theorem rowErr (u : TypeId) (h : Tryd.prog.typeName? 3 u = some "*errors.errorString") : u = 102 :=
  typeName_ptr_named (nm := "errors.errorString") (by rw [starErr]; kernel_rfl) (by kernel_rfl) (by decide) u (by rw [starErr]; exact h)
theorem errAt {W : World} (h : laidMetH Tryd.prog Rows.tokenWordsRow.laid W) : ErrAt W := by
  rw [MakeChecks.laidMetH_plain _ _ _ (by kernel_rfl)] at h
  obtain ⟨a, s, hv, _⟩ := laid_sentinel h.tail.tail.tail.tail gSyn gSynType Tryd.underlying70 rowErr Tryd.underlying102 Tryd.underlying104 rfl rfl Tryd.underlying9 cellsErr cStr
  exact ⟨_, by simpa using World.var?_cell gSyn hv 0, .inr ⟨_, _, rfl⟩⟩
theorem rngAt {W : World} (h : laidMetH Tryd.prog Rows.tokenWordsRow.laid W) : RngAt W := by
  rw [MakeChecks.laidMetH_plain _ _ _ (by kernel_rfl)] at h
  obtain ⟨a, s, hv, _⟩ := laid_sentinel h.tail.tail.tail gRng gRngType Tryd.underlying70 rowErr Tryd.underlying102 Tryd.underlying104 rfl rfl Tryd.underlying9 cellsErr cStr
  exact ⟨_, by simpa using World.var?_cell gRng hv 0, .inr ⟨_, _, rfl⟩⟩
theorem varsAt {W : World} (h : W.ShapedOpen Tryd.prog) (hL : laidMetH Tryd.prog Rows.tokenWordsRow.laid W) : Vars W := ⟨mlAt h, errAt hL, rngAt hL⟩
/-- the door's own heap meets the list -/
theorem laid_met (os : Os) (args : Array Value) : laidMet Tryd.prog Rows.tokenWordsRow.laid ((World.doorLaid Tryd.prog 4000 os).forCall (fun _ _ => 0) ⟨#[], args, []⟩).memory :=
  laidMet_of_run' 10 (by kernel_rfl) (by kernel_rfl)
/-- how much tokens hold -/
def bulk : List Tk → Nat
  | [] => 0
  | p :: r => p.t.length + 1 + bulk r
section
variable {H : Type} {enc : TypeId × Value → H}
theorem five {α : Type} {cs : List α} (h : cs.length = 5) : ∃ a b c d e, cs = [a, b, c, d, e] := by
  match cs, h with
  | [a, b, c, d, e], _ => exact ⟨a, b, c, d, e, rfl⟩
set_option maxRecDepth 8000 in
/-- a token -/
theorem open_tok {w : World} {base fuel : Nat} {held : Bool} {cs : List Value} {x : DataW H × List MemPlace} (h : DataW.trod enc Tryd.prog w base (fun _ => true) held fuel 30 cs = some x) :
    ∃ p : Tk, cs = [.int .i64 p.k, .string ⟨p.t.toArray⟩, .int .i64 p.n, .int .i64 p.a, .bool p.f] ∧ p.t.length + 1 ≤ Rows.uptoBulk x.1 := by
  obtain ⟨xs, n, rfl, rfl, hl, hlen, hf⟩ := DataW.trod_struct Tryd.underlying30 h
  rw [cTok] at hl
  obtain ⟨a0, a1, a2, a3, a4, rfl⟩ := five hl
  obtain ⟨x0, x1, x2, x3, x4, rfl⟩ := five hlen
  have f0 : DataW.trod enc Tryd.prog w base (fun _ => true) held n 3 (([a0, a1, a2, a3, a4].drop 0).take (Tryd.prog.cellsOf 3)) = some x0 := hf 0 _ rfl
  have f1 : DataW.trod enc Tryd.prog w base (fun _ => true) held n 9 (([a0, a1, a2, a3, a4].drop 1).take (Tryd.prog.cellsOf 9)) = some x1 := hf 1 _ rfl
  have f2 : DataW.trod enc Tryd.prog w base (fun _ => true) held n 2 (([a0, a1, a2, a3, a4].drop 2).take (Tryd.prog.cellsOf 2)) = some x2 := hf 2 _ rfl
  have f3 : DataW.trod enc Tryd.prog w base (fun _ => true) held n 3 (([a0, a1, a2, a3, a4].drop 3).take (Tryd.prog.cellsOf 3)) = some x3 := hf 3 _ rfl
  have f4 : DataW.trod enc Tryd.prog w base (fun _ => true) held n 4 (([a0, a1, a2, a3, a4].drop 4).take (Tryd.prog.cellsOf 4)) = some x4 := hf 4 _ rfl
  rw [cInt] at f0 f3
  rw [cStr] at f1
  rw [cInt64] at f2
  rw [cBool] at f4
  obtain ⟨k, e0, rfl, w0⟩ := DataW.trod_int Tryd.underlying3 f0
  obtain ⟨s, e1, rfl, w1⟩ := DataW.trod_string Tryd.underlying9 f1
  obtain ⟨m, e2, rfl, w2⟩ := DataW.trod_int Tryd.underlying2 f2
  obtain ⟨a, e3, rfl, w3⟩ := DataW.trod_int Tryd.underlying3 f3
  obtain ⟨b, e4, rfl⟩ := DataW.trod_bool Tryd.underlying4 f4
  obtain rfl : a0 = .int .i64 k := by simpa using e0
  obtain rfl : a1 = .string s := by simpa using e1
  obtain rfl : a2 = .int .i64 m := by simpa using e2
  obtain rfl : a3 = .int .i64 a := by simpa using e3
  obtain rfl : a4 = .bool b := by simpa using e4
  refine ⟨⟨k, s.data.toList, m, a, b⟩, by simp only [mk_list], ?_⟩
  have hs := Lib.size_eq s
  simp only [Rows.uptoBulk, Rows.uptoBulkAll, List.map_cons, List.map_nil]
  omega
theorem bulk_elems : ∀ (xs : List (DataW H)) (l : List Tk), xs.length = l.length → (∀ i (h1 : i < xs.length) (h2 : i < l.length), l[i].t.length + 1 ≤ Rows.uptoBulk xs[i]) → bulk l ≤ Rows.uptoBulkAll xs
  | [], [], _, _ => Nat.le_refl _
  | x :: r, v :: t, hl, h => by
    have h0 := h 0 (by simp) (by simp)
    have := bulk_elems r t (by simpa using hl) fun i h1 h2 => h (i + 1) (by simpa using h1) (by simpa using h2)
    simp only [bulk, Rows.uptoBulkAll]
    simp at h0
    omega
  | [], _ :: _, hl, _ => by simp at hl
  | _ :: _, [], hl, _ => by simp at hl
theorem choose_p {n : Nat} {P : Nat → Tk → Prop} (h : ∀ i, i < n → ∃ v, P i v) : ∃ l : List Tk, l.length = n ∧ ∀ i (h : i < l.length), P i l[i] := by
  refine ⟨List.ofFn fun i : _root_.Fin n => Classical.choose (h i.1 i.2), by simp, fun i hi => ?_⟩
  rw [List.getElem_ofFn]
  exact Classical.choose_spec (h i (by simpa using hi))
set_option maxRecDepth 8000 in
/-- tokens -/
theorem open_toks {W : World} {base : Nat} {v : Value} {d : DataW H} {p : List MemPlace} (hval : Value.okWide Tryd.prog W .any base 24 v) (h : DataW.Trod enc Tryd.prog W 0 (fun _ => true) true 24 v d p) :
    ∃ (A : Option Addr) (k : List Tk) (c : Nat), v = .slice A k.length c ∧ Row W A k ∧ k.length ≤ c ∧ c ≤ maxLen ∧ bulk k ≤ Rows.uptoBulk d := by
  obtain ⟨a1, len1, cap1, rfl⟩ := okWide_slice Tryd.underlying24 hval
  obtain ⟨fuel, hf⟩ := h
  rcases DataW.trod_slice Tryd.underlying24 hf with ⟨hc, hx⟩ | ⟨a, len, cap, elems, rest, n', rfl, hc, hx, _, hl1, hl2, hlen2, hel, _, _⟩
  · simp [Value.cells] at hc
    obtain ⟨rfl, rfl, rfl⟩ := hc
    simp only [Prod.mk.injEq] at hx
    obtain ⟨rfl, rfl⟩ := hx
    exact ⟨none, [], 0, rfl, .inl rfl, Nat.le_refl _, Nat.zero_le _, Nat.zero_le _⟩
  · simp [Value.cells] at hc
    obtain ⟨rfl, rfl, rfl⟩ := hc
    simp only [Prod.mk.injEq] at hx
    obtain ⟨rfl, rfl⟩ := hx
    have hch : ∀ i, i < len1 → ∃ q : Tk, ∃ xe : DataW H × List MemPlace, W.cells? 0 (a.add (i * 5)) 5 = some [.int .i64 q.k, .string ⟨q.t.toArray⟩, .int .i64 q.n, .int .i64 q.a, .bool q.f] ∧ elems[i]? = some xe ∧ q.t.length + 1 ≤ Rows.uptoBulk xe.1 := fun i hi => by
      have h1 := hel i hi
      rw [cTok] at h1
      have he : elems[i]? = some elems[i] := List.getElem?_eq_getElem (by omega)
      rw [he] at h1
      obtain ⟨cs', g1, g2⟩ := Option.bind_eq_some_iff.1 h1
      obtain ⟨q, rfl, g3⟩ := open_tok g2
      exact ⟨q, _, g1, he, g3⟩
    obtain ⟨l, hll, hl3⟩ := choose_p hch
    refine ⟨some a, l, cap1, by rw [hll], ?_, by omega, hl2, ?_⟩
    · by_cases h0 : len1 = 0
      · exact .inl (List.eq_nil_of_length_eq_zero (by omega))
      · obtain ⟨_, g0, _⟩ := hl3 0 (by omega)
        have hc0 := (World.cells?_some g0).2.2 0 (by omega)
        rw [show (0 : Nat) * 5 = 0 from rfl] at hc0
        have hsp : a.spot = none := by
          obtain ⟨ab, ao, spot⟩ := a
          simpa [Addr.add] using World.cell?_spot hc0
        obtain ⟨ab, ao, spot⟩ := a
        simp only at hsp
        subst hsp
        rw [add_lit, add_lit] at hc0
        refine .inr ⟨ab, ao, rfl, World.block_lt_of_cell? W _ hc0, fun i hi => ?_⟩
        obtain ⟨_, g1, _⟩ := hl3 i hi
        have e := fun r hr => (World.cells?_some g1).2.2 r hr
        have e0 := e 0 (by omega)
        have e1 := e 1 (by omega)
        have e2 := e 2 (by omega)
        have e3 := e 3 (by omega)
        have e4 := e 4 (by omega)
        rw [add_lit, add_lit] at e0 e1 e2 e3 e4
        exact ⟨e0, e1, e2, e3, e4⟩
    · have hbl : bulk l ≤ Rows.uptoBulkAll (elems.map (·.1)) := bulk_elems _ _ (by simp; omega) fun i h1 h2 => by
        obtain ⟨xe, _, g1, g2⟩ := hl3 i h2
        have : elems[i]? = some elems[i] := List.getElem?_eq_getElem (by omega)
        rw [this] at g1
        injection g1 with g1
        rw [List.getElem_map, g1]
        exact g2
      simp only [Rows.uptoBulk]
      omega
theorem trodAll_keep {P : Program} (hl : laidOutB P = true) {W W' : World} (hb : Below W.heap.size W W') : ∀ (ts : List TypeId) (vs : List Value) (ds : List (DataW H)) (ps : List MemPlace), (∀ t ∈ ts, P.readableRec t = true ∧ t < P.types.size) →
    DataW.TrodAll enc P W 0 (fun _ => true) true ts vs ds ps → (∀ x ∈ ps, x.block < W.heap.size) → DataW.TrodAll enc P W' 0 (fun b => decide (b < W.heap.size)) true ts vs ds ps
  | [], vs, ds, ps, _, h, _ => by
    obtain ⟨rfl, rfl, rfl⟩ := trodAll_nil h
    exact trodAll_mk0
  | t :: ts, vs, ds, ps, hr, h, hlt => by
    obtain ⟨v, vs', d, ds', p, q, rfl, rfl, rfl, h0, h1⟩ := trodAll_cons h
    have ht := hr t (by simp)
    exact trodAll_cons_mk (Below.trod hl ht.1 ht.2 h0 hb fun x hx => hlt x (by simp [hx])) (trodAll_keep hl hb ts vs' ds' q (fun t' h' => hr t' (by simp [h'])) h1 fun x hx => hlt x (by simp [hx]))
/-- the row's last step: nothing that was there has turned -/
theorem post_keep {P : Program} {f : Func} {s : ChangeSpec} {W W' : World} {args : Array Value} {v : Value} {ds : List (DataW H)} {p : List MemPlace} (hl : laidOutB P = true) (hr : ∀ t ∈ f.params.toList, P.readableRec t = true ∧ t < P.types.size) (hv : s.vars = [])
    (hW : DataW.Whole enc P f.params.toList s.vars false W args.toList ds [] p) (hA : DataW.TrodAll enc P W 0 (fun _ => true) true f.params.toList args.toList ds p)
    (hres : ∀ (b : Nat) (sp : Nat → Bool) (hd : Bool), DataW.TrodAll enc P W' b sp hd f.resultTypes.toList (v.resultList f.resultTypes.size) (s.fn H (ds ++ [])).results [])
    (hargs : (s.fn H (ds ++ [])).args = ds) (hvars : (s.fn H (ds ++ [])).vars = [])
    (hb : Below W.heap.size W W') : s.post enc P f false true false false W args v W' := by
  refine ⟨ds, [], p, [], p, [], hW, hres _ _ _, ?_, ?_, hb.frame _, fun h => by cases h⟩
  · rw [hargs]
    exact trodAll_keep hl hb _ _ _ _ hr hA hW.lt
  · rw [hvars, hv]
    rfl
end
end Go.Proofs.YtkaamaopjcaalaaDoor.T
