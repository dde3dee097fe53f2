/-
  Tokens as values and in memory; readWord, readText, readSign, readNum, readToken, by contract.
-/
import Derived.Test.YtkaamaopjcaalaaDoorI
import Derived.Test.YtkaamaopjcaalaaDoorG
import Derived.Test.YtkaamaopjcaalaaDoorC
import Derived.Lib.MinMax
namespace Go.Proofs.YtkaamaopjcaalaaDoor.T
open Go.RowKit Go.Proofs.YtkaamaopjcaalaaDoor

/-- a token's value, with its place not told -/
def tV (t : Tok) : Value := .agg #[.int .i64 (t.k : Nat), .string ⟨t.t.toArray⟩, .int .i64 (t.n : Nat), .int .i64 0, .bool false]
/-- no token -/
def t0 : Tok := ⟨0, [], 0⟩
/-- what a reader of one token answers -/
def tkV : Option (Tok × Nat) → Value
  | some (t, k) => .tuple #[tV t, .int .i64 (k : Nat)]
  | none => .tuple #[tV t0, .int .i64 0]
theorem infoT : (Tryd.prog.info? 30).map (fun i => (i.zero, i.size, i.bytes)) = some (some (.agg #[.int .i64 0, .string ⟨#[]⟩, .int .i64 0, .int .i64 0, .bool false]), 5, 48) := by kernel_rfl
theorem hp_new {w : World} {o : Obj} {n : Nat} (h : n = w.heap.size) : (w.alloc o).heap[n]? = some o := by
  subst h
  show (w.heap.push o)[w.heap.size]? = some o
  simp
theorem hp_row_set {w : World} {b i : Nat} {cs : Array Value} {t : TypeId} {fr : Nat × Nat} (h : w.heap[b]? = some (.cells cs t fr)) (u : Value) : (w.setCell ⟨b, i, none⟩ u).heap[b]? = some (.cells (cs.setIfInBounds i u) t fr) := by
  simp only [World.setCell, Array.getElem?_modify, if_true, h, Option.map_some]
  rfl
theorem cell_of_row (w : World) (g j : Nat) (cs : Array Value) (t : TypeId) (fr : Nat × Nat) (h : w.heap[g]? = some (.cells cs t fr)) : w.cell? ⟨g, j, none⟩ = cs[j]? := by
  simp [World.cell?, h]
theorem res_ct {P : Program} {fn : Func} {p u : Tmp} {ty : TypeId} (h : fn.results = #[.cell p ty, .tmp u]) (tmps : Array Value) (w : World) (g : Nat) (t : TypeId) (cs : Array Value) (fr : Nat × Nat) (d : TypeDesc)
    (hp : tmps.getD p undef = .pointer (some ⟨g, 0, none⟩)) (hg : w.heap[g]? = some (.cells cs t fr))
    (hu : P.underlying ty = some d) (hd : (match d with | .struct _ | .array _ _ => true | _ => false) = true) (hi : (P.info? ty).map (·.size) = some cs.size) :
    (results fn tmps).run P w = .ok (.tuple #[.agg cs, tmps.getD u undef]) w := by
  have hp' : tmps[p]?.getD undef = .pointer (some ⟨g, 0, none⟩) := by simpa using hp
  simp [results, h, hp', asAddr, run_loadVar_row w g t ty cs fr d hg hu hd hi]
/-- five cells -/
def row5 (k : Int) (t : ByteArray) (n a : Int) (f : Bool) : Obj := .cells #[.int .i64 k, .string t, .int .i64 n, .int .i64 a, .bool f] 30 (0, 0)
/-- five cells stored -/
def put5 (w : World) (g : Nat) (k : Int) (t : ByteArray) (n a : Int) (f : Bool) : World := ((((w.setCell ⟨g, 0, none⟩ (.int .i64 k)).setCell ⟨g, 1, none⟩ (.string t)).setCell ⟨g, 2, none⟩ (.int .i64 n)).setCell ⟨g, 3, none⟩ (.int .i64 a)).setCell ⟨g, 4, none⟩ (.bool f)
theorem put5_row {w : World} {g : Nat} {k n a : Int} {t : ByteArray} {f : Bool} (h : w.heap[g]? = some (row5 k t n a f)) (k' : Int) (t' : ByteArray) (n' a' : Int) (f' : Bool) : (put5 w g k' t' n' a' f').heap[g]? = some (row5 k' t' n' a' f') :=
  hp_row_set (hp_row_set (hp_row_set (hp_row_set (hp_row_set h _) _) _) _) _
theorem put5_below {B : Nat} {w0 w : World} {g : Nat} (h : Below B w0 w) (hg : B ≤ g) (k : Int) (t : ByteArray) (n a : Int) (f : Bool) : Below B w0 (put5 w g k t n a f) :=
  (((((h.setCell (p := ⟨g, 0, none⟩) hg _).setCell (p := ⟨g, 1, none⟩) hg _).setCell (p := ⟨g, 2, none⟩) hg _).setCell (p := ⟨g, 3, none⟩) hg _).setCell (p := ⟨g, 4, none⟩) hg _)
theorem put5_eq (w : World) (g : Nat) (k : Int) (t : ByteArray) (n a : Int) (f : Bool) : ((((w.setCell ⟨g, 0, none⟩ (.int .i64 k)).setCell ⟨g, 1, none⟩ (.string t)).setCell ⟨g, 2, none⟩ (.int .i64 n)).setCell ⟨g, 3, none⟩ (.int .i64 a)).setCell ⟨g, 4, none⟩ (.bool f) = put5 w g k t n a f := rfl
theorem row5_cells {w : World} {g : Nat} {k n a : Int} {t : ByteArray} {f : Bool} (h : w.heap[g]? = some (row5 k t n a f)) : w.cell? ⟨g, 0, none⟩ = some (.int .i64 k) ∧ w.cell? ⟨g, 1, none⟩ = some (.string t) ∧ w.cell? ⟨g, 2, none⟩ = some (.int .i64 n) ∧ w.cell? ⟨g, 3, none⟩ = some (.int .i64 a) ∧ w.cell? ⟨g, 4, none⟩ = some (.bool f) ∧ ∀ o, w.frozen? ⟨g, o, none⟩ = false := by
  unfold row5 at h
  refine ⟨?_, ?_, ?_, ?_, ?_, fun o => by simp [World.frozen?, h]⟩
  · rw [cell_of_row w g 0 _ _ _ h]; rfl
  · rw [cell_of_row w g 1 _ _ _ h]; rfl
  · rw [cell_of_row w g 2 _ _ _ h]; rfl
  · rw [cell_of_row w g 3 _ _ _ h]; rfl
  · rw [cell_of_row w g 4 _ _ _ h]; rfl
theorem below_alloc (w : World) (o : Obj) : Below w.heap.size w (w.alloc o) := (Below.refl _ _).alloc (Nat.le_refl _) _
/-- the cell that a call has laid first, in a world behind -/
theorem row_kept {w w' : World} {o : Obj} (h : Below (w.alloc o).heap.size (w.alloc o) w') : w'.heap[w.heap.size]? = some o ∧ Below w.heap.size w w' :=
  ⟨(h.block _ (by simp)).trans (hp_new rfl), (below_alloc w o).trans (h.mono (by simp))⟩
theorem clone_any (s : ByteArray) (w : World) (hs : s.size ≤ 281474976710656) :
    Calls Tryd.prog 57 #[.string s] w fun e w' => e = .returned (.string s) ∧ Below w.heap.size w w' := by
  go_enter Tryd.func57, Tryd.ntmps57
  go_wp2_with (go_at_call 71; refine (Tryd.stringslite_Clone s _ hs).mono ?_; rintro e w' ⟨rfl, hb⟩)
  go_ret
  exact ⟨rfl, hb⟩
theorem mk_list (b : ByteArray) : (⟨b.data.toList.toArray⟩ : ByteArray) = b := by cases b; rfl
/-- what readWord answers -/
def word (l : Bs) : Option (Tok × Nat) := if 32 < run ib l then none else some (⟨if isW (l.take (run ib l)) then 2 else 1, l.take (run ib l), 0⟩, run ib l)
set_option maxRecDepth 8000 in
set_option maxHeartbeats 2000000 in
theorem readWord_any (s : ByteArray) (w : World) (hs : s.size ≤ 1000000) :
    Calls Tryd.prog 37 #[.string s] w fun e w' => e = .returned (tkV (word s.data.toList)) ∧ Below w.heap.size w w' := by
  obtain ⟨i5, hi5, hz5, hs5, hb5⟩ := info_parts infoT
  have HS := Lib.hid fun w => sizeOf_ib s w (by omega)
  have hle : run ib s.data.toList ≤ s.size := by rw [← size_list]; exact run_le _ _
  obtain ⟨k, hk⟩ : ∃ k, run ib s.data.toList = k := ⟨_, rfl⟩
  have hw : word s.data.toList = if 32 < k then none else some (⟨if isW (s.extract 0 k).data.toList then 2 else 1, (s.extract 0 k).data.toList, 0⟩, k) := by
    unfold word
    rw [hk, ext_list]
    rfl
  rw [hk] at HS hle
  by_cases h32 : 32 < k
  · rw [if_pos h32] at hw
    have HV := Lib.hid (congrArg tkV hw)
    have HZ := Lib.hid (fun w' (h : Below (w.alloc (row5 0 ⟨#[]⟩ 0 0 false)).heap.size (w.alloc (row5 0 ⟨#[]⟩ 0 0 false)) w') => row_kept h)
    have HZ0 := Lib.hid (HZ.out _ (Below.refl _ _))
    obtain ⟨c0, c1, c2, c3, c4, cf⟩ := row5_cells HZ0.out.1
    have f0 := cf 0
    have f1 := cf 1
    have f2 := cf 2
    have f3 := cf 3
    have f4 := cf 4
    unfold row5 at *
    clear hw hk cf
    go_enter Tryd.func37, Tryd.ntmps37
    go_wp2_with (go_at_call 20; refine (HS.out _).mono ?_; rintro e w' ⟨rfl, rfl⟩)
    refine bodyPost_ret (res_ct rfl _ _ w.heap.size 30 _ (0, 0) _ rfl HZ0.out.1 Tryd.underlying30 rfl (by rw [hi5]; simp [hs5])) rfl ?_
    exact ⟨by rw [HV.out]; rfl, HZ0.out.2⟩
  · rw [if_neg h32] at hw
    have h32' : (k : Int) ≤ 32 := by omega
    have hkz : (k : Int) ≤ (s.size : Int) := by omega
    have HC := Lib.hid fun w => clone_any (s.extract 0 k) w (by rw [ext_size s 0 k (by omega)]; omega)
    have HW := Lib.hid fun w => isWord_any (s.extract 0 k) w
    have HZ := Lib.hid fun w' (h : Below (w.alloc (row5 0 ⟨#[]⟩ 0 0 false)).heap.size (w.alloc (row5 0 ⟨#[]⟩ 0 0 false)) w') => row_kept h
    have HPr := Lib.hid fun (w' : World) (h : w'.heap[w.heap.size]? = some (row5 0 ⟨#[]⟩ 0 0 false)) k t n a f => put5_row h k t n a f
    have HPb := Lib.hid fun (w' : World) (h : Below w.heap.size w w') k t n a f => put5_below (g := w.heap.size) h (Nat.le_refl _) k t n a f
    cases hiw : isW (s.extract 0 k).data.toList with
    | true =>
      rw [hiw, if_pos rfl] at hw
      rw [hiw] at HW
      have HV : Hid (tkV (word s.data.toList) = .tuple #[.agg #[.int .i64 2, .string (s.extract 0 k), .int .i64 0, .int .i64 0, .bool false], .int .i64 k]) := Lib.hid (by
        rw [hw]
        show Value.tuple #[.agg #[.int .i64 2, .string ⟨(s.extract 0 k).data.toList.toArray⟩, .int .i64 0, .int .i64 0, .bool false], .int .i64 k] = _
        rw [mk_list])
      clear hw hk hiw h32
      unfold row5 at *
      go_enter Tryd.func37, Tryd.ntmps37
      go_wp2_with (go_at_call 20; refine (HS.out _).mono ?_; rintro e w' ⟨rfl, rfl⟩)
      refine (HC.out _).mono ?_
      rintro e w1 ⟨rfl, hb1⟩
      obtain ⟨hz1, hz2⟩ := HZ.out _ hb1
      obtain ⟨c0, c1, c2, c3, c4, cf⟩ := row5_cells hz1
      have f0 := cf 0
      have f1 := cf 1
      have f2 := cf 2
      have f3 := cf 3
      have f4 := cf 4
      have HR := Lib.hid (HPr.out _ hz1 1 (s.extract 0 k) 0 0 false)
      have HB := Lib.hid (HPb.out _ hz2 1 (s.extract 0 k) 0 0 false)
      clear hz1 hz2 cf hb1
      go_wp2_with fail
      rw [put5_eq]
      refine (HW.out _).mono ?_
      rintro e w2 ⟨rfl, rfl⟩
      clear c0 c1 c2 c3 c4 f0 f1 f2 f3 f4
      generalize put5 w1 w.heap.size 1 (s.extract 0 k) 0 0 false = w2 at *
      obtain ⟨c0, c1, c2, c3, c4, cf⟩ := row5_cells HR.out
      have f0 := cf 0
      have f1 := cf 1
      have f2 := cf 2
      have f3 := cf 3
      have f4 := cf 4
      have HR2 : Hid ((w2.setCell ⟨w.heap.size, 0, none⟩ (.int .i64 2)).heap[w.heap.size]? = some (row5 2 (s.extract 0 k) 0 0 false)) := Lib.hid (hp_row_set HR.out _)
      have HB2 := Lib.hid (HB.out.setCell (p := ⟨w.heap.size, 0, none⟩) (Nat.le_refl _) (.int .i64 2))
      go_wp2_with fail
      rw [put5_eq]
      refine bodyPost_ret (res_ct rfl _ _ w.heap.size 30 _ (0, 0) _ rfl (put5_row HR2.out _ _ _ _ _) Tryd.underlying30 rfl (by rw [hi5]; simp [hs5])) rfl ?_
      exact ⟨by rw [HV.out]; rfl, put5_below HB2.out (Nat.le_refl _) _ _ _ _ _⟩
    | false =>
      rw [hiw, if_neg (by decide)] at hw
      rw [hiw] at HW
      have HV : Hid (tkV (word s.data.toList) = .tuple #[.agg #[.int .i64 1, .string (s.extract 0 k), .int .i64 0, .int .i64 0, .bool false], .int .i64 k]) := Lib.hid (by
        rw [hw]
        show Value.tuple #[.agg #[.int .i64 1, .string ⟨(s.extract 0 k).data.toList.toArray⟩, .int .i64 0, .int .i64 0, .bool false], .int .i64 k] = _
        rw [mk_list])
      clear hw hk hiw h32
      unfold row5 at *
      go_enter Tryd.func37, Tryd.ntmps37
      go_wp2_with (go_at_call 20; refine (HS.out _).mono ?_; rintro e w' ⟨rfl, rfl⟩)
      refine (HC.out _).mono ?_
      rintro e w1 ⟨rfl, hb1⟩
      obtain ⟨hz1, hz2⟩ := HZ.out _ hb1
      obtain ⟨c0, c1, c2, c3, c4, cf⟩ := row5_cells hz1
      have f0 := cf 0
      have f1 := cf 1
      have f2 := cf 2
      have f3 := cf 3
      have f4 := cf 4
      have HR := Lib.hid (HPr.out _ hz1 1 (s.extract 0 k) 0 0 false)
      have HB := Lib.hid (HPb.out _ hz2 1 (s.extract 0 k) 0 0 false)
      clear hz1 hz2 cf hb1
      go_wp2_with fail
      rw [put5_eq]
      refine (HW.out _).mono ?_
      rintro e w2 ⟨rfl, rfl⟩
      clear c0 c1 c2 c3 c4 f0 f1 f2 f3 f4
      generalize put5 w1 w.heap.size 1 (s.extract 0 k) 0 0 false = w2 at *
      obtain ⟨c0, c1, c2, c3, c4, cf⟩ := row5_cells HR.out
      have f0 := cf 0
      have f1 := cf 1
      have f2 := cf 2
      have f3 := cf 3
      have f4 := cf 4
      go_wp2_with fail
      rw [put5_eq]
      refine bodyPost_ret (res_ct rfl _ _ w.heap.size 30 _ (0, 0) _ rfl (put5_row HR.out _ _ _ _ _) Tryd.underlying30 rfl (by rw [hi5]; simp [hs5])) rfl ?_
      exact ⟨by rw [HV.out]; rfl, put5_below HB.out (Nat.le_refl _) _ _ _ _ _⟩
/-- what readText answers -/
def text (l : Bs) : Option (Tok × Nat) := (read l).map fun x => (⟨4, bs x.1, 0⟩, x.2)
set_option maxRecDepth 8000 in
set_option maxHeartbeats 2000000 in
theorem readText_any (s : ByteArray) (w : World) (hs : s.size ≤ 1000000) (hE : ErrAt w) :
    Calls Tryd.prog 38 #[.string s] w fun e w' => e = .returned (tkV (text s.data.toList)) ∧ Below w.heap.size w w' := by
  obtain ⟨i5, hi5, hz5, hs5, hb5⟩ := info_parts infoT
  have HRd := Lib.hid (read_any s (w.alloc (row5 0 ⟨#[]⟩ 0 0 false)) (by omega) (hE.below (below_alloc _ _)))
  have HZ := Lib.hid fun w' (h : Below (w.alloc (row5 0 ⟨#[]⟩ 0 0 false)).heap.size (w.alloc (row5 0 ⟨#[]⟩ 0 0 false)) w') => row_kept h
  have ht : text s.data.toList = (read s.data.toList).map fun x => (⟨4, bs x.1, 0⟩, x.2) := rfl
  cases hr : read s.data.toList with
  | none =>
    rw [hr] at HRd ht
    have HV := Lib.hid (congrArg tkV ht)
    clear hr ht hE
    unfold row5 at *
    unfold readRes at HRd
    go_enter Tryd.func38, Tryd.ntmps38
    go_wp2_with fail
    refine HRd.out.mono ?_
    rintro e w1 ⟨rfl, hb1⟩
    obtain ⟨hz1, hz2⟩ := HZ.out _ hb1
    obtain ⟨c0, c1, c2, c3, c4, cf⟩ := row5_cells hz1
    have f0 := cf 0
    have f1 := cf 1
    have f2 := cf 2
    have f3 := cf 3
    have f4 := cf 4
    have HR := Lib.hid hz1
    have HB := Lib.hid hz2
    clear hz1 hz2 cf hb1
    go_wp2_with fail
    rw [put5_eq]
    refine bodyPost_ret (res_ct rfl _ _ w.heap.size 30 _ (0, 0) _ rfl (put5_row HR.out _ _ _ _ _) Tryd.underlying30 rfl (by rw [hi5]; simp [hs5])) rfl ?_
    exact ⟨by rw [HV.out]; rfl, put5_below HB.out (Nat.le_refl _) _ _ _ _ _⟩
  | some x =>
    obtain ⟨u, n⟩ := x
    rw [hr] at HRd ht
    have HV := Lib.hid (congrArg tkV ht)
    clear hr ht hE
    unfold row5 at *
    unfold readRes at HRd
    go_enter Tryd.func38, Tryd.ntmps38
    go_wp2_with fail
    refine HRd.out.mono ?_
    rintro e w1 ⟨rfl, hb1⟩
    obtain ⟨hz1, hz2⟩ := HZ.out _ hb1
    obtain ⟨c0, c1, c2, c3, c4, cf⟩ := row5_cells hz1
    have f0 := cf 0
    have f1 := cf 1
    have f2 := cf 2
    have f3 := cf 3
    have f4 := cf 4
    have HR := Lib.hid hz1
    have HB := Lib.hid hz2
    clear hz1 hz2 cf hb1
    go_wp2_with fail
    rw [put5_eq]
    refine bodyPost_ret (res_ct rfl _ _ w.heap.size 30 _ (0, 0) _ rfl (put5_row HR.out _ _ _ _ _) Tryd.underlying30 rfl (by rw [hi5]; simp [hs5])) rfl ?_
    exact ⟨by rw [HV.out]; rfl, put5_below HB.out (Nat.le_refl _) _ _ _ _ _⟩
/-! signs -/
def sgGo : Nat → Bs → Option Bs
  | 0, _ => none
  | n + 1, l => if isS (l.take (n + 1)) then some (l.take (n + 1)) else sgGo n l
def signs3 : List Bs := [[61, 61, 61], [33, 61, 61]]
def signs2 : List Bs := [[60, 61], [62, 61], [61, 61], [33, 61], [43, 43], [45, 45], [38, 38], [124, 124], [43, 61], [45, 61], [42, 61], [47, 61], [37, 61]]
def signs1 : List Bs := [[123], [125], [40], [41], [91], [93], [46], [59], [44], [60], [62], [43], [45], [42], [47], [37], [33], [63], [58], [61]]
theorem signs_eq : signs = signs3 ++ (signs2 ++ signs1) := rfl
theorem find_len (l : Bs) (n : Nat) : ∀ gs : List Bs, (∀ g ∈ gs, g.length = n) → gs.find? (·.isPrefixOf l) = if n ≤ l.length ∧ gs.contains (l.take n) = true then some (l.take n) else none
  | [], _ => by simp
  | g :: gs, h => by
    have hg := h g (by simp)
    have ih := find_len l n gs fun x hx => h x (by simp [hx])
    rw [List.find?_cons]
    by_cases hp : g.isPrefixOf l = true
    · rw [hp]
      have h1 := List.isPrefixOf_iff_prefix.1 hp
      have e : l.take n = g := by rw [← hg]; exact (List.prefix_iff_eq_take.1 h1).symm
      have hn : n ≤ l.length := by rw [← hg]; exact h1.length_le
      simp only
      rw [if_pos ⟨hn, by rw [e]; simp⟩, e]
    · rw [Bool.not_eq_true] at hp
      rw [hp]
      simp only
      rw [ih]
      by_cases hn : n ≤ l.length
      · have e : ¬ l.take n = g := by
          intro e
          rw [← e] at hp
          rw [List.isPrefixOf_iff_prefix.2 (List.take_prefix n l)] at hp
          cases hp
        have e2 : (g :: gs).contains (l.take n) = gs.contains (l.take n) := by
          rw [List.contains_cons, beq_eq_false_iff_ne.2 e, Bool.false_or]
        rw [e2]
      · rw [if_neg (fun h => hn h.1), if_neg (fun h => hn h.1)]
theorem contains_len {x : Bs} {n : Nat} {gs : List Bs} (h : ∀ g ∈ gs, g.length = n) (hx : ¬ x.length = n) : gs.contains x = false := by
  rw [Bool.eq_false_iff]
  intro hc
  rw [List.contains_iff_mem] at hc
  exact hx (h x hc)
theorem len3 : ∀ g ∈ signs3, g.length = 3 := by decide +kernel
theorem len2 : ∀ g ∈ signs2, g.length = 2 := by decide +kernel
theorem len1 : ∀ g ∈ signs1, g.length = 1 := by decide +kernel
theorem isS_split (x : Bs) : isS x = (signs3.contains x || (signs2.contains x || signs1.contains x)) := by
  rw [Bool.eq_iff_iff]
  unfold isS
  rw [signs_eq]
  simp only [List.contains_iff_mem, List.mem_append, Bool.or_eq_true]
theorem sg_go (l : Bs) : sg l = sgGo (min l.length 3) l := by
  unfold sg
  rw [signs_eq, List.find?_append, List.find?_append, find_len l 3 _ len3, find_len l 2 _ len2, find_len l 1 _ len1]
  have hc : l.length = 0 ∨ l.length = 1 ∨ l.length = 2 ∨ 3 ≤ l.length := by omega
  have h3 : 3 ≤ l.length → isS (l.take 3) = signs3.contains (l.take 3) := fun h => by
    rw [isS_split, contains_len len2 (by rw [List.length_take]; omega), contains_len len1 (by rw [List.length_take]; omega)]
    simp
  have h2 : 2 ≤ l.length → isS (l.take 2) = signs2.contains (l.take 2) := fun h => by
    rw [isS_split, contains_len len3 (by rw [List.length_take]; omega), contains_len len1 (by rw [List.length_take]; omega)]
    simp
  have h1 : 1 ≤ l.length → isS (l.take 1) = signs1.contains (l.take 1) := fun h => by
    rw [isS_split, contains_len len3 (by rw [List.length_take]; omega), contains_len len2 (by rw [List.length_take]; omega)]
    simp
  rcases hc with h | h | h | h
  · rw [h, if_neg (by omega), if_neg (by omega), if_neg (by omega)]
    rfl
  · rw [h, if_neg (by omega), if_neg (by omega)]
    show (if 1 ≤ 1 ∧ _ then _ else _) = if isS (l.take 1) then _ else none
    rw [h1 (by omega)]
    simp
  · rw [h, if_neg (by omega)]
    show Option.or none (Option.or (if 2 ≤ 2 ∧ _ then _ else _) (if 1 ≤ 2 ∧ _ then _ else _)) = if isS (l.take 2) then _ else if isS (l.take 1) then _ else none
    rw [h2 (by omega), h1 (by omega)]
    have e2 : (2 ≤ 2) = True := eq_true (by omega)
    have e1 : (1 ≤ 2) = True := eq_true (by omega)
    simp only [e1, e2, true_and]
    generalize signs2.contains (l.take 2) = b2
    generalize signs1.contains (l.take 1) = b1
    cases b1 <;> cases b2 <;> rfl
  · rw [show min l.length 3 = 3 by omega]
    show Option.or (if 3 ≤ l.length ∧ _ then _ else _) (Option.or (if 2 ≤ l.length ∧ _ then _ else _) (if 1 ≤ l.length ∧ _ then _ else _)) = if isS (l.take 3) then _ else if isS (l.take 2) then _ else if isS (l.take 1) then _ else none
    rw [h3 h, h2 (by omega), h1 (by omega)]
    have e3 : (3 ≤ l.length) = True := eq_true h
    have e2 : (2 ≤ l.length) = True := eq_true (by omega)
    have e1 : (1 ≤ l.length) = True := eq_true (by omega)
    simp only [e1, e2, e3, true_and]
    generalize signs3.contains (l.take 3) = b3
    generalize signs2.contains (l.take 2) = b2
    generalize signs1.contains (l.take 1) = b1
    cases b1 <;> cases b2 <;> cases b3 <;> rfl
theorem sg_len {l g : Bs} (h : sg l = some g) : l.take g.length = g := by
  obtain ⟨_, hp⟩ := sg_form h
  exact (List.prefix_iff_eq_take.1 (List.isPrefixOf_iff_prefix.1 hp)).symm
/-- what readSign answers -/
def sign (l : Bs) : Option (Tok × Nat) := (sg l).map fun g => (⟨5, g, 0⟩, g.length)
set_option maxRecDepth 8000 in
set_option maxHeartbeats 2000000 in
theorem readSign_any (s : ByteArray) (w : World) (hs : s.size ≤ 1000000) :
    Calls Tryd.prog 39 #[.string s] w fun e w' => e = .returned (tkV (sign s.data.toList)) ∧ Below w.heap.size w w' := by
  obtain ⟨i5, hi5, hz5, hs5, hb5⟩ := info_parts infoT
  have hg := sg_go s.data.toList
  rw [size_list] at hg
  obtain ⟨m, hm⟩ : ∃ m, m = min s.size 3 := ⟨_, rfl⟩
  rw [← hm] at hg
  have hmin : min (s.size : Int) 3 = (m : Int) := by omega
  have hms : m ≤ s.size := by omega
  have hm3 : m ≤ 3 := by omega
  have HG := Lib.hid hg
  have HZ := Lib.hid (fun w' (h : Below (w.alloc (row5 0 ⟨#[]⟩ 0 0 false)).heap.size (w.alloc (row5 0 ⟨#[]⟩ 0 0 false)) w') => row_kept h)
  have HZ0 := Lib.hid (HZ.out _ (Below.refl _ _))
  have HEx := Lib.hid fun k => ext_list s 0 k
  have HTk : Hid (∀ k, k ≤ s.size → (s.data.toList.take k).length = k) := Lib.hid fun k h => by rw [List.length_take, size_list]; omega
  have HV : Hid (∀ o, sg s.data.toList = o → tkV (sign s.data.toList) = tkV (o.map fun g => (⟨5, g, 0⟩, g.length))) := Lib.hid fun o h => by unfold sign; rw [h]
  generalize s.data.toList = l at *
  clear hg hm
  unfold row5 at *
  go_enter Tryd.func39, Tryd.ntmps39
  go_wp2_with fail
  go_loopw [3] (fun v wr => ∃ k : Nat, k ≤ m ∧ v = .int .i64 k ∧ Hid (sg l = sgGo k l) ∧ w.alloc (.cells #[.int .i64 0, .string ⟨#[]⟩, .int .i64 0, .int .i64 0, .bool false] 30) = wr)
    (fun v _ => (intOf v).toNat)
  case atStart => exact ⟨m, Nat.le_refl _, by first | rfl | (rw [hmin]), HG, rfl⟩
  case round =>
    obtain ⟨k, hk, rfl, hI, rfl⟩ := hrel
    obtain ⟨c0, c1, c2, c3, c4, cf⟩ := row5_cells HZ0.out.1
    have f0 := cf 0
    have f1 := cf 1
    have f2 := cf 2
    have f3 := cf 3
    have f4 := cf 4
    clear cf
    cases k with
    | zero =>
      have hV := Lib.hid (HV.out _ hI.out)
      go_wp2_with fail
      refine bodyPost_ret (res_ct rfl _ _ w.heap.size 30 _ (0, 0) _ rfl (HZ0.out.1) Tryd.underlying30 rfl (by rw [hi5]; simp [hs5])) rfl ?_
      exact ⟨by rw [hV.out]; rfl, HZ0.out.2⟩
    | succ k =>
      have hks : ((k + 1 : Nat) : Int) ≤ s.size := by omega
      have HSg := Lib.hid fun w => isSign_any (s.extract 0 (k + 1)) w
      have he : (s.extract 0 (k + 1)).data.toList = l.take (k + 1) := by rw [HEx.out]; rfl
      rw [he] at HSg
      have hgo : sgGo (k + 1) l = if isS (l.take (k + 1)) then some (l.take (k + 1)) else sgGo k l := rfl
      have HC := Lib.hid fun w => clone_any (s.extract 0 (k + 1)) w (by rw [ext_size s 0 (k + 1) (by omega)]; omega)
      cases hss : isS (l.take (k + 1)) with
      | true =>
        rw [hss, if_pos rfl] at hgo
        rw [hss] at HSg
        have HV2 : Hid (tkV (sign l) = .tuple #[.agg #[.int .i64 5, .string (s.extract 0 (k + 1)), .int .i64 0, .int .i64 0, .bool false], .int .i64 ((k + 1 : Nat) : Int)]) := Lib.hid (by
          rw [HV.out _ (hI.out.trans hgo)]
          show Value.tuple #[.agg #[.int .i64 5, .string ⟨(l.take (k + 1)).toArray⟩, .int .i64 0, .int .i64 0, .bool false], .int .i64 ((l.take (k + 1)).length : Nat)] = _
          rw [HTk.out (k + 1) (by omega), ← he, mk_list])
        clear hI hgo hss
        go_wp2_with fail
        refine (HSg.out _).mono ?_
        rintro e w' ⟨rfl, rfl⟩
        go_wp2_with fail
        refine (HC.out _).mono ?_
        rintro e w1 ⟨rfl, hb1⟩
        obtain ⟨hz1, hz2⟩ := HZ.out _ hb1
        clear c0 c1 c2 c3 c4 f0 f1 f2 f3 f4
        obtain ⟨c0, c1, c2, c3, c4, cf⟩ := row5_cells hz1
        have f0 := cf 0
        have f1 := cf 1
        have f2 := cf 2
        have f3 := cf 3
        have f4 := cf 4
        have HR := Lib.hid hz1
        have HB := Lib.hid hz2
        clear hz1 hz2 cf hb1
        go_wp2_with fail
        rw [put5_eq]
        refine bodyPost_ret (res_ct rfl _ _ w.heap.size 30 _ (0, 0) _ rfl (put5_row HR.out _ _ _ _ _) Tryd.underlying30 rfl (by rw [hi5]; simp [hs5])) rfl ?_
        exact ⟨by rw [HV2.out]; rfl, put5_below HB.out (Nat.le_refl _) _ _ _ _ _⟩
      | false =>
        rw [hss, if_neg (by decide)] at hgo
        rw [hss] at HSg
        have HI := Lib.hid (hI.out.trans hgo)
        go_wp2_with fail
        refine (HSg.out _).mono ?_
        rintro e w' ⟨rfl, rfl⟩
        go_wp2_with fail
        go_roundw
        case rel => exact ⟨k, by omega, by go_num, HI, by first | rfl | trivial⟩
        case measure => simp [intOf]
end Go.Proofs.YtkaamaopjcaalaaDoor.T
