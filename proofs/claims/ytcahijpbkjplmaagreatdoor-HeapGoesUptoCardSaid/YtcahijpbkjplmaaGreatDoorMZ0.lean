/-
 MEMORY: frames; a block known whole; maps whose elements are values as they stand.
 Steps of a statement that draws its order, said shortly.
 THE PROGRAM'S HEAP IN MEMORY: objects with their properties in a ring of links, found by a map; an Array's by their indexes.
-/
import Derived.Test.YtcahijpbkjplmaaGreatDoorMHf
import Derived.Test.YtcahijpbkjplmaaGreatDoorMHe
import Derived.Maps.OwnOps
import Derived.Maps.OwnSet
import Derived.Maps.Views
import Derived.Laws.ResultCell
import Derived.Deep.RegionHeld3
import Derived.RangeFuncRecord
set_option linter.unusedSimpArgs false
namespace Go.Proofs.YtcahijpbkjplmaaGreatDoor.G
open Go.RowKit Go.Maps Go.Proofs.YtcahijpbkjplmaaGreatDoor
structure Fr (F : Nat → Prop) (w w' : World) : Prop where
 os : w'.os = w.os
 tape : w'.tape = w.tape
 output : w'.output = w.output
 size : w.heap.size ≤ w'.heap.size
 block : ∀ k, F k → w'.heap[k]? = w.heap[k]?
section
variable {F F' : Nat → Prop} {a w w' : World}
theorem Fr.refl (F : Nat → Prop) (w : World) : Fr F w w := ⟨rfl, rfl, rfl, Nat.le_refl _, fun _ _ => rfl⟩
theorem Fr.trans {b c : World} (h : Fr F a b) (k : Fr F b c) : Fr F a c :=
 ⟨k.os.trans h.os, k.tape.trans h.tape, k.output.trans h.output, Nat.le_trans h.size k.size, fun i hi => (k.block i hi).trans (h.block i hi)⟩
theorem Fr.mono (h : Fr F a w) (hF : ∀ k, F' k → F k) : Fr F' a w := ⟨h.os, h.tape, h.output, h.size, fun k hk => h.block k (hF k hk)⟩
theorem Fr.below {B : Nat} (h : Fr (· < B) w w') : Below B w w' := ⟨h.os, h.tape, h.output, h.size, h.block⟩
theorem Fr.of {B : Nat} (h : Below B w w') (hF : ∀ k, F k → k < B) : Fr F w w' := ⟨h.os, h.tape, h.output, h.size, fun k hk => h.block k (hF k hk)⟩
theorem Fr.setCell (h : Fr F a w) {p : Addr} (hp : ¬ F p.block) (u : Value) : Fr F a (w.setCell p u) :=
 h.trans ⟨rfl, rfl, rfl, by simp [World.setCell], fun k hk => Below.heap_setCell _ _ _ _ (by rintro rfl; exact hp hk)⟩
theorem Fr.drew (h : Fr F a w) : Fr F a w.drew := ⟨h.os, h.tape, h.output, h.size, h.block⟩
theorem Fr.grown {row : Option Nat} (h : Fr F a w) (hF : ∀ k, F k → k < a.heap.size) (hg : w.grownBy w' row) (hr : ∀ k, row = some k → ¬ F k) : Fr F a w' :=
 h.trans ⟨hg.os, hg.tape, hg.output, hg.size, fun k hk => hg.block k (Nat.lt_of_lt_of_le (hF k hk) h.size) (fun e => hr k e.symm hk)⟩
theorem Fr.cell (h : Fr F w w') {p : Addr} (hp : F p.block) : w'.cell? p = w.cell? p := World.cell?_of_block (w := w) (h.block p.block hp)
theorem Fr.turned {b : Nat} (h : Fr F a w) (hb : ¬ F b) (ht : w.mapTurned w' b) (hF : ∀ k, F k → k < a.heap.size) : Fr F a w' := h.grown hF ht.grown fun k e hk => by cases e; exact hb hk
end
theorem below_new (w : World) (o : Obj) : Below w.heap.size w (w.alloc o) := (Below.refl _ w).alloc (Nat.le_refl _) o
theorem below_draw (w : World) : Below w.heap.size w w.drew := (Below.refl _ w).drew
theorem add_lit (g o j : Nat) : (⟨g, o, none⟩ : Addr).add j = ⟨g, o + j, none⟩ := by unfold Addr.add; split <;> simp_all
def Blk (w : World) (b : Nat) (T : TypeId) (xs : List Value) : Prop := w.heap[b]? = some (.cells xs.toArray T (0, 0))
section
variable {w w' : World} {b : Nat} {T : TypeId} {xs : List Value}
theorem Blk.lt (h : Blk w b T xs) : b < w.heap.size := (Array.getElem?_eq_some_iff.1 h).1
theorem Blk.cell (h : Blk w b T xs) {k : Nat} {v : Value} (hk : xs[k]? = some v) : w.cell? ⟨b, k, none⟩ = some v := by
 unfold Blk at h
 simp [World.cell?, h, hk]
theorem Blk.fz (h : Blk w b T xs) (k : Nat) : w.frozen? ⟨b, k, none⟩ = false := by
 unfold Blk at h
 simp [World.frozen?, h]
theorem Blk.set (h : Blk w b T xs) (k : Nat) (v : Value) : Blk (w.setCell ⟨b, k, none⟩ v) b T (xs.set k v) := by
 unfold Blk at *
 simp [World.setCell, Array.getElem?_modify, h]
theorem Blk.fr (h : Blk w b T xs) (he : w'.heap[b]? = w.heap[b]?) : Blk w' b T xs := he.trans h
theorem Blk.other (h : Blk w b T xs) {p : Addr} (hp : b ≠ p.block) (v : Value) : Blk (w.setCell p v) b T xs := h.fr (Below.heap_setCell _ _ _ _ hp)
theorem Blk.low (h : Blk w b T xs) (hb : Below w.heap.size w w') : Blk w' b T xs := h.fr (hb.block _ h.lt)
theorem Blk.new (w : World) (T : TypeId) (xs : List Value) : Blk (w.alloc (.cells xs.toArray T)) w.heap.size T xs := World.alloc_heap_new _ _
theorem Blk.ne {b' : Nat} {T' : TypeId} {ys : List Value} (h : Blk w b T xs) (k : Blk w b' T' ys) (hT : T ≠ T') : b ≠ b' := by
 rintro rfl
 unfold Blk at *
 rw [h] at k
 injection k with k
 injection k with _ k
 exact hT k
theorem Blk.ne_map {b' : Nat} {es : Array MapEntry} {c : Nat} (h : Blk w b T xs) (k : w.heap[b']? = some (.map es c)) : b ≠ b' := by
 rintro rfl
 unfold Blk at h
 rw [h] at k
 cases k
theorem Blk.ne_row {B s n : Nat} {T' : TypeId} {v : Value} {ys : List Value} (h : Blk w b T xs) (k : w.ownsRow B T' s v n ys) (hT : T ≠ T') : ∀ g, v.ownBlock = some g → b ≠ g := by
 rintro g e rfl
 rcases k.2 with ⟨rfl, _⟩ | ⟨g', cap, cur, rfl, _, hg, _⟩
 ·cases e
 ·cases e
  unfold Blk at h
  rw [h] at hg
  injection hg with hg
  injection hg with _ hg
  exact hT hg
end
theorem row_same {w w' : World} {B s n : Nat} {e : TypeId} {v : Value} {xs : List Value} (h : w.ownsRow B e s v n xs) (hb : ∀ k, v.ownBlock = some k → w'.heap[k]? = w.heap[k]?) : w'.ownsRow B e s v n xs := by
 refine ⟨h.1, ?_⟩
 rcases h.2 with h2 | ⟨g, cap, cur, rfl, hb', hg, r⟩
 ·exact .inl h2
 ·exact .inr ⟨g, cap, cur, rfl, hb', by rw [hb g rfl]; exact hg, r⟩
theorem row_lower {w : World} {B B' s n : Nat} {e : TypeId} {v : Value} {xs : List Value} (h : w.ownsRow B e s v n xs) (hB : B' ≤ B) : w.ownsRow B' e s v n xs :=
 ⟨h.1, h.2.imp id fun ⟨g, cap, cur, h1, h2, h3⟩ => ⟨g, cap, cur, h1, Nat.le_trans hB h2, h3⟩⟩
theorem row_nil (w : World) (B s : Nat) (e : TypeId) : w.ownsRow B e s (.slice none 0 0) 0 [] := ⟨by simp, .inl ⟨rfl, rfl⟩⟩
def Rh (v : Value) : Option (DataW Value × List MemPlace) := some (.held v, [])
def keyL (s : ByteArray) : Lit := .string s.data.toList
theorem keyL_lit (s : ByteArray) : WideAt.IsKeyLit (keyL s) := by unfold keyL; trivial
theorem keyL_inj {a b : ByteArray} (h : keyL a = keyL b) : a = b := by
 unfold keyL at h
 injection h with h
 exact ByteArray.ext (Array.toList_inj.1 h)
theorem kStr : Keyed Tryz.prog 9 := string_keyed Tryz.underlying9
theorem kInt : Keyed Tryz.prog 3 := int_keyed Tryz.underlying3
theorem keyS {s : ByteArray} (h : s.size ≤ maxLen) : keyOf Tryz.prog 9 (.string s) = some (keyL s) := WideMaps.keyOf_string_mk Tryz.underlying9 h
theorem keyI {y : Nat} (h : y ≤ 9223372036854775807) : keyOf Tryz.prog 3 (.int .i64 (y : Int)) = some (.int .i64 (y : Int)) := by
 refine keyOf_int_mk Tryz.underlying3 ?_
 have h1 : IntKind.i64.min = -9223372036854775808 := by decide
 have h2 : IntKind.i64.max = 9223372036854775807 := by decide
 rw [Lit.wf, h1, h2, Bool.and_eq_true, decide_eq_true_eq, decide_eq_true_eq]
 omega
def MapS (w : World) (b n : Nat) (z : Value) (f : ByteArray → Value) : Prop := ∃ D : DataW Value, w.ownsMap Tryz.prog 9 Rh b n D ∧ ∀ s, D.atKey (keyL s) (.held z) = .held (f s)
def MapI (w : World) (b n : Nat) (z : Value) (f : Nat → Value) : Prop := ∃ D : DataW Value, w.ownsMap Tryz.prog 3 Rh b n D ∧ ∀ y : Nat, D.atKey (.int .i64 (y : Int)) (.held z) = .held (f y)
section
variable {w w' : World} {b n : Nat} {z : Value}
theorem MapS.fr {f : ByteArray → Value} (h : MapS w b n z f) (he : w'.heap[b]? = w.heap[b]?) : MapS w' b n z f := by
 obtain ⟨D, ⟨es, clock, hb, r⟩, h2⟩ := h
 exact ⟨D, ⟨es, clock, he.trans hb, r⟩, h2⟩
theorem MapI.fr {f : Nat → Value} (h : MapI w b n z f) (he : w'.heap[b]? = w.heap[b]?) : MapI w' b n z f := by
 obtain ⟨D, ⟨es, clock, hb, r⟩, h2⟩ := h
 exact ⟨D, ⟨es, clock, he.trans hb, r⟩, h2⟩
theorem MapS.mono {f : ByteArray → Value} (h : MapS w b n z f) {m : Nat} (hm : n ≤ m) : MapS w b m z f := by
 obtain ⟨D, h1, h2⟩ := h
 exact ⟨D, h1.mono hm, h2⟩
theorem MapS.lt {f : ByteArray → Value} (h : MapS w b n z f) : b < w.heap.size := by
 obtain ⟨D, h1, _⟩ := h
 exact h1.lt
theorem MapI.lt {f : Nat → Value} (h : MapI w b n z f) : b < w.heap.size := by
 obtain ⟨D, h1, _⟩ := h
 exact h1.lt
theorem MapS.isMap {f : ByteArray → Value} (h : MapS w b n z f) : ∃ es c, w.heap[b]? = some (.map es c) := by
 obtain ⟨D, ⟨es, clock, hb, r⟩, h2⟩ := h
 exact ⟨es, clock, hb⟩
theorem MapI.isMap {f : Nat → Value} (h : MapI w b n z f) : ∃ es c, w.heap[b]? = some (.map es c) := by
 obtain ⟨D, ⟨es, clock, hb, r⟩, h2⟩ := h
 exact ⟨es, clock, hb⟩
theorem MapS.new (w : World) (z : Value) : MapS (w.alloc (.map #[] 0)) w.heap.size 0 z fun _ => z := ⟨.map [], World.ownsMap_made w _ _ _, fun _ => rfl⟩
theorem MapI.new (w : World) (z : Value) : MapI (w.alloc (.map #[] 0)) w.heap.size 0 z fun _ => z := ⟨.map [], World.ownsMap_made w _ _ _, fun _ => rfl⟩
theorem MapS.look {f : ByteArray → Value} (h : MapS w b n z f) {t e : TypeId} (ht : Tryz.prog.underlying t = some (.map 9 e)) (hz : (zeroValue e).run Tryz.prog w = .ok z w) {s : ByteArray} (hs : s.size ≤ maxLen) :
  (Instr.lookup t (.map (some b)) (.string s) false).run Tryz.prog w = .ok (f s) w := by
 obtain ⟨D, h1, h2⟩ := h
 obtain ⟨v, ps, h3, h4⟩ := h1.lookup kStr ht hz (zd := .held z) rfl (keyS hs)
 rw [h2 s] at h4
 simp only [Rh, Option.some.injEq, Prod.mk.injEq, DataW.held.injEq] at h4
 obtain ⟨rfl, _⟩ := h4
 exact h3
theorem MapI.look {f : Nat → Value} (h : MapI w b n z f) {t e : TypeId} (ht : Tryz.prog.underlying t = some (.map 3 e)) (hz : (zeroValue e).run Tryz.prog w = .ok z w) {y : Nat} (hy : y ≤ 9223372036854775807) :
  (Instr.lookup t (.map (some b)) (.int .i64 (y : Int)) false).run Tryz.prog w = .ok (f y) w := by
 obtain ⟨D, h1, h2⟩ := h
 obtain ⟨v, ps, h3, h4⟩ := h1.lookup kInt ht hz (zd := .held z) rfl (keyI hy)
 rw [h2 y] at h4
 simp only [Rh, Option.some.injEq, Prod.mk.injEq, DataW.held.injEq] at h4
 obtain ⟨rfl, _⟩ := h4
 exact h3
theorem MapS.put {f : ByteArray → Value} {D : DataW Value} (h1 : IsMap D) (h2 : ∀ s, D.atKey (keyL s) (.held z) = .held (f s)) (s : ByteArray) (v : Value) (t : ByteArray) : (D.put (keyL s) (.held v)).atKey (keyL t) (.held z) = .held (if t = s then v else f t) := by
 by_cases e : t = s
 ·subst e
  rw [if_pos rfl]
  exact atKey_put_same h1 (keyL_lit t) _ _
 ·rw [if_neg e, atKey_put_other (fun e' => e (keyL_inj e'))]
  exact h2 t
theorem MapI.put {f : Nat → Value} {D : DataW Value} (h1 : IsMap D) (h2 : ∀ y : Nat, D.atKey (.int .i64 (y : Int)) (.held z) = .held (f y)) (s : Nat) (v : Value) (t : Nat) : (D.put (.int .i64 (s : Int)) (.held v)).atKey (.int .i64 (t : Int)) (.held z) = .held (if t = s then v else f t) := by
 by_cases e : t = s
 ·subst e
  rw [if_pos rfl]
  exact atKey_put_same h1 (by simp [WideAt.IsKeyLit]) _ _
 ·rw [if_neg e, atKey_put_other (fun e' => e (by injection e' with _ e'; omega))]
  exact h2 t
theorem MapS.store {f : ByteArray → Value} (h : MapS w b n z f) {t e : TypeId} (ht : Tryz.prog.underlying t = some (.map 9 e)) (hn : n < maxLen) {s : ByteArray} (hs : s.size ≤ maxLen) (v : Value) :
  ∃ w', (Instr.mapUpdate t (.map (some b)) (.string s) v).run Tryz.prog w = .ok () w' ∧ MapS w' b (n + 1) z (fun t => if t = s then v else f t) ∧ w.mapTurned w' b := by
 obtain ⟨D, h1, h2⟩ := h
 obtain ⟨w', h3, h4, h5⟩ := h1.store kStr ht hn (keyS hs) (val := v) (d := .held v) (ps := []) rfl
 exact ⟨w', h3, ⟨_, h4, MapS.put h1.isMap h2 s v⟩, h5⟩
theorem MapI.store {f : Nat → Value} (h : MapI w b n z f) {t e : TypeId} (ht : Tryz.prog.underlying t = some (.map 3 e)) (hn : n < maxLen) {y : Nat} (hy : y ≤ 9223372036854775807) (v : Value) :
  ∃ w', (Instr.mapUpdate t (.map (some b)) (.int .i64 (y : Int)) v).run Tryz.prog w = .ok () w' ∧ MapI w' b (n + 1) z (fun t => if t = y then v else f t) ∧ w.mapTurned w' b := by
 obtain ⟨D, h1, h2⟩ := h
 obtain ⟨w', h3, h4, h5⟩ := h1.store kInt ht hn (keyI hy) (val := v) (d := .held v) (ps := []) rfl
 exact ⟨w', h3, ⟨_, h4, MapI.put h1.isMap h2 y v⟩, h5⟩
theorem MapS.drop {f : ByteArray → Value} (h : MapS w b n z f) {t e : TypeId} (ht : Tryz.prog.underlying t = some (.map 9 e)) {s : ByteArray} (hs : s.size ≤ maxLen) (ty : TypeId) :
  ∃ w', (Builtin.delete_ #[t, 9] ty #[.map (some b), .string s]).run Tryz.prog w = .ok (.tuple #[]) w' ∧ MapS w' b n z (fun t => if t = s then z else f t) ∧ w.mapTurned w' b := by
 obtain ⟨D, h1, h2⟩ := h
 obtain ⟨w', h3, h4, h5⟩ := h1.drop kStr ht (keyS hs) ty
 refine ⟨w', h3, ⟨_, h4, fun t => ?_⟩, h5⟩
 by_cases e : t = s
 ·subst e
  dsimp only
  rw [if_pos rfl, atKey_del_same]
 ·dsimp only
  rw [if_neg e, atKey_del_other (fun e' => e (keyL_inj e'))]
  exact h2 t
end
theorem zeroP (w : World) : (zeroValue 79).run Tryz.prog w = .ok (.pointer none) w := by kernel_rfl
theorem zeroR (w : World) : (zeroValue 121).run Tryz.prog w = .ok (.slice none 0 0) w := by kernel_rfl
end Go.Proofs.YtcahijpbkjplmaaGreatDoor.G
namespace Go.Proofs.YtcahijpbkjplmaaGreatDoor.G
open Go.RowKit Go.Shelf Go.Maps Go.Lib Go.Proofs.YtcahijpbkjplmaaGreatDoor
theorem tk {P : Program} {ops : Array Oper} {Q : Exit → Act → World → Prop} {md : Region.Mode} {S : World → Prop} {oi : Oper} {fuel : Nat} {listed : Array Bool} {a : Act} {w : World} (i : Nat) (v : Value) (hS : S w)
  (hy : ∀ w, S w → (execOp a.eval oi).run P w = .ok (.value v) w) (h : wpAnyH P md ops Q S fuel (listed.setIfInBounds i true) (a.put oi.dst v) w)
  (hi : ops[i]? = some oi := by rfl) (hs : Region.noSelect ops = true := by kernel_rfl) (hf : Region.free md ops listed i = true := by decide +kernel) (hr : (Region.ready md ops listed).contains i = true := by decide +kernel)
  (hQ : ∀ c a w, Q (.panic c) (a.put oi.dst v) w → Q (.panic c) a w := by exact fun _ _ _ h => h) (hw : Region.wanted oi (yielded ops a.tmps) = true := by rfl) : wpAnyH P md ops Q S (fuel + 1) listed a w :=
 wpAnyH_take hi hs hf hr hQ (Or.inl ⟨hw, hy⟩) hS h
theorem sk {P : Program} {ops : Array Oper} {Q : Exit → Act → World → Prop} {md : Region.Mode} {S : World → Prop} {oi : Oper} {fuel : Nat} {listed : Array Bool} {a : Act} {w : World} (i : Nat) (hS : S w)
  (h : wpAnyH P md ops Q S fuel (listed.setIfInBounds i true) (a.put oi.dst undef) w)
  (hi : ops[i]? = some oi := by rfl) (hs : Region.noSelect ops = true := by kernel_rfl) (hf : Region.free md ops listed i = true := by decide +kernel) (hr : (Region.ready md ops listed).contains i = true := by decide +kernel)
  (hQ : ∀ c a w, Q (.panic c) (a.put oi.dst undef) w → Q (.panic c) a w := by exact fun _ _ _ h => h) (hw : Region.wanted oi (yielded ops a.tmps) = false := by rfl) : wpAnyH P md ops Q S (fuel + 1) listed a w :=
 wpAnyH_take hi hs hf hr hQ (Or.inr ⟨hw, rfl⟩) hS h
theorem PT : (∀ (xs : List Bool) (i : Nat) (h : i < xs.toArray.size), xs.toArray[i] = xs[i]'(by simpa using h)) ∧ (∀ (xs : List Value) (i : Nat) (h : i < xs.toArray.size), xs.toArray[i] = xs[i]'(by simpa using h)) ∧ (∀ (xs : List Oper) (i : Nat) (h : i < xs.toArray.size), xs.toArray[i] = xs[i]'(by simpa using h)) ∧
  (∀ (a : Act) (d : Tmp) (v : Value), a.put (some d) v = { a with tmps := a.tmps.setIfInBounds d v }) ∧ (∀ (a : Act) (v : Value), a.put none v = a) ∧
  (∀ (xs : List Bool) (i : Nat) (b : Bool), xs.toArray.setIfInBounds i b = (xs.set i b).toArray) ∧ (∀ (xs : List Value) (i : Nat) (b : Value), xs.toArray.setIfInBounds i b = (xs.set i b).toArray) ∧
  (∀ (x y : Bool) (xs : List Bool), (x :: xs).set 0 y = y :: xs) ∧ (∀ (x y : Value) (xs : List Value), (x :: xs).set 0 y = y :: xs) ∧ (∀ (x y : Bool) (xs : List Bool) (n : Nat), (x :: xs).set (n + 1) y = x :: xs.set n y) ∧ (∀ (x y : Value) (xs : List Value) (n : Nat), (x :: xs).set (n + 1) y = x :: xs.set n y) ∧
  (∀ (x : Value) (xs : List Value) (h : 0 < (x :: xs).length), (x :: xs)[0] = x) ∧ (∀ (x : Oper) (xs : List Oper) (h : 0 < (x :: xs).length), (x :: xs)[0] = x) ∧ (∀ (x : Value) (xs : List Value) (i : Nat) (h : i + 1 < (x :: xs).length), (x :: xs)[i + 1] = xs[i]'(by simpa using h)) ∧ (∀ (x : Oper) (xs : List Oper) (i : Nat) (h : i + 1 < (x :: xs).length), (x :: xs)[i + 1] = xs[i]'(by simpa using h)) :=
 ⟨fun _ _ _ => List.getElem_toArray .., fun _ _ _ => List.getElem_toArray .., fun _ _ _ => List.getElem_toArray .., fun _ _ _ => rfl, fun _ _ => rfl, fun _ _ _ => List.setIfInBounds_toArray .., fun _ _ _ => List.setIfInBounds_toArray .., fun _ _ _ => rfl, fun _ _ _ => rfl, fun _ _ _ _ => rfl, fun _ _ _ _ => rfl, fun _ _ _ => rfl, fun _ _ _ => rfl, fun _ _ _ _ => rfl, fun _ _ _ _ => rfl⟩
end Go.Proofs.YtcahijpbkjplmaaGreatDoor.G
namespace Go.Proofs.YtcahijpbkjplmaaGreatDoor.G
open Go.RowKit Go.Maps Go.Proofs.YtcahijpbkjplmaaGreatDoor
abbrev av (a : Addr) : Value := .pointer (some a)
abbrev pv (b : Nat) : Value := .pointer (some ⟨b, 0, none⟩)
structure OL where
 b : Nat
 pm : Nat
 im : Nat
 pb : List Nat
 fi : Nat → Value
def nd (b : Nat) (pb : List Nat) : Nat → Addr
 | 0 => ⟨b, 5, none⟩
 | j + 1 => match pb[j]? with
  | some x => ⟨x, 0, none⟩
  | none => ⟨b, 5, none⟩
def Vl.cs (v : Vl) : List Value := [.int .i64 v.k, .int .i64 v.n, .string v.s]
def Vl.v (v : Vl) : Value := .agg #[.int .i64 v.k, .int .i64 v.n, .string v.s]
def Pr.v' (p : Pr) : Value := .agg #[.string p.key, .int .i64 p.v.k, .int .i64 p.v.n, .string p.v.s, .bool p.w, .bool p.e, .bool p.f]
def propC (p : Pr) (ah bh : Value) : List Value := [.string p.key, .int .i64 p.v.k, .int .i64 p.v.n, .string p.v.s, .bool p.w, .bool p.e, .bool p.f, ah, bh]
def objC (i : Nat) (o : Ob) (pp : Value) (x : OL) : List Value :=
 [.int .i64 ((i : Int) + 1), .string o.cls, pp, .bool o.closed, .map (some x.pm), .string ⟨#[]⟩, .int .i64 0, .int .i64 0, .string ⟨#[]⟩, .bool false, .bool false, .bool false,
  av (nd x.b x.pb x.pb.length), av (nd x.b x.pb 1), .int .i64 (o.len : Int), .bool (!o.lw), .map (some x.im)]
def fnd (pb : List Nat) (ps : List Pr) (s : ByteArray) : Value := match ps.findIdx? (has s) with
 | some k => match pb[k]? with
  | some b => pv b
  | none => .pointer none
 | none => .pointer none
def sel (o : Ob) (pb : List Nat) (y : Nat) : List Nat := ((pb.zip o.ps).filter fun q => decide (o.ixA ix AR q.2.key = some y)).map (·.1)
structure ObjAt (w : World) (ow : Nat → Option Nat) (i n : Nat) (pp : Value) (x : OL) (o : Ob) : Prop where
 ob : Blk w x.b 84 (objC i o pp x)
 pl : x.pb.length = o.ps.length
 pr : ∀ j (h : j < x.pb.length) (h2 : j < o.ps.length), Blk w x.pb[j] 81 (propC o.ps[j] (av (nd x.b x.pb j)) (av (nd x.b x.pb (j + 2))))
 nod : x.pb.Nodup
 mp : MapS w x.pm n (.pointer none) (fnd x.pb o.ps)
 mi : ∃ ni, ni + o.ps.length ≤ 2 * n ∧ MapI w x.im ni (.slice none 0 0) x.fi
 rw : ∀ y, w.ownsRow 0 79 1 (x.fi y) (sel o x.pb y).length ((sel o x.pb y).map pv)
 ra : ∀ y g, (x.fi y).ownBlock = some g → ow g = some (i + 1) ∧ ∀ y', (x.fi y').ownBlock = some g → y' = y
 wb : ow x.b = some (i + 1)
 wm : ow x.pm = some (i + 1)
 wi : ow x.im = some (i + 1)
 wp : ∀ b ∈ x.pb, ow b = some (i + 1)
 mne : x.pm ≠ x.im
def ppv (L : List OL) : Option Nat → Value
 | none => .pointer none
 | some p => match L[p]? with
  | some x => pv x.b
  | none => .pointer none
structure PH (w : World) (A : Nat) (h : Hs) (ow : Nat → Option Nat) (L : List OL) : Prop where
 hb : ∃ ov, Blk w A 67 [.int .i64 (h.most : Int), .int .i64 (h.n : Int), ov] ∧ w.ownsRow 0 76 1 ov L.length (L.map fun x => pv x.b) ∧ ∀ g, ov.ownBlock = some g → ow g = some 0
 wA : ow A = some 0
 len : L.length = h.os.length
 ob : ∀ i (h1 : i < L.length) (h2 : i < h.os.length), ObjAt w ow i h.n (ppv L h.os[i].proto) L[i] h.os[i]
 lt : ∀ k, ow k ≠ none → k < w.heap.size
abbrev Ft (ow : Nat → Option Nat) (k : Nat) : Prop := ow k ≠ none
abbrev Aw (w : World) (ow : Nat → Option Nat) (k : Nat) : Prop := k < w.heap.size ∧ ow k = none
section
variable {w w' : World} {ow ow' : Nat → Option Nat} {i n A : Nat} {pp : Value} {x : OL} {o : Ob} {H : Hs} {L : List OL}
theorem ObjAt.blt (h : ObjAt w ow i n pp x o) : x.b < w.heap.size := h.ob.lt
theorem ObjAt.fr (h : ObjAt w ow i n pp x o) (hk : ∀ k, ow k = some (i + 1) → ow' k = some (i + 1) ∧ w'.heap[k]? = w.heap[k]?) {n' : Nat} (hn : n ≤ n') : ObjAt w' ow' i n' pp x o := by
 obtain ⟨h1, h2, h3, h4, h5, h6, h7, h8, h9, h10, h11, h12, h13⟩ := h
 obtain ⟨ni, h61, h62⟩ := h6
 refine ⟨h1.fr (hk _ h9).2, h2, fun j a b => (h3 j a b).fr (hk _ (h12 _ (List.getElem_mem a))).2, h4, (h5.fr (hk _ h10).2).mono hn, ⟨ni, by omega, h62.fr (hk _ h11).2⟩, fun y => row_same (h7 y) fun k e => (hk _ (h8 y k e).1).2,
  fun y g e => ⟨(hk _ (h8 y g e).1).1, (h8 y g e).2⟩, (hk _ h9).1, (hk _ h10).1, (hk _ h11).1, fun b hb => (hk _ (h12 b hb)).1, h13⟩
theorem PH.fr (h : PH w A H ow L) (hf : ∀ k, ow k ≠ none → w'.heap[k]? = w.heap[k]?) (hs : w.heap.size ≤ w'.heap.size) : PH w' A H ow L := by
 obtain ⟨⟨ov, h1, h2, h3⟩, h4, h5, h6, h7⟩ := h
 exact ⟨⟨ov, h1.fr (hf _ (by rw [h4]; simp)), row_same h2 fun k e => hf _ (by rw [h3 k e]; simp), h3⟩, h4, h5, fun i a b => (h6 i a b).fr (fun k e => ⟨e, hf _ (by rw [e]; simp)⟩) (Nat.le_refl _), fun k hk => Nat.lt_of_lt_of_le (h7 k hk) hs⟩
theorem PH.low (h : PH w A H ow L) (hb : Below w.heap.size w w') : PH w' A H ow L := h.fr (fun k hk => hb.block k (h.lt k hk)) hb.size
theorem PH.keep {F : Nat → Prop} (h : PH w A H ow L) (hf : Fr F w w') (hF : ∀ k, ow k ≠ none → F k) : PH w' A H ow L := h.fr (fun k hk => hf.block k (hF k hk)) hf.size
theorem nd_of {b : Nat} {pb : List Nat} {j : Nat} (h : j < pb.length) : nd b pb (j + 1) = ⟨pb[j], 0, none⟩ := by
 rw [nd, List.getElem?_eq_getElem h]
theorem nd_end {b : Nat} {pb : List Nat} {j : Nat} (h : pb.length ≤ j) : nd b pb (j + 1) = ⟨b, 5, none⟩ := by
 rw [nd, List.getElem?_eq_none h]
theorem ppv_set {L : List OL} {i : Nat} {x : OL} {p : Option Nat} (h : ∀ (hi : i < L.length), x.b = L[i].b) : ppv (L.set i x) p = ppv L p := by
 cases p with
 | none => rfl
 | some p =>
  simp only [ppv, List.getElem?_set]
  by_cases e : i = p
  ·subst e
   rw [if_pos rfl]
   by_cases hi : i < L.length
   ·rw [if_pos hi, List.getElem?_eq_getElem hi]
    simp only [h hi]
   ·rw [if_neg hi, List.getElem?_eq_none (by omega)]
  ·rw [if_neg e]
theorem PH.upd (h : PH w A H ow L) {i : Nat} (hi : i < L.length) {x : OL} (hx : x.b = L[i].b) {o o' : Ob} (ho : H.os[i]? = some o) (hp : o'.proto = o.proto)
  (ha : ObjAt w' ow' i H.n (ppv L o.proto) x o') (hk : ∀ k r, ow k = some r → r ≠ i + 1 → ow' k = some r ∧ w'.heap[k]? = w.heap[k]?) (hlt : ∀ k, ow' k ≠ none → k < w'.heap.size) : PH w' A (H.set i o') ow' (L.set i x) := by
 obtain ⟨⟨ov, h1, h2, h3⟩, h4, h5, h6, h7⟩ := h
 have hmap : (L.set i x).map (fun y => pv y.b) = L.map (fun y => pv y.b) := by
  rw [List.map_set]
  exact set_id (by rw [List.getElem?_map, List.getElem?_eq_getElem hi, Option.map_some, hx])
 have hil : i < H.os.length := by omega
 have hoi : H.os[i] = o := by rw [List.getElem?_eq_getElem hil] at ho; exact Option.some.inj ho
 refine ⟨⟨ov, h1.fr (hk _ _ h4 (by omega)).2, ?_, fun g e => (hk _ _ (h3 g e) (by omega)).1⟩, (hk _ _ h4 (by omega)).1, by simp [Hs.set, h5], fun j a b => ?_, hlt⟩
 ·rw [hmap, List.length_set]
  exact row_same h2 fun k e => (hk _ _ (h3 k e) (by omega)).2
 ·have hb : j < H.os.length := by simpa [Hs.set] using b
  have ha' : j < L.length := by simpa using a
  show ObjAt w' ow' j H.n (ppv (L.set i x) ((H.os.set i o')[j]'(by simpa [Hs.set] using b)).proto) (L.set i x)[j] ((H.os.set i o')[j]'(by simpa [Hs.set] using b))
  rw [ppv_set (fun _ => hx)]
  by_cases e : i = j
  ·subst e
   simp only [List.getElem_set_self]
   rw [hp]
   exact ha
  ·rw [List.getElem_set_ne e, List.getElem_set_ne e]
   exact (h6 j ha' hb).fr (fun k hk' => hk k _ hk' (by omega)) (Nat.le_refl _)
theorem PH.at' (h : PH w A H ow L) {v : Vl} {i : Nat} (e : H.at v = some i) : ∃ (h1 : i < L.length) (h2 : i < H.os.length), ObjAt w ow i H.n (ppv L H.os[i].proto) L[i] H.os[i] := by
 have hi := at_lt e
 exact ⟨by rw [h.len]; exact hi, hi, h.ob i (by rw [h.len]; exact hi) hi⟩
end
end Go.Proofs.YtcahijpbkjplmaaGreatDoor.G
