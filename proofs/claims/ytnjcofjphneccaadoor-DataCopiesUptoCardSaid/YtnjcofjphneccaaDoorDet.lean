/-
  detached, by contract.
-/
import Derived.Test.YtnjcofjphneccaaDoorFresh
import Derived.Test.YtnjcofjphneccaaDoorTwo
import Derived.Test.YtnjcofjphneccaaDoorShelf
import Derived.Deep.LoopGhost
namespace Go.Proofs.YtnjcofjphneccaaDoor
open Go.RowKit

theorem infoStr : (Tryd.prog.info? 9).map (fun i => (i.zero, i.size, i.bytes)) = some (some (.string ⟨#[]⟩), 1, 16) := by kernel_rfl
theorem infoData : (Tryd.prog.info? 25).map (fun i => (i.zero, i.size, i.bytes)) = some (some (.agg #[.int .i64 0, .int .i64 0, .string ⟨#[]⟩, .slice none 0 0, .slice none 0 0]), 5, 80) := by kernel_rfl

def flat5 (ys : List X) : List Value := ys.flatMap fun y => y.cells.toList
theorem flat5_len (ys : List X) : (flat5 ys).length = ys.length * 5 := by
  unfold flat5
  induction ys with
  | nil => rfl
  | cons y r ih =>
    rw [List.flatMap_cons, List.length_append, ih, List.length_cons]
    show 5 + _ = _
    omega
theorem flat5_at : ∀ (ys : List X) (i r : Nat) (hi : i < ys.length), r < 5 → (flat5 ys)[i * 5 + r]? = ys[i].cells.toList[r]?
  | [], i, r, hi, _ => by simp at hi
  | y :: t, 0, r, _, hr => by
    unfold flat5
    rw [List.flatMap_cons, List.getElem?_append_left (by simp [X.cells]; omega)]
    simp
  | y :: t, i + 1, r, hi, hr => by
    have := flat5_at t i r (by simpa using hi) hr
    unfold flat5 at *
    rw [List.flatMap_cons, List.getElem?_append_right (by simp [X.cells]; omega)]
    simp only [List.getElem_cons_succ]
    rw [← this]
    congr 1
    simp [X.cells]
    omega
theorem at_cells {w : World} {g o : Nat} {y : X} : At w g o y ↔ ∀ r u, y.cells.toList[r]? = some u → w.cell? ⟨g, o + r, none⟩ = some u := by
  constructor
  · rintro ⟨c0, c1, c2, c3, c4⟩ r u h
    rcases r with _ | _ | _ | _ | _ | r
    · simp [X.cells] at h; subst h; exact c0
    · simp [X.cells] at h; subst h; exact c1
    · simp [X.cells] at h; subst h; exact c2
    · simp [X.cells] at h; subst h; exact c3
    · simp [X.cells] at h; subst h; exact c4
    · simp [X.cells] at h
  · intro h
    exact ⟨h 0 _ rfl, h 1 _ rfl, h 2 _ rfl, h 3 _ rfl, h 4 _ rfl⟩
theorem addr_add (g o j : Nat) : (⟨g, o, none⟩ : Addr).add j = ⟨g, o + j, none⟩ := by unfold Addr.add; split <;> simp_all
theorem flat5_row {w : World} {g o : Nat} {ys : List X} : (∀ i (h : i < ys.length), At w g (o + i * 5) ys[i]) ↔ ∀ j u, (flat5 ys)[j]? = some u → w.cell? ⟨g, o + j, none⟩ = some u := by
  constructor
  · intro h j u hu
    have hj : j < (flat5 ys).length := (List.getElem?_eq_some_iff.1 hu).1
    rw [flat5_len] at hj
    have hi : j / 5 < ys.length := by omega
    have := flat5_at ys (j / 5) (j % 5) hi (by omega)
    rw [show j / 5 * 5 + j % 5 = j by omega] at this
    rw [this] at hu
    have := at_cells.1 (h (j / 5) hi) _ _ hu
    rw [show o + j / 5 * 5 + j % 5 = o + j by omega] at this
    exact this
  · intro h i hi
    refine at_cells.2 fun r u hu => ?_
    have hr : r < 5 := by
      have := (List.getElem?_eq_some_iff.1 hu).1
      simpa [X.cells] using this
    have := h (i * 5 + r) u (by rw [flat5_at ys i r hi hr]; exact hu)
    rw [show o + (i * 5 + r) = o + i * 5 + r by omega] at this
    exact this
theorem flat5_one {ys : List X} : ∀ u ∈ flat5 ys, u.oneCell' = true := by
  intro u hu
  unfold flat5 at hu
  obtain ⟨y, _, h⟩ := List.mem_flatMap.1 hu
  simp [X.cells] at h
  rcases h with rfl | rfl | rfl | rfl | rfl <;> rfl

def KeysNew (w w' : World) (A : Option Addr) (ks : List ByteArray) : Prop :=
  (ks = [] ∧ A = none) ∨ ∃ n cur, A = some ⟨n, 0, none⟩ ∧ w.heap.size ≤ n ∧ n < w'.heap.size ∧ w'.heap[n]? = some (.cells cur 9 (0, 0)) ∧ ∀ j (h : j < ks.length), w'.cell? ⟨n, j, none⟩ = some (.string ks[j])
def ListNew (w w' : World) (A : Option Addr) (l : List V) (ys : List X) : Prop :=
  (l = [] ∧ A = none) ∨ l ≠ [] ∧ ∃ n cur, A = some ⟨n, 0, none⟩ ∧ w.heap.size ≤ n ∧ n < w'.heap.size ∧ w'.heap[n]? = some (.cells cur 25 (0, 0)) ∧ ∀ i (h : i < ys.length), At w' n (i * 5) ys[i]

theorem clone_any (s : ByteArray) (w : World) (h : s.size ≤ 4194304) : Calls Tryd.prog 50 #[.string s] w fun e w' => e = .returned (.string s) ∧ Below w.heap.size w w' := by
  have HC := Lib.hid (Tryd.stringslite_Clone s w (by omega))
  go_enter Tryd.func50, Tryd.ntmps50
  go_wp2_with fail
  refine HC.out.mono ?_
  rintro e w' ⟨rfl, hb⟩
  go_wp2_with fail
  go_ret
  exact ⟨rfl, hb⟩
theorem hp_row_set {w : World} {b i : Nat} {cs : Array Value} {t : TypeId} {fr : Nat × Nat} (h : w.heap[b]? = some (.cells cs t fr)) (u : Value) : (w.setCell ⟨b, i, none⟩ u).heap[b]? = some (.cells (cs.setIfInBounds i u) t fr) := by
  simp only [World.setCell, Array.getElem?_modify, if_true, h, Option.map_some]
  rfl

theorem Fresh.keys {w w' : World} {A : Option Addr} {c : Nat} {ks : List ByteArray} (h : Fresh w w' 9 A ks.length c (ks.map Value.string)) : KeysNew w w' A ks := by
  rcases h with ⟨h1, h2, _⟩ | ⟨_, n, cur, h1, h2, h3, _, h5, h6⟩
  · exact .inl ⟨List.eq_nil_of_length_eq_zero h1, h2⟩
  · exact .inr ⟨n, cur, h1, h2, h3, h5, fun j hj => h6 j _ (by rw [List.getElem?_map, List.getElem?_eq_getElem hj]; rfl)⟩
theorem Fresh.list {w w' : World} {A : Option Addr} {c : Nat} {l : List V} {ys : List X} (h : Fresh w w' 25 A l.length c (flat5 ys)) : ListNew w w' A l ys := by
  rcases h with ⟨h1, h2, _⟩ | ⟨h0, n, cur, h1, h2, h3, _, h5, h6⟩
  · exact .inl ⟨List.eq_nil_of_length_eq_zero h1, h2⟩
  · refine .inr ⟨fun e => by subst e; simp at h0, n, cur, h1, h2, h3, h5, fun i hi => ?_⟩
    have := (flat5_row (w := w') (g := n) (o := 0) (ys := ys)).2 (fun j u hu => by rw [Nat.zero_add]; exact h6 j u hu) i hi
    rw [Nat.zero_add] at this
    exact this
theorem KeysNew.to {w0 w w' : World} {A : Option Addr} {ks : List ByteArray} (h : KeysNew w0 w A ks) (hb : Below w.heap.size w w') : KeysNew w0 w' A ks := by
  rcases h with h | ⟨n, cur, h1, h2, h3, h5, h6⟩
  · exact .inl h
  · exact .inr ⟨n, cur, h1, h2, Nat.lt_of_lt_of_le h3 hb.size, (hb.block n h3).trans h5, fun j hj => (hb.cell (p := ⟨n, j, none⟩) h3).trans (h6 j hj)⟩
theorem KeysNew.of {w0 w1 w : World} {A : Option Addr} {ks : List ByteArray} (h : KeysNew w1 w A ks) (hs : w0.heap.size ≤ w1.heap.size) : KeysNew w0 w A ks := by
  rcases h with h | ⟨n, cur, h1, h2, h3⟩
  · exact .inl h
  · exact .inr ⟨n, cur, h1, Nat.le_trans hs h2, h3⟩
theorem ListNew.of {w0 w1 w : World} {A : Option Addr} {l : List V} {ys : List X} (h : ListNew w1 w A l ys) (hs : w0.heap.size ≤ w1.heap.size) : ListNew w0 w A l ys := by
  rcases h with h | ⟨h0, n, cur, h1, h2, h3⟩
  · exact .inl h
  · exact .inr ⟨h0, n, cur, h1, Nat.le_trans hs h2, h3⟩
/-- a write of what is there -/
theorem KeysNew.put {w0 w : World} {A : Option Addr} {ks : List ByteArray} {n j : Nat} (h : KeysNew w0 w A ks) (hA : A = some ⟨n, 0, none⟩) (hj : j < ks.length) : KeysNew w0 (w.setCell ⟨n, j, none⟩ (.string ks[j])) A ks := by
  rcases h with ⟨h, _⟩ | ⟨m, cur, h1, h2, h3, h5, h6⟩
  · subst h
    simp at hj
  · rw [hA] at h1
    have hm : m = n := by simpa using h1.symm
    subst hm
    refine .inr ⟨m, _, hA, h2, by simpa [World.setCell] using h3, hp_row_set h5 _, fun i hi => ?_⟩
    by_cases e : i = j
    · subst e
      exact World.cell?_setCell_same _ _ _ (h6 i hi)
    · rw [World.cell?_setCell_other (h := fun h => e (by injection h with _ h _; exact h.symm))]
      exact h6 i hi
theorem KeysNew.fr {w1 w w' : World} {A : Option Addr} {ks : List ByteArray} (h : KeysNew w1 w A ks) (hb : Fr (fun k => w1.heap.size ≤ k) w w') : KeysNew w1 w' A ks := by
  rcases h with h | ⟨n, cur, h1, h2, h3, h5, h6⟩
  · exact .inl h
  · exact .inr ⟨n, cur, h1, h2, Nat.lt_of_lt_of_le h3 hb.size, (hb.block n h2).trans h5, fun j hj => (hb.cell (p := ⟨n, j, none⟩) h2).trans (h6 j hj)⟩
theorem ListNew.fr {w1 w w' : World} {A : Option Addr} {l : List V} {ys : List X} (h : ListNew w1 w A l ys) (hb : Fr (fun k => w1.heap.size ≤ k) w w') : ListNew w1 w' A l ys := by
  rcases h with h | ⟨h0, n, cur, h1, h2, h3, h5, h6⟩
  · exact .inl h
  · exact .inr ⟨h0, n, cur, h1, h2, Nat.lt_of_lt_of_le h3 hb.size, (hb.block n h2).trans h5, fun i hi => (h6 i hi).fr h2 hb⟩
/-- the call's own two blocks -/
def Two5 (b0 : Nat) (cs : Array Value) (w : World) : Prop := w.heap[b0]? = some (.cells cs 25 (0, 0)) ∧ w.heap[b0 + 1]? = some (.cells #[.int .i64 0, .int .i64 0, .string ⟨#[]⟩, .slice none 0 0, .slice none 0 0] 25 (0, 0))
theorem Two5.below {b0 : Nat} {cs : Array Value} {w w' : World} (h : Two5 b0 cs w) (hb : Below w.heap.size w w') : Two5 b0 cs w' :=
  ⟨(hb.block _ (Array.getElem?_eq_some_iff.1 h.1).1).trans h.1, (hb.block _ (Array.getElem?_eq_some_iff.1 h.2).1).trans h.2⟩
theorem Two5.put {b0 i : Nat} {cs : Array Value} {w : World} (h : Two5 b0 cs w) (u : Value) : Two5 b0 (cs.setIfInBounds i u) (w.setCell ⟨b0, i, none⟩ u) :=
  ⟨hp_row_set h.1 u, hp_set h.2 (by show b0 ≠ b0 + 1; omega)⟩
theorem Two5.far {b0 : Nat} {cs : Array Value} {w : World} {p : Addr} (h : Two5 b0 cs w) (u : Value) (h1 : p.block ≠ b0) (h2 : p.block ≠ b0 + 1) : Two5 b0 cs (w.setCell p u) :=
  ⟨hp_set h.1 h1, hp_set h.2 h2⟩
theorem Two5.cell {b0 i : Nat} {cs : Array Value} {w : World} (h : Two5 b0 cs w) : w.cell? ⟨b0, i, none⟩ = cs[i]? := cell_of_row w b0 i _ _ _ h.1
theorem Two5.free {b0 i : Nat} {cs : Array Value} {w : World} (h : Two5 b0 cs w) : w.frozen? ⟨b0, i, none⟩ = false := by simp [World.frozen?, h.1]
theorem Two5.cell1 {b0 i : Nat} {cs : Array Value} {w : World} (h : Two5 b0 cs w) : w.cell? ⟨b0 + 1, i, none⟩ = (#[.int .i64 0, .int .i64 0, .string ⟨#[]⟩, .slice none 0 0, .slice none 0 0] : Array Value)[i]? := cell_of_row w (b0 + 1) i _ _ _ h.2
theorem Two5.free1 {b0 i : Nat} {cs : Array Value} {w : World} (h : Two5 b0 cs w) : w.frozen? ⟨b0 + 1, i, none⟩ = false := by simp [World.frozen?, h.2]
theorem Two5.lt {b0 : Nat} {cs : Array Value} {w : World} (h : Two5 b0 cs w) : b0 + 1 < w.heap.size := (Array.getElem?_eq_some_iff.1 h.2).1

set_option maxRecDepth 8000 in
set_option maxHeartbeats 1000000 in
theorem detached_any (v : V) (x : X) (ys : List X) (w : World) (h : Is w v x) (hy : ys.length = v.l.length) (hrow : v.l = [] ∨ ∃ g o, x.la = some ⟨g, o, none⟩ ∧ g < w.heap.size ∧ ∀ i (h : i < ys.length), At w g (o + i * 5) ys[i]) (hbk : v.bulk ≤ 4194304) :
    Calls Tryd.prog 37 #[x.v] w fun e w' => ∃ ka kc la lc, e = .returned (X.mk v.k v.n v.s ka v.ks.length kc la v.l.length lc).v ∧ v.ks.length ≤ kc ∧ v.l.length ≤ lc ∧ KeysNew w w' ka v.ks ∧ ListNew w w' la v.l ys ∧ Below w.heap.size w w' := by
  obtain ⟨i1, hi1, hz1, hs1, hb1⟩ := info_parts infoStr
  obtain ⟨i5, hi5, hz5, hs5, hb5⟩ := info_parts infoData
  obtain ⟨ka, kc, la, lc, rfl, h1, h2, h3, h4⟩ := h.open
  obtain ⟨k, n, s, ks, l⟩ := v
  simp only [V.k, V.n, V.s, V.ks, V.l, X.v] at *
  simp only [V.bulk] at hbk
  have hsl : s.size ≤ 4194304 := by omega
  have hkb : keysBulk ks ≤ 4194304 := by omega
  have hlb := length_le_bulks l
  have hln : l.length ≤ 4194304 := by omega
  have hkn : ks.length ≤ 4194304 := Nat.le_trans (length_le_keysBulk ks) hkb
  have HC := Lib.hid fun w' => clone_any s w' hsl
  go_enter Tryd.func37, Tryd.ntmps37
  go_wp2_with fail
  refine (HC.out _).mono ?_
  rintro e w1 ⟨rfl, hb1'⟩
  obtain ⟨b0, hb0⟩ : ∃ b0, b0 = w.heap.size := ⟨_, rfl⟩
  have hZ : Hid (Below b0 w w1) := by
    subst hb0
    exact ((below_alloc w _).trans ((below_alloc _ _).mono (by simp))).trans (hb1'.mono (by simp; omega))
  have hT : Two5 b0 #[.int .i64 k, .int .i64 n, .string s, .slice ka ks.length kc, .slice la l.length lc] w1 := by
    subst hb0
    refine ⟨?_, ?_⟩
    · rw [hb1'.block _ (by simp; omega)]
      exact hp_alloc (hp_new rfl)
    · rw [hb1'.block _ (by simp)]
      exact hp_new (by simp)
  rw [← hb0]
  have HBE := Lib.hid hb0
  have hsz1 : Hid (w.heap.size ≤ w1.heap.size) := by have := hT.lt; refine Lib.hid ?_; omega
  clear hb1' hb0
  have c0 : w1.cell? ⟨b0, 0, none⟩ = some (.int .i64 k) := hT.cell
  have c1 : w1.cell? ⟨b0, 1, none⟩ = some (.int .i64 n) := hT.cell
  have c2 : w1.cell? ⟨b0, 2, none⟩ = some (.string s) := hT.cell
  have c3 : w1.cell? ⟨b0, 3, none⟩ = some (.slice ka ks.length kc) := hT.cell
  have c4 : w1.cell? ⟨b0, 4, none⟩ = some (.slice la l.length lc) := hT.cell
  have f0 : w1.frozen? ⟨b0, 2, none⟩ = false := hT.free
  have HT1 : Hid (Two5 b0 #[.int .i64 k, .int .i64 n, .string s, .slice ka ks.length kc, .slice la l.length lc] (w1.setCell ⟨b0, 2, none⟩ (.string s))) := Lib.hid (hT.put (i := 2) (.string s))
  have hlt1 := Lib.hid hT.lt
  clear hT
  have hstr : Hid (ks.length = 0 ∨ ∃ ad, ka = some ad ∧ ∀ j u, (ks.map Value.string)[j]? = some u → (w1.setCell ⟨b0, 2, none⟩ (.string s)).cell? (ad.add j) = some u) := by
    rcases h3 with h3 | ⟨g, o, rfl, hg, hk⟩
    · exact .inl (by rw [h3]; rfl)
    · refine .inr ⟨_, rfl, fun j u hu => ?_⟩
      rw [addr_add]
      rw [List.getElem?_map] at hu
      obtain ⟨key, hkey, rfl⟩ := Option.map_eq_some_iff.1 hu
      obtain ⟨hj, rfl⟩ := List.getElem?_eq_some_iff.1 hkey
      rw [World.cell?_setCell_far _ _ _ _ (by have := HBE.out; show b0 ≠ g; omega)]
      exact (hZ.out.cell (p := ⟨g, o + j, none⟩) (by have := HBE.out; show g < b0; omega)).trans (hk j hj)
  go_wp2_with (at_builtin; refine wpList_fresh rfl _ _ 22 (by rfl) 9 i1 _ 1 16 Tryd.underlying22 hi1 hz1 hs1 hb1 rfl (by decide) (by rfl) ka ks.length kc (by rfl) (ks.map Value.string) ?c1 hstr.out ?c2 hkn (by decide) ?_)
  case c1 => simp
  case c2 => simp [Value.oneCell']
  intro kA kC w2 hb2 hfr
  have hb2' : Below (w1.setCell ⟨b0, 2, none⟩ (.string s)).heap.size (w1.setCell ⟨b0, 2, none⟩ (.string s)) w2 := by simpa [World.setCell] using hb2
  have hT2 := HT1.out.below hb2'
  have HK2 := Lib.hid hfr.out.keys
  have HKC := Lib.hid hfr.out.lt
  have HZ2 : Hid (Below b0 w w2) := (hZ.out.setCell (p := ⟨b0, 2, none⟩) (Nat.le_refl _) _).trans (hb2'.mono (by have := hlt1.out; simp [World.setCell]; omega))
  have hs2 : Hid (w1.heap.size ≤ w2.heap.size) := by have := hb2'.size; refine Lib.hid ?_; simpa [World.setCell] using this
  clear hb2 hb2' HT1 hfr c0 c1 c2 c3 c4 f0 hstr
  have c3 : w2.cell? ⟨b0, 3, none⟩ = some (.slice ka ks.length kc) := hT2.cell
  have f0 : w2.frozen? ⟨b0, 3, none⟩ = false := hT2.free
  have HT3 : Hid (Two5 b0 #[.int .i64 k, .int .i64 n, .string s, .slice kA ks.length kC, .slice la l.length lc] (w2.setCell ⟨b0, 3, none⟩ (.slice kA ks.length kC))) := Lib.hid (hT2.put (i := 3) (.slice kA ks.length kC))
  have HK3 : Hid (KeysNew w1 (w2.setCell ⟨b0, 3, none⟩ (.slice kA ks.length kC)) kA ks) := by
    refine KeysNew.of (w1 := w1.setCell ⟨b0, 2, none⟩ (.string s)) ?_ (by simp [World.setCell])
    rcases HK2.out with h | ⟨nn, cur, e1, e2, e3, e4, e5⟩
    · exact .inl h
    · have : nn ≠ b0 := by have := hlt1.out; simp [World.setCell] at e2; omega
      exact .inr ⟨nn, cur, e1, e2, by simpa [World.setCell] using e3, hp_set e4 (Ne.symm this), fun j hj => by
        rw [World.cell?_setCell_far _ _ _ _ (Ne.symm this)]
        exact e5 j hj⟩
  have HZ3 := Lib.hid (HZ2.out.setCell (p := ⟨b0, 3, none⟩) (Nat.le_refl _) (.slice kA ks.length kC))
  have hc3 : (w2.setCell ⟨b0, 3, none⟩ (.slice kA ks.length kC)).cell? ⟨b0, 3, none⟩ = some (.slice kA ks.length kC) := HT3.out.cell
  have hs3 : Hid (w1.heap.size ≤ (w2.setCell ⟨b0, 3, none⟩ (.slice kA ks.length kC)).heap.size) := by have := hs2.out; refine Lib.hid ?_; simpa [World.setCell] using this
  clear hT2 HK2 HZ2 hs2
  go_wp2_with fail
  generalize w2.setCell ⟨b0, 3, none⟩ (.slice kA ks.length kC) = w3 at *
  clear c3 f0 hc3
  have HCC := Lib.hid fun key w' (hm : key ∈ ks) => clone_any key w' (Nat.le_trans (key_le_keysBulk hm) hkb)
  go_loopw [16] (fun i wr => ∃ j : Nat, j ≤ ks.length ∧ i = .int .i64 j ∧ Hid (Below b0 w wr) ∧ Hid (Two5 b0 #[.int .i64 k, .int .i64 n, .string s, .slice kA ks.length kC, .slice la l.length lc] wr) ∧ Hid (KeysNew w1 wr kA ks) ∧ Hid (w1.heap.size ≤ wr.heap.size))
    (fun i _ => ks.length - (intOf i).toNat)
  case atStart => exact ⟨0, Nat.zero_le _, rfl, HZ3, HT3, HK3, hs3⟩
  case round =>
    obtain ⟨j, hj, rfl, HZr, HTr, HKr, hsr⟩ := hrel
    by_cases hlt : j < ks.length
    · obtain ⟨m, hA, hm1, hm2, hmf, hmk⟩ : ∃ m, kA = some ⟨m, 0, none⟩ ∧ b0 + 1 < m ∧ m < wr.heap.size ∧ (∃ cur, wr.heap[m]? = some (.cells cur 9 (0, 0))) ∧ wr.cell? ⟨m, j, none⟩ = some (.string ks[j]) := by
        rcases HKr.out with ⟨h, _⟩ | ⟨m, cur, e1, e2, e3, e4, e5⟩
        · subst h
          simp at hlt
        · exact ⟨m, e1, by have := hlt1.out; omega, e3, ⟨cur, e4⟩, e5 j hlt⟩
      obtain ⟨cur, hcur⟩ := hmf
      have hfz : wr.frozen? ⟨m, j, none⟩ = false := by simp [World.frozen?, hcur]
      have hmem : ks[j] ∈ ks := List.getElem_mem hlt
      have HPUT : Hid (∀ w', KeysNew w1 w' kA ks → KeysNew w1 (w'.setCell ⟨m, j, none⟩ (.string ks[j])) kA ks) := fun w' h => h.put hA hlt
      have HCj := Lib.hid fun w' => HCC.out ks[j] w' hmem
      have c3 : wr.cell? ⟨b0, 3, none⟩ = some (.slice kA ks.length kC) := HTr.out.cell
      subst hA
      have hb0 : b0 < wr.heap.size := by omega
      generalize ks[j] = key at *
      clear hmem hcur
      go_wp2_with fail
      go_region_held3 (fun w' => w'.cell? ⟨b0, 3, none⟩ = some (.slice (some ⟨m, 0, none⟩) ks.length kC)) (first | go_keep | exact (World.cell?_setCell_far _ _ _ _ (by show m ≠ b0; omega)).trans d3)
        ((first
          | (go_at_call 50; refine (HCj.out _).mono ?_; rintro e wq ⟨rfl, hbq⟩; have d3 := (hbq.cell (p := ⟨b0, 3, none⟩) hb0).trans c3; have dm := (hbq.cell (p := ⟨m, j, none⟩) hm2).trans hmk; have dz := (hbq.frozen (p := ⟨m, j, none⟩) hm2).trans hfz)))
      have HZq := Lib.hid ((HZr.out.drew.trans (hbq.mono (Nat.le_of_lt hb0))).setCell (p := ⟨m, j, none⟩) (by show b0 ≤ m; omega) (.string key))
      have HTq : Hid (Two5 b0 #[.int .i64 k, .int .i64 n, .string s, .slice (some ⟨m, 0, none⟩) ks.length kC, .slice la l.length lc] (wq.setCell ⟨m, j, none⟩ (.string key))) :=
        (Two5.below (w := wr.drew) HTr.out hbq).far _ (by show m ≠ b0; omega) (by show m ≠ b0 + 1; omega)
      have HKq : Hid (KeysNew w1 (wq.setCell ⟨m, j, none⟩ (.string key)) (some ⟨m, 0, none⟩) ks) := HPUT.out _ (KeysNew.to (w := wr.drew) HKr.out hbq)
      have hsq : Hid (w1.heap.size ≤ (wq.setCell ⟨m, j, none⟩ (.string key)).heap.size) := by
        have h1 := hbq.size
        have h2 := hsr.out
        refine Lib.hid ?_
        simp [World.setCell] at h1 ⊢
        omega
      clear d3 dm dz c3 hmk hfz hbq HPUT HCj HZr HTr HKr hsr
      go_wp2_with fail
      go_roundw
      case rel => exact ⟨j + 1, by omega, by go_num, HZq, HTq, HKq, hsq⟩
      case measure => simp [intOf]; omega
    · obtain rfl : j = ks.length := by omega
      have c4 : wr.cell? ⟨b0, 4, none⟩ = some (.slice la l.length lc) := HTr.out.cell
      have hls : Hid (l.length = 0 ∨ ∃ ad, la = some ad ∧ ∀ j u, (flat5 ys)[j]? = some u → wr.cell? (ad.add j) = some u) := by
        rcases hrow with h | ⟨g, o, rfl, hg, h⟩
        · exact .inl (by rw [h]; rfl)
        · refine .inr ⟨_, rfl, fun j u hu => ?_⟩
          rw [addr_add]
          exact (HZr.out.cell (p := ⟨g, o + j, none⟩) (by have := HBE.out; show g < b0; omega)).trans (flat5_row.1 h j u hu)
      go_wp2_with (at_builtin; refine wpList_fresh rfl _ _ 23 (by rfl) 25 i5 _ 5 80 Tryd.underlying23 hi5 hz5 hs5 hb5 rfl (by decide) (by rfl) la l.length lc (by rfl) (flat5 ys) ?c1 hls.out flat5_one hln (by decide) ?_)
      case c1 => rw [flat5_len, hy]
      intro lA lC w4 hb4 hfr
      have HT4 := HTr.out.below hb4
      have f4 : w4.frozen? ⟨b0, 4, none⟩ = false := HT4.free
      have g4 : w4.cell? ⟨b0, 4, none⟩ = some (.slice la l.length lc) := HT4.cell
      have HT5 : Two5 b0 #[.int .i64 k, .int .i64 n, .string s, .slice kA ks.length kC, .slice lA l.length lC] (w4.setCell ⟨b0, 4, none⟩ (.slice lA l.length lC)) := HT4.put (i := 4) (.slice lA l.length lC)
      have HKf := Lib.hid (KeysNew.fr (HKr.out.to hb4) ((Fr.refl _ w4).setCell (p := ⟨b0, 4, none⟩) (by have := hlt1.out; show ¬ w1.heap.size ≤ b0; omega) (.slice lA l.length lC)))
      have HLf := Lib.hid (ListNew.fr (ListNew.of (w0 := w1) hfr.out.list hsr.out) ((Fr.refl _ w4).setCell (p := ⟨b0, 4, none⟩) (by have := hlt1.out; show ¬ w1.heap.size ≤ b0; omega) (.slice lA l.length lC)))
      have HLC := Lib.hid hfr.out.lt
      have HZf := Lib.hid ((HZr.out.trans (hb4.mono (by have := hlt1.out; have := hsr.out; omega))).setCell (p := ⟨b0, 4, none⟩) (Nat.le_refl _) (.slice lA l.length lC))
      have d0 : w4.cell? ⟨b0, 0, none⟩ = some (.int .i64 k) := HT4.cell
      have d1 : w4.cell? ⟨b0, 1, none⟩ = some (.int .i64 n) := HT4.cell
      have d2 : w4.cell? ⟨b0, 2, none⟩ = some (.string s) := HT4.cell
      have d3 : w4.cell? ⟨b0, 3, none⟩ = some (.slice kA ks.length kC) := HT4.cell
      have e0 : w4.cell? ⟨b0 + 1, 0, none⟩ = some (.int .i64 0) := HT4.cell1
      have e1 : w4.cell? ⟨b0 + 1, 1, none⟩ = some (.int .i64 0) := HT4.cell1
      have e2 : w4.cell? ⟨b0 + 1, 2, none⟩ = some (.string ⟨#[]⟩) := HT4.cell1
      have e3 : w4.cell? ⟨b0 + 1, 3, none⟩ = some (.slice none 0 0) := HT4.cell1
      have e4 : w4.cell? ⟨b0 + 1, 4, none⟩ = some (.slice none 0 0) := HT4.cell1
      have q0 : w4.frozen? ⟨b0 + 1, 0, none⟩ = false := HT4.free1
      have q1 : w4.frozen? ⟨b0 + 1, 1, none⟩ = false := HT4.free1
      have q2 : w4.frozen? ⟨b0 + 1, 2, none⟩ = false := HT4.free1
      have q3 : w4.frozen? ⟨b0 + 1, 3, none⟩ = false := HT4.free1
      have q4 : w4.frozen? ⟨b0 + 1, 4, none⟩ = false := HT4.free1
      have HEND : Hid (KeysNew w1 (w4.setCell ⟨b0, 4, none⟩ (.slice lA l.length lC)) kA ks ∧ ListNew w1 (w4.setCell ⟨b0, 4, none⟩ (.slice lA l.length lC)) lA l ys ∧ Below b0 w (w4.setCell ⟨b0, 4, none⟩ (.slice lA l.length lC)) ∧ ks.length ≤ kC ∧ l.length ≤ lC) := ⟨HKf.out, HLf.out, HZf.out, HKC.out, HLC.out⟩
      have HT5' := Lib.hid HT5
      clear HZr HTr HKr hsr hb4 hfr c4 HT4 HT5 hls HKf HLf HZf
      go_wp2_with fail
      generalize w4.setCell ⟨b0, 4, none⟩ (.slice lA l.length lC) = w5 at *
      have p0 := hp_row_set HT5'.out.2 (i := 0) (.int .i64 k)
      have p1 := hp_row_set p0 (i := 1) (.int .i64 n)
      have p2 := hp_row_set p1 (i := 2) (.string s)
      have p3 := hp_row_set p2 (i := 3) (.slice kA ks.length kC)
      have p4 : (((((w5.setCell ⟨b0 + 1, 0, none⟩ (.int .i64 k)).setCell ⟨b0 + 1, 1, none⟩ (.int .i64 n)).setCell ⟨b0 + 1, 2, none⟩ (.string s)).setCell ⟨b0 + 1, 3, none⟩ (.slice kA ks.length kC)).setCell ⟨b0 + 1, 4, none⟩ (.slice lA l.length lC)).heap[b0 + 1]? =
        some (.cells #[.int .i64 k, .int .i64 n, .string s, .slice kA ks.length kC, .slice lA l.length lC] 25 (0, 0)) := hp_row_set p3 (i := 4) (.slice lA l.length lC)
      obtain ⟨E1, E2, E3, E4, E5⟩ := HEND.out
      have hnb : ¬ w1.heap.size ≤ b0 + 1 := by have := hlt1.out; omega
      have hfr5 : Fr (fun k => w1.heap.size ≤ k) w5 (((((w5.setCell ⟨b0 + 1, 0, none⟩ (.int .i64 k)).setCell ⟨b0 + 1, 1, none⟩ (.int .i64 n)).setCell ⟨b0 + 1, 2, none⟩ (.string s)).setCell ⟨b0 + 1, 3, none⟩ (.slice kA ks.length kC)).setCell ⟨b0 + 1, 4, none⟩ (.slice lA l.length lC)) :=
        (((((Fr.refl _ w5).setCell (p := ⟨b0 + 1, 0, none⟩) hnb _).setCell (p := ⟨b0 + 1, 1, none⟩) hnb _).setCell (p := ⟨b0 + 1, 2, none⟩) hnb _).setCell (p := ⟨b0 + 1, 3, none⟩) hnb _).setCell (p := ⟨b0 + 1, 4, none⟩) hnb _
      have hbe : Below b0 w (((((w5.setCell ⟨b0 + 1, 0, none⟩ (.int .i64 k)).setCell ⟨b0 + 1, 1, none⟩ (.int .i64 n)).setCell ⟨b0 + 1, 2, none⟩ (.string s)).setCell ⟨b0 + 1, 3, none⟩ (.slice kA ks.length kC)).setCell ⟨b0 + 1, 4, none⟩ (.slice lA l.length lC)) :=
        ((((E3.setCell (p := ⟨b0 + 1, 0, none⟩) (Nat.le_succ _) _).setCell (p := ⟨b0 + 1, 1, none⟩) (Nat.le_succ _) _).setCell (p := ⟨b0 + 1, 2, none⟩) (Nat.le_succ _) _).setCell (p := ⟨b0 + 1, 3, none⟩) (Nat.le_succ _) _).setCell (p := ⟨b0 + 1, 4, none⟩) (Nat.le_succ _) _
      have HB0 := HBE.out
      refine bodyPost_ret (results_cell_row rfl _ _ (b0 + 1) 25 _ (0, 0) _ rfl p4 Tryd.underlying25 rfl (by rw [hi5]; simp [hs5])) rfl ?_
      refine ⟨kA, kC, lA, lC, rfl, E4, E5, ?_, ?_, ?_⟩
      · exact KeysNew.of (E1.fr hfr5) hsz1.out
      · exact ListNew.of (E2.fr hfr5) hsz1.out
      · rw [← HB0]
        exact hbe
end Go.Proofs.YtnjcofjphneccaaDoor
