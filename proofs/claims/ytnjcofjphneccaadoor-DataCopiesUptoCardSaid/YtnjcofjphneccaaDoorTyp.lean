/-
  THE COPY's MEMORY: which new block holds which list; a write of an element; a list more.
-/
import Derived.Test.YtnjcofjphneccaaDoorDet
namespace Go.Proofs.YtnjcofjphneccaaDoor
open Go.RowKit

abbrev Ty := Nat → Option (List V)
abbrev Ky := Nat → Option (List ByteArray)
/-- a struct that leads to blocks of the copy alone -/
def Own1 (T : Ty) (K : Ky) (v : V) (y : X) : Prop :=
  (y.k = v.k ∧ y.n = v.n ∧ y.s = v.s) ∧ (y.kn = v.ks.length ∧ y.kn ≤ y.kc ∧ ((v.ks = [] ∧ y.ka = none) ∨ ∃ n, y.ka = some ⟨n, 0, none⟩ ∧ K n = some v.ks)) ∧
  y.ln = v.l.length ∧ y.ln ≤ y.lc ∧ ((v.l = [] ∧ y.la = none) ∨ ∃ n, y.la = some ⟨n, 0, none⟩ ∧ T n = some v.l)
def Elem (w : World) (lo : Nat) (T : Ty) (K : Ky) (v : V) (y : X) : Prop := IsB w lo v y ∨ Own1 T K v y
/-- blocks of the type e -/
def Typ (w : World) (n : Nat) (e : TypeId) : Prop := ∃ cur, w.heap[n]? = some (.cells cur e (0, 0))
theorem Typ.lt {w : World} {n : Nat} {e : TypeId} (h : Typ w n e) : n < w.heap.size := by
  obtain ⟨_, h⟩ := h
  exact (Array.getElem?_eq_some_iff.1 h).1
theorem Typ.free {w : World} {n o : Nat} {e : TypeId} (h : Typ w n e) : w.frozen? ⟨n, o, none⟩ = false := by
  obtain ⟨_, h⟩ := h
  simp [World.frozen?, h]
structure Heap (w : World) (lo hi : Nat) (T : Ty) (K : Ky) : Prop where
  le : lo ≤ hi
  t : ∀ n l, T n = some l → hi ≤ n ∧ l ≠ [] ∧ Typ w n 25 ∧ ∀ i (h : i < l.length), ∃ y, At w n (i * 5) y ∧ Elem w lo T K l[i] y
  k : ∀ n ks, K n = some ks → hi ≤ n ∧ Typ w n 9 ∧ ∀ j (h : j < ks.length), w.cell? ⟨n, j, none⟩ = some (.string ks[j])
def FT (lo : Nat) (T : Ty) (K : Ky) (k : Nat) : Prop := k < lo ∨ T k ≠ none ∨ K k ≠ none
section
variable {w w' : World} {lo hi : Nat} {T : Ty} {K : Ky}
theorem Heap.lt (h : Heap w lo hi T K) (hl : lo ≤ w.heap.size) : ∀ k, FT lo T K k → k < w.heap.size := by
  rintro k (hk | hk | hk)
  · omega
  · obtain ⟨l, hl⟩ := Option.ne_none_iff_exists'.1 hk
    exact (h.t k l hl).2.2.1.lt
  · obtain ⟨l, hl⟩ := Option.ne_none_iff_exists'.1 hk
    exact (h.k k l hl).2.1.lt
/-- what the copy's structs read as -/
theorem Heap.read (h : Heap w lo hi T K) (hl : lo ≤ w.heap.size) : ∀ (v : V) (y : X), Elem w lo T K v y → Is w v y := by
  refine V.ind fun k n s ks l ih => ?_
  rintro y (hy | ⟨h1, ⟨h2, h3, h4⟩, h5, h6, h7⟩)
  · exact IsB.to (Below.refl lo w) hl _ _ hy
  · rw [is_iff]
    refine ⟨h1, ⟨h2, h3, ?_⟩, h5, h6, ?_⟩
    · rcases h4 with ⟨h4, _⟩ | ⟨m, h4, hm⟩
      · exact .inl h4
      · obtain ⟨_, e2, e3⟩ := h.k m _ hm
        exact .inr ⟨m, 0, h4, e2.lt, fun j hj => by rw [Nat.zero_add]; exact e3 j hj⟩
    · rcases h7 with ⟨h7, _⟩ | ⟨m, h7, hm⟩
      · exact .inl h7
      · obtain ⟨_, _, e2, e3⟩ := h.t m _ hm
        refine .inr ⟨m, 0, h7, e2.lt, (isAll_iff _ _ _ _ _).2 fun i hi => ?_⟩
        obtain ⟨z, z1, z2⟩ := e3 i hi
        exact ⟨z, by rw [Nat.zero_add]; exact z1, ih _ (List.getElem_mem hi) z z2⟩
theorem Elem.fr {v : V} {y : X} (h : Elem w lo T K v y) (hfr : Below lo w w') : Elem w' lo T K v y := h.imp (IsB.to hfr (Nat.le_refl _) _ _) id
theorem Typ.fr {F : Nat → Prop} {n : Nat} {e : TypeId} (h : Typ w n e) (hfr : Fr F w w') (hn : F n) : Typ w' n e := by
  obtain ⟨cur, h⟩ := h
  exact ⟨cur, (hfr.block n hn).trans h⟩
theorem Heap.fr (h : Heap w lo hi T K) (hfr : Fr (FT lo T K) w w') : Heap w' lo hi T K := by
  have hb : Below lo w w' := (hfr.mono fun k (hk : k < lo) => .inl hk).below
  refine ⟨h.le, fun n l hn => ?_, fun n ks hn => ?_⟩
  · obtain ⟨e1, e2, e3, e4⟩ := h.t n l hn
    have hF : FT lo T K n := .inr (.inl (by rw [hn]; simp))
    refine ⟨e1, e2, e3.fr hfr hF, fun i hi => ?_⟩
    obtain ⟨y, y1, y2⟩ := e4 i hi
    exact ⟨y, y1.fr hF hfr, y2.fr hb⟩
  · obtain ⟨e1, e2, e3⟩ := h.k n ks hn
    have hF : FT lo T K n := .inr (.inr (by rw [hn]; simp))
    exact ⟨e1, e2.fr hfr hF, fun j hj => (hfr.cell (p := ⟨n, j, none⟩) hF).trans (e3 j hj)⟩
end
def put5 (w : World) (n o : Nat) (y : X) : World :=
  ((((w.setCell ⟨n, o, none⟩ (.int .i64 y.k)).setCell ⟨n, o + 1, none⟩ (.int .i64 y.n)).setCell ⟨n, o + 2, none⟩ (.string y.s)).setCell ⟨n, o + 3, none⟩ (.slice y.ka y.kn y.kc)).setCell ⟨n, o + 4, none⟩ (.slice y.la y.ln y.lc)
theorem put5_fr (w : World) (n o : Nat) (y : X) : Fr (fun k => k ≠ n) w (put5 w n o y) :=
  (((((Fr.refl (fun k => k ≠ n) w).setCell (p := ⟨n, o, none⟩) (by simp) _).setCell (p := ⟨n, o + 1, none⟩) (by simp) _).setCell (p := ⟨n, o + 2, none⟩) (by simp) _).setCell (p := ⟨n, o + 3, none⟩) (by simp) _).setCell (p := ⟨n, o + 4, none⟩) (by simp) _
theorem set_far {w : World} {n o j : Nat} {u : Value} (h : o ≠ j) : (w.setCell ⟨n, o, none⟩ u).cell? ⟨n, j, none⟩ = w.cell? ⟨n, j, none⟩ :=
  World.cell?_setCell_other _ _ _ _ (fun e => h (by injection e))
theorem put5_far {w : World} {n o j : Nat} {y : X} (h : j < o ∨ o + 5 ≤ j) : (put5 w n o y).cell? ⟨n, j, none⟩ = w.cell? ⟨n, j, none⟩ := by
  unfold put5
  rw [set_far (by omega), set_far (by omega), set_far (by omega), set_far (by omega), set_far (by omega)]
theorem put5_same {w : World} {n o : Nat} {x y : X} (h : At w n o x) : At (put5 w n o y) n o y := by
  obtain ⟨c0, c1, c2, c3, c4⟩ := h
  have d1 : (w.setCell ⟨n, o, none⟩ (.int .i64 y.k)).cell? ⟨n, o + 1, none⟩ = some (.int .i64 x.n) := by rw [set_far (by omega), c1]
  have d2 : ((w.setCell ⟨n, o, none⟩ (.int .i64 y.k)).setCell ⟨n, o + 1, none⟩ (.int .i64 y.n)).cell? ⟨n, o + 2, none⟩ = some (.string x.s) := by rw [set_far (by omega), set_far (by omega), c2]
  have d3 : (((w.setCell ⟨n, o, none⟩ (.int .i64 y.k)).setCell ⟨n, o + 1, none⟩ (.int .i64 y.n)).setCell ⟨n, o + 2, none⟩ (.string y.s)).cell? ⟨n, o + 3, none⟩ = some (.slice x.ka x.kn x.kc) := by rw [set_far (by omega), set_far (by omega), set_far (by omega), c3]
  have d4 : ((((w.setCell ⟨n, o, none⟩ (.int .i64 y.k)).setCell ⟨n, o + 1, none⟩ (.int .i64 y.n)).setCell ⟨n, o + 2, none⟩ (.string y.s)).setCell ⟨n, o + 3, none⟩ (.slice y.ka y.kn y.kc)).cell? ⟨n, o + 4, none⟩ = some (.slice x.la x.ln x.lc) := by rw [set_far (by omega), set_far (by omega), set_far (by omega), set_far (by omega), c4]
  unfold put5
  refine ⟨?_, ?_, ?_, ?_, World.cell?_setCell_same _ _ _ d4⟩
  · rw [set_far (by omega), set_far (by omega), set_far (by omega), set_far (by omega)]
    exact World.cell?_setCell_same _ _ _ c0
  · rw [set_far (by omega), set_far (by omega), set_far (by omega)]
    exact World.cell?_setCell_same _ _ _ d1
  · rw [set_far (by omega), set_far (by omega)]
    exact World.cell?_setCell_same _ _ _ d2
  · rw [set_far (by omega)]
    exact World.cell?_setCell_same _ _ _ d3
theorem put5_other {w : World} {n o o' : Nat} {x y : X} (h : At w n o' x) (ho : o' + 5 ≤ o ∨ o + 5 ≤ o') : At (put5 w n o y) n o' x := by
  obtain ⟨c0, c1, c2, c3, c4⟩ := h
  exact ⟨(put5_far (by omega)).trans c0, (put5_far (by omega)).trans c1, (put5_far (by omega)).trans c2, (put5_far (by omega)).trans c3, (put5_far (by omega)).trans c4⟩
theorem put5_typ {w : World} {n o : Nat} {y : X} {e : TypeId} (h : Typ w n e) : Typ (put5 w n o y) n e := by
  obtain ⟨cur, h⟩ := h
  exact ⟨_, hp_row_set (hp_row_set (hp_row_set (hp_row_set (hp_row_set h _) _) _) _) _⟩
theorem Typ.ne {w : World} {n m : Nat} (h : Typ w n 25) (h' : Typ w m 9) : m ≠ n := by
  rintro rfl
  obtain ⟨c, h⟩ := h
  obtain ⟨c', h'⟩ := h'
  rw [h] at h'
  simp at h'
/-- an element is written anew -/
theorem Heap.put {w : World} {lo hi : Nat} {T : Ty} {K : Ky} (h : Heap w lo hi T K) {n i : Nat} {l : List V} (hn : T n = some l) (hi' : i < l.length) {y : X} (hy : Own1 T K l[i] y) : Heap (put5 w n (i * 5) y) lo hi T K := by
  obtain ⟨e1, e2, e3, e4⟩ := h.t n l hn
  have hfr := put5_fr w n (i * 5) y
  have hb : Below lo w (put5 w n (i * 5) y) := (hfr.mono fun k (hk : k < lo) => by have := h.le; show k ≠ n; omega).below
  refine ⟨h.le, fun m l' hm => ?_, fun m ks hm => ?_⟩
  · by_cases e : m = n
    · subst e
      rw [hn] at hm
      injection hm with hm
      subst hm
      refine ⟨e1, e2, put5_typ e3, fun j hj => ?_⟩
      obtain ⟨z, z1, z2⟩ := e4 j hj
      by_cases e : j = i
      · subst e
        exact ⟨y, put5_same z1, .inr hy⟩
      · exact ⟨z, put5_other z1 (by omega), z2.fr hb⟩
    · obtain ⟨f1, f2, f3, f4⟩ := h.t m l' hm
      refine ⟨f1, f2, f3.fr hfr e, fun j hj => ?_⟩
      obtain ⟨z, z1, z2⟩ := f4 j hj
      exact ⟨z, z1.fr e hfr, z2.fr hb⟩
  · obtain ⟨f1, f2, f3⟩ := h.k m ks hm
    have e : m ≠ n := e3.ne f2
    exact ⟨f1, f2.fr hfr e, fun j hj => (hfr.cell (p := ⟨m, j, none⟩) e).trans (f3 j hj)⟩

def ext {α : Type} (T : Nat → Option α) (A : Option Addr) (l : α) (k : Nat) : Option α := if A.map (·.block) = some k then some l else T k
theorem ext_none {α : Type} (T : Nat → Option α) (l : α) : ext T none l = T := by
  funext k
  simp [ext]
theorem ext_some {α : Type} (T : Nat → Option α) (n : Nat) (l : α) (k : Nat) : ext T (some ⟨n, 0, none⟩) l k = if n = k then some l else T k := by simp [ext]
theorem Own1.mono {T T' : Ty} {K K' : Ky} {v : V} {y : X} (h : Own1 T K v y) (hT : ∀ n l, T n = some l → T' n = some l) (hK : ∀ n l, K n = some l → K' n = some l) : Own1 T' K' v y := by
  obtain ⟨h1, ⟨h2, h3, h4⟩, h5, h6, h7⟩ := h
  exact ⟨h1, ⟨h2, h3, h4.imp id fun ⟨n, e, e'⟩ => ⟨n, e, hK n _ e'⟩⟩, h5, h6, h7.imp id fun ⟨n, e, e'⟩ => ⟨n, e, hT n _ e'⟩⟩
/-- a list and keys more -/
theorem Heap.grow {w w' : World} {lo hi : Nat} {T : Ty} {K : Ky} (h : Heap w lo hi T K) (hh : hi ≤ w.heap.size) (hb : Below w.heap.size w w') {v : V} {ys : List X} {ka la : Option Addr} {kc lc : Nat} (hk : v.ks.length ≤ kc) (hl : v.l.length ≤ lc)
    (hys : ys.length = v.l.length) (hey : ∀ i (h1 : i < ys.length) (h2 : i < v.l.length), Elem w lo T K v.l[i] ys[i]) (h1 : KeysNew w w' ka v.ks) (h2 : ListNew w w' la v.l ys) :
    ∃ T' K', (∀ n l, T n = some l → T' n = some l) ∧ (∀ n l, K n = some l → K' n = some l) ∧ Heap w' lo hi T' K' ∧ Own1 T' K' v ⟨v.k, v.n, v.s, ka, v.ks.length, kc, la, v.l.length, lc⟩ ∧
      (∀ n, T' n ≠ none → T n ≠ none ∨ (w.heap.size ≤ n ∧ la = some ⟨n, 0, none⟩)) ∧ (∀ n, K' n ≠ none → K n ≠ none ∨ w.heap.size ≤ n) := by
  have hlo : lo ≤ w.heap.size := Nat.le_trans h.le hh
  have hw := h.lt hlo
  have hfr : Fr (FT lo T K) w w' := Fr.of hb hw
  have H1 := h.fr hfr
  have hTn : ∀ n, w.heap.size ≤ n → T n = none := fun n hn => Classical.byContradiction fun e => by
    have := hw n (.inr (.inl e))
    omega
  have hKn : ∀ n, w.heap.size ≤ n → K n = none := fun n hn => Classical.byContradiction fun e => by
    have := hw n (.inr (.inr e))
    omega
  have hT : ∀ n l, T n = some l → ext T la v.l n = some l := fun n l hn => by
    rcases h2 with ⟨_, rfl⟩ | ⟨_, m, _, rfl, hm, _⟩
    · rw [ext_none, hn]
    · rw [ext_some, if_neg, hn]
      rintro rfl
      rw [hTn _ hm] at hn
      cases hn
  have hK : ∀ n l, K n = some l → ext K ka v.ks n = some l := fun n l hn => by
    rcases h1 with ⟨_, rfl⟩ | ⟨m, _, rfl, hm, _⟩
    · rw [ext_none, hn]
    · rw [ext_some, if_neg, hn]
      rintro rfl
      rw [hKn _ hm] at hn
      cases hn
  refine ⟨ext T la v.l, ext K ka v.ks, hT, hK, ⟨h.le, fun n l hn => ?_, fun n ks hn => ?_⟩, ⟨⟨rfl, rfl, rfl⟩, ⟨rfl, hk, ?_⟩, rfl, hl, ?_⟩, fun n hn => ?_, fun n hn => ?_⟩
  · have old : T n = some l → hi ≤ n ∧ l ≠ [] ∧ Typ w' n 25 ∧ ∀ i (h : i < l.length), ∃ y, At w' n (i * 5) y ∧ Elem w' lo (ext T la v.l) (ext K ka v.ks) l[i] y := fun hn => by
      obtain ⟨e1, e2, e3, e4⟩ := H1.t n l hn
      refine ⟨e1, e2, e3, fun i hi => ?_⟩
      obtain ⟨y, y1, y2⟩ := e4 i hi
      exact ⟨y, y1, y2.imp id fun h => h.mono hT hK⟩
    rcases id h2 with ⟨_, rfl⟩ | ⟨hne, m, cur, rfl, hm, hm2, hm3, hm4⟩
    · exact old (by rw [ext_none] at hn; exact hn)
    · rw [ext_some] at hn
      split at hn
      · rename_i e
        subst e
        injection hn with hn
        subst hn
        refine ⟨Nat.le_trans hh hm, hne, ⟨cur, hm3⟩, fun i hi => ⟨ys[i]'(by omega), hm4 i (by omega), ?_⟩⟩
        exact ((hey i (by omega) hi).fr (hb.mono hlo)).imp id fun h => h.mono hT hK
      · exact old hn
  · have old : K n = some ks → hi ≤ n ∧ Typ w' n 9 ∧ ∀ j (h : j < ks.length), w'.cell? ⟨n, j, none⟩ = some (.string ks[j]) := fun hn => H1.k n ks hn
    rcases id h1 with ⟨_, rfl⟩ | ⟨m, cur, rfl, hm, hm2, hm3, hm4⟩
    · exact old (by rw [ext_none] at hn; exact hn)
    · rw [ext_some] at hn
      split at hn
      · rename_i e
        subst e
        injection hn with hn
        subst hn
        exact ⟨Nat.le_trans hh hm, ⟨cur, hm3⟩, hm4⟩
      · exact old hn
  · rcases h1 with ⟨e, rfl⟩ | ⟨m, _, rfl, _⟩
    · exact .inl ⟨e, rfl⟩
    · exact .inr ⟨m, rfl, by rw [ext_some, if_pos rfl]⟩
  · rcases h2 with ⟨e, rfl⟩ | ⟨_, m, _, rfl, _⟩
    · exact .inl ⟨e, rfl⟩
    · exact .inr ⟨m, rfl, by rw [ext_some, if_pos rfl]⟩
  · rcases h2 with ⟨_, rfl⟩ | ⟨_, m, _, rfl, hm, _⟩
    · exact .inl (by rw [ext_none] at hn; exact hn)
    · rw [ext_some] at hn
      split at hn
      · rename_i e
        subst e
        exact .inr ⟨hm, rfl⟩
      · exact .inl hn
  · rcases h1 with ⟨_, rfl⟩ | ⟨m, _, rfl, hm, _⟩
    · exact .inl (by rw [ext_none] at hn; exact hn)
    · rw [ext_some] at hn
      split at hn
      · rename_i e
        subst e
        exact .inr hm
      · exact .inl hn
end Go.Proofs.YtnjcofjphneccaaDoor
