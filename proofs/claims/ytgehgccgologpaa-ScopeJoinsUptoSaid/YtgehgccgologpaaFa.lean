/-
  Memory that a call makes of nodes: which new block holds which nodes, which names; a node written anew; a list and names more.
-/
import Derived.Test.YtgehgccgologpaaZj
import Derived.Test.YtgehgccgologpaaZo
import Derived.Test.YtgehgccgologpaaZr
namespace Go.Proofs.Ytgehgccgologpaa.Z
open Go.RowKit Go.Shelf Go.Proofs.Ytgehgccgologpaa Go.Proofs.Ytgehgccgologpaa.R Go.Proofs.Ytgehgccgologpaa.T

abbrev Ty := Nat → Option (List V)
abbrev Ky := Nat → Option (List ByteArray)
/-- a struct that leads to blocks of the call's own alone -/
def Own1 (T : Ty) (K : Ky) (v : V) (y : X) : Prop :=
  (y.k = v.k ∧ y.nm = v.nm ∧ y.n = v.n ∧ y.s = v.s) ∧ (y.kn = v.ks.length ∧ y.kn ≤ y.kc ∧ (v.ks = [] ∨ ∃ n, y.ka = some ⟨n, 0, none⟩ ∧ K n = some v.ks)) ∧
  y.ln = v.l.length ∧ y.ln ≤ y.lc ∧ (v.l = [] ∨ ∃ n, y.la = some ⟨n, 0, none⟩ ∧ T n = some v.l)
def Elem (w : World) (lo : Nat) (T : Ty) (K : Ky) (v : V) (y : X) : Prop := IsB w lo v y ∨ Own1 T K v y
/-- a block of the type e -/
def Typ (w : World) (n : Nat) (e : TypeId) : Prop := ∃ cur, w.heap[n]? = some (.cells cur e (0, 0))
theorem Typ.lt {w : World} {n : Nat} {e : TypeId} (h : Typ w n e) : n < w.heap.size := by
  obtain ⟨_, h⟩ := h
  exact (Array.getElem?_eq_some_iff.1 h).1
theorem Typ.free {w : World} {n o : Nat} {e : TypeId} (h : Typ w n e) : w.frozen? ⟨n, o, none⟩ = false := by
  obtain ⟨_, h⟩ := h
  simp [World.frozen?, h]
theorem Typ.ne {w : World} {n m : Nat} {e e' : TypeId} (h : Typ w n e) (h' : Typ w m e') (he : e ≠ e') : m ≠ n := by
  rintro rfl
  obtain ⟨c, h⟩ := h
  obtain ⟨c', h'⟩ := h'
  rw [h] at h'
  injection h' with h'
  injection h' with _ h'
  exact he h'
structure Hp (w : World) (lo : Nat) (T : Ty) (K : Ky) : Prop where
  t : ∀ n l, T n = some l → lo ≤ n ∧ Typ w n 25 ∧ ∀ i (h : i < l.length), ∃ y, At w n (i * 6) y ∧ Elem w lo T K l[i] y
  k : ∀ n ks, K n = some ks → lo ≤ n ∧ Typ w n 9 ∧ ∀ j (h : j < ks.length), w.cell? ⟨n, j, none⟩ = some (.string ks[j])
def FT (lo : Nat) (T : Ty) (K : Ky) (k : Nat) : Prop := k < lo ∨ T k ≠ none ∨ K k ≠ none
section
variable {w w' : World} {lo : Nat} {T : Ty} {K : Ky}
theorem Hp.lt (h : Hp w lo T K) (hl : lo ≤ w.heap.size) : ∀ k, FT lo T K k → k < w.heap.size := by
  rintro k (hk | hk | hk)
  · omega
  · obtain ⟨l, hl⟩ := Option.ne_none_iff_exists'.1 hk
    exact (h.t k l hl).2.1.lt
  · obtain ⟨l, hl⟩ := Option.ne_none_iff_exists'.1 hk
    exact (h.k k l hl).2.1.lt
/-- what the structs read as -/
theorem Hp.read (h : Hp w lo T K) (hl : lo ≤ w.heap.size) : ∀ (v : V) (y : X), Elem w lo T K v y → Is w v y := by
  refine V.ind fun k nm n s ks l ih => ?_
  rintro y (hy | ⟨h1, ⟨h2, h3, h4⟩, h5, h6, h7⟩)
  · exact IsB.to (Below.refl lo w) hl _ _ hy
  · rw [is_iff]
    refine ⟨h1, ⟨h2, h3, ?_⟩, h5, h6, ?_⟩
    · rcases h4 with h4 | ⟨m, h4, hm⟩
      · exact .inl h4
      · obtain ⟨_, e2, e3⟩ := h.k m _ hm
        exact .inr ⟨m, 0, h4, e2.lt, fun j hj => by rw [Nat.zero_add]; exact e3 j hj⟩
    · rcases h7 with h7 | ⟨m, h7, hm⟩
      · exact .inl h7
      · obtain ⟨_, e2, e3⟩ := h.t m _ hm
        refine .inr ⟨m, 0, h7, e2.lt, (isAll_iff _ _ _ _ _).2 fun i hi => ?_⟩
        obtain ⟨z, z1, z2⟩ := e3 i hi
        exact ⟨z, by rw [Nat.zero_add]; exact z1, ih _ (List.getElem_mem hi) z z2⟩
theorem At.fr {F : Nat → Prop} {g o : Nat} {x : X} (h : At w g o x) (hg : F g) (hf : Fr F w w') : At w' g o x :=
  ⟨(hf.cell (p := ⟨g, o, none⟩) hg).trans h.c0, (hf.cell (p := ⟨g, o + 1, none⟩) hg).trans h.c1, (hf.cell (p := ⟨g, o + 2, none⟩) hg).trans h.c2, (hf.cell (p := ⟨g, o + 3, none⟩) hg).trans h.c3, (hf.cell (p := ⟨g, o + 4, none⟩) hg).trans h.c4, (hf.cell (p := ⟨g, o + 5, none⟩) hg).trans h.c5⟩
theorem Elem.fr {v : V} {y : X} (h : Elem w lo T K v y) (hfr : Below lo w w') : Elem w' lo T K v y := h.imp (IsB.to hfr (Nat.le_refl _) _ _) id
theorem Typ.fr {F : Nat → Prop} {n : Nat} {e : TypeId} (h : Typ w n e) (hfr : Fr F w w') (hn : F n) : Typ w' n e := by
  obtain ⟨cur, h⟩ := h
  exact ⟨cur, (hfr.block n hn).trans h⟩
theorem Hp.fr (h : Hp w lo T K) (hfr : Fr (FT lo T K) w w') : Hp w' lo T K := by
  have hb : Below lo w w' := (hfr.mono fun k (hk : k < lo) => .inl hk).below
  refine ⟨fun n l hn => ?_, fun n ks hn => ?_⟩
  · obtain ⟨e1, e3, e4⟩ := h.t n l hn
    have hF : FT lo T K n := .inr (.inl (by rw [hn]; simp))
    refine ⟨e1, e3.fr hfr hF, fun i hi => ?_⟩
    obtain ⟨y, y1, y2⟩ := e4 i hi
    exact ⟨y, At.fr y1 hF hfr, y2.fr hb⟩
  · obtain ⟨e1, e2, e3⟩ := h.k n ks hn
    have hF : FT lo T K n := .inr (.inr (by rw [hn]; simp))
    exact ⟨e1, e2.fr hfr hF, fun j hj => (hfr.cell (p := ⟨n, j, none⟩) hF).trans (e3 j hj)⟩
theorem Hp.low (h : Hp w lo T K) (hl : lo ≤ w.heap.size) (hb : Below w.heap.size w w') : Hp w' lo T K :=
  h.fr ⟨hb.os, hb.tape, hb.output, hb.size, fun k hk => hb.block k (h.lt hl k hk)⟩
end
theorem putAt_fr (w : World) (n o : Nat) (y : X) : Fr (fun k => k ≠ n) w (putAt w n o y) := by
  unfold putAt
  exact ((((((Fr.refl (fun k => k ≠ n) w).setCell (p := ⟨n, o, none⟩) (by simp) _).setCell (p := ⟨n, o + 1, none⟩) (by simp) _).setCell (p := ⟨n, o + 2, none⟩) (by simp) _).setCell (p := ⟨n, o + 3, none⟩) (by simp) _).setCell (p := ⟨n, o + 4, none⟩) (by simp) _).setCell (p := ⟨n, o + 5, none⟩) (by simp) _
theorem putAt_far {w : World} {n o j : Nat} {y : X} (h : j < o ∨ o + 6 ≤ j) : (putAt w n o y).cell? ⟨n, j, none⟩ = w.cell? ⟨n, j, none⟩ := by
  unfold putAt
  rw [set_ne _ _ _ _ _ (by omega), set_ne _ _ _ _ _ (by omega), set_ne _ _ _ _ _ (by omega), set_ne _ _ _ _ _ (by omega), set_ne _ _ _ _ _ (by omega), set_ne _ _ _ _ _ (by omega)]
theorem putAt_other {w : World} {n o o' : Nat} {x y : X} (h : At w n o' x) (ho : o' + 6 ≤ o ∨ o + 6 ≤ o') : At (putAt w n o y) n o' x := by
  obtain ⟨c0, c1, c2, c3, c4, c5⟩ := h
  exact ⟨(putAt_far (by omega)).trans c0, (putAt_far (by omega)).trans c1, (putAt_far (by omega)).trans c2, (putAt_far (by omega)).trans c3, (putAt_far (by omega)).trans c4, (putAt_far (by omega)).trans c5⟩
theorem putAt_same {w : World} {g o : Nat} {x : X} (h : At w g o x) (y : X) : At (putAt w g o y) g o y := by
  obtain ⟨c0, c1, c2, c3, c4, c5⟩ := h
  unfold putAt
  refine ⟨?_, ?_, ?_, ?_, ?_, ?_⟩
  · rw [set_ne _ g _ _ _ (by omega), set_ne _ g _ _ _ (by omega), set_ne _ g _ _ _ (by omega), set_ne _ g _ _ _ (by omega), set_ne _ g _ _ _ (by omega)]
    exact set_eq _ g o _ _ c0
  · rw [set_ne _ g _ _ _ (by omega), set_ne _ g _ _ _ (by omega), set_ne _ g _ _ _ (by omega), set_ne _ g _ _ _ (by omega)]
    exact set_eq _ g _ _ _ (by rw [set_ne _ g _ _ _ (by omega)]; exact c1)
  · rw [set_ne _ g _ _ _ (by omega), set_ne _ g _ _ _ (by omega), set_ne _ g _ _ _ (by omega)]
    exact set_eq _ g _ _ _ (by rw [set_ne _ g _ _ _ (by omega), set_ne _ g _ _ _ (by omega)]; exact c2)
  · rw [set_ne _ g _ _ _ (by omega), set_ne _ g _ _ _ (by omega)]
    exact set_eq _ g _ _ _ (by rw [set_ne _ g _ _ _ (by omega), set_ne _ g _ _ _ (by omega), set_ne _ g _ _ _ (by omega)]; exact c3)
  · rw [set_ne _ g _ _ _ (by omega)]
    exact set_eq _ g _ _ _ (by rw [set_ne _ g _ _ _ (by omega), set_ne _ g _ _ _ (by omega), set_ne _ g _ _ _ (by omega), set_ne _ g _ _ _ (by omega)]; exact c4)
  · exact set_eq _ g _ _ _ (by rw [set_ne _ g _ _ _ (by omega), set_ne _ g _ _ _ (by omega), set_ne _ g _ _ _ (by omega), set_ne _ g _ _ _ (by omega), set_ne _ g _ _ _ (by omega)]; exact c5)
theorem Typ.set {w : World} {n j : Nat} {e : TypeId} (h : Typ w n e) (u : Value) : Typ (w.setCell ⟨n, j, none⟩ u) n e := by
  obtain ⟨cur, h⟩ := h
  refine ⟨cur.setIfInBounds j u, ?_⟩
  simp [World.setCell, Array.getElem?_modify, h]
theorem putAt_typ {w : World} {n o : Nat} {y : X} {e : TypeId} (h : Typ w n e) : Typ (putAt w n o y) n e := by
  unfold putAt
  exact (((((h.set _).set _).set _).set _).set _).set _
/-- an element is written anew -/
theorem Hp.put {w : World} {lo : Nat} {T : Ty} {K : Ky} (h : Hp w lo T K) {n i : Nat} {l : List V} (hn : T n = some l) (hi' : i < l.length) {y : X} (hy : Own1 T K l[i] y) : Hp (putAt w n (i * 6) y) lo T K := by
  obtain ⟨e1, e3, e4⟩ := h.t n l hn
  have hfr := putAt_fr w n (i * 6) y
  have hb : Below lo w (putAt w n (i * 6) y) := (hfr.mono fun k (hk : k < lo) => by show k ≠ n; omega).below
  refine ⟨fun m l' hm => ?_, fun m ks hm => ?_⟩
  · by_cases e : m = n
    · subst e
      rw [hn] at hm
      injection hm with hm
      subst hm
      refine ⟨e1, putAt_typ e3, fun j hj => ?_⟩
      obtain ⟨z, z1, z2⟩ := e4 j hj
      by_cases e : j = i
      · subst e
        exact ⟨y, putAt_same z1 y, .inr hy⟩
      · exact ⟨z, putAt_other z1 (by omega), z2.fr hb⟩
    · obtain ⟨f1, f3, f4⟩ := h.t m l' hm
      refine ⟨f1, f3.fr hfr e, fun j hj => ?_⟩
      obtain ⟨z, z1, z2⟩ := f4 j hj
      exact ⟨z, At.fr z1 e hfr, z2.fr hb⟩
  · obtain ⟨f1, f2, f3⟩ := h.k m ks hm
    have e : m ≠ n := e3.ne f2 (by decide)
    exact ⟨f1, f2.fr hfr e, fun j hj => (hfr.cell (p := ⟨m, j, none⟩) e).trans (f3 j hj)⟩
def ext {α : Type} (T : Nat → Option α) (A : Option Addr) (l : α) (k : Nat) : Option α := if A.map (·.block) = some k then some l else T k
theorem ext_none {α : Type} (T : Nat → Option α) (l : α) : ext T none l = T := by
  funext k
  simp [ext]
theorem ext_some {α : Type} (T : Nat → Option α) (n : Nat) (l : α) (k : Nat) : ext T (some ⟨n, 0, none⟩) l k = if n = k then some l else T k := by simp [ext]
theorem Own1.mono {T T' : Ty} {K K' : Ky} {v : V} {y : X} (h : Own1 T K v y) (hT : ∀ n l, T n = some l → T' n = some l) (hK : ∀ n l, K n = some l → K' n = some l) : Own1 T' K' v y := by
  obtain ⟨h1, ⟨h2, h3, h4⟩, h5, h6, h7⟩ := h
  exact ⟨h1, ⟨h2, h3, h4.imp id fun ⟨n, e, e'⟩ => ⟨n, e, hK n _ e'⟩⟩, h5, h6, h7.imp id fun ⟨n, e, e'⟩ => ⟨n, e, hT n _ e'⟩⟩
theorem Elem.mono {w : World} {lo : Nat} {T T' : Ty} {K K' : Ky} {v : V} {y : X} (h : Elem w lo T K v y) (hT : ∀ n l, T n = some l → T' n = some l) (hK : ∀ n l, K n = some l → K' n = some l) : Elem w lo T' K' v y := h.imp id fun h => h.mono hT hK
/-- a row of structs that the call owns -/
abbrev OwnX (w : World) (b : Nat) (v : Value) (ys : List X) : Prop := w.ownsRow b 25 6 v ys.length (flatX ys)
theorem OwnX.at' {w : World} {b n g c : Nat} {ys : List X} (h : OwnX w b (.slice (some ⟨g, 0, none⟩) n c) ys) (i : Nat) (hi : i < ys.length) : At w g (i * 6) ys[i] := by
  obtain ⟨hl, h2⟩ := h
  rcases h2 with ⟨e, _⟩ | ⟨g', cap, cur, e, _, hg, hnc, _, _, htk⟩
  · cases e
  · injection e with e _ _
    injection e with e
    injection e with e
    subst e
    have gc : ∀ (r : Nat) (u : Value), ys[i].cells.toList[r]? = some u → w.cell? ⟨g, i * 6 + r, none⟩ = some u := by
      intro r u hr
      have hj := flatX_get ys i r ys[i] u (List.getElem?_eq_getElem hi) hr
      have hr6 : r < 6 := (List.getElem?_eq_some_iff.1 hr).1
      rw [← htk, List.getElem?_take_of_lt (by omega), Array.getElem?_toList] at hj
      simp [World.cell?, hg, hj]
    exact ⟨gc 0 _ rfl, gc 1 _ rfl, gc 2 _ rfl, gc 3 _ rfl, gc 4 _ rfl, gc 5 _ rfl⟩
theorem own_typ {w : World} {b n c sz g m : Nat} {e : TypeId} {xs : List Value} (h : w.ownsRow b e sz (.slice (some ⟨g, 0, none⟩) n c) m xs) : b ≤ g ∧ Typ w g e := by
  obtain ⟨_, h2⟩ := h
  rcases h2 with ⟨e, _⟩ | ⟨g', cap, cur, e, h3, hg, _⟩
  · cases e
  · injection e with e _ _
    injection e with e
    injection e with e
    subst e
    exact ⟨h3, cur, hg⟩
/-- an own row's address: none, and then it is empty; or a block's beginning -/
theorem own_addr {w : World} {b n c sz m : Nat} {e : TypeId} {A : Option Addr} {xs : List Value} (h : w.ownsRow b e sz (.slice A n c) m xs) : n = m ∧ n ≤ c ∧ ((A = none ∧ m = 0) ∨ ∃ g, A = some ⟨g, 0, none⟩) := by
  obtain ⟨_, h2⟩ := h
  rcases h2 with ⟨e, h0⟩ | ⟨g', cap, cur, e, h3, hg, hc, _⟩
  · injection e with e1 e2 e3
    exact ⟨by omega, by omega, .inl ⟨e1, h0⟩⟩
  · injection e with e1 e2 e3
    exact ⟨e2, by omega, .inr ⟨g', e1⟩⟩
theorem OwnT.cell {w : World} {b n c g : Nat} {L : List ByteArray} (h : OwnT w b (.slice (some ⟨g, 0, none⟩) n c) L) (j : Nat) (hj : j < L.length) : w.cell? ⟨g, j, none⟩ = some (.string L[j]) := by
  have := World.ownsRow.cells h (g := g) rfl j (.string L[j]) (by rw [List.getElem?_map, List.getElem?_eq_getElem hj]; rfl)
  rw [add_lit, Nat.zero_add] at this
  exact this
/-- a list and names more -/
theorem Hp.grow {w w' : World} {lo : Nat} {T : Ty} {K : Ky} (h : Hp w lo T K) (hlo : lo ≤ w.heap.size) (hb : Below w.heap.size w w') {v : V} {ys : List X} {ka la : Option Addr} {kc lc : Nat}
    (hys : ys.length = v.l.length) (hey : ∀ i (h1 : i < ys.length) (h2 : i < v.l.length), Elem w lo T K v.l[i] ys[i]) (h1 : OwnT w' w.heap.size (.slice ka v.ks.length kc) v.ks) (h2 : OwnX w' w.heap.size (.slice la v.l.length lc) ys) :
    ∃ T' K', (∀ n l, T n = some l → T' n = some l) ∧ (∀ n l, K n = some l → K' n = some l) ∧ Hp w' lo T' K' ∧ Own1 T' K' v ⟨v.k, v.nm, v.n, v.s, ka, v.ks.length, kc, la, v.l.length, lc⟩ := by
  have hw := h.lt hlo
  have H1 := h.low hlo hb
  have hTn : ∀ n, w.heap.size ≤ n → T n = none := fun n hn => Classical.byContradiction fun e => by
    have := hw n (.inr (.inl e))
    omega
  have hKn : ∀ n, w.heap.size ≤ n → K n = none := fun n hn => Classical.byContradiction fun e => by
    have := hw n (.inr (.inr e))
    omega
  obtain ⟨-, hkc, ha1⟩ := own_addr h1
  obtain ⟨-, hlc, ha2⟩ := own_addr h2
  have hT : ∀ n l, T n = some l → ext T la v.l n = some l := fun n l hn => by
    rcases ha2 with ⟨rfl, _⟩ | ⟨m, rfl⟩
    · rw [ext_none, hn]
    · rw [ext_some, if_neg, hn]
      rintro rfl
      rw [hTn _ (own_typ h2).1] at hn
      cases hn
  have hK : ∀ n l, K n = some l → ext K ka v.ks n = some l := fun n l hn => by
    rcases ha1 with ⟨rfl, _⟩ | ⟨m, rfl⟩
    · rw [ext_none, hn]
    · rw [ext_some, if_neg, hn]
      rintro rfl
      rw [hKn _ (own_typ h1).1] at hn
      cases hn
  refine ⟨ext T la v.l, ext K ka v.ks, hT, hK, ⟨fun n l hn => ?_, fun n ks hn => ?_⟩, ⟨⟨rfl, rfl, rfl, rfl⟩, ⟨rfl, hkc, ?_⟩, rfl, hlc, ?_⟩⟩
  · have old : T n = some l → lo ≤ n ∧ Typ w' n 25 ∧ ∀ i (h : i < l.length), ∃ y, At w' n (i * 6) y ∧ Elem w' lo (ext T la v.l) (ext K ka v.ks) l[i] y := fun hn => by
      obtain ⟨e1, e3, e4⟩ := H1.t n l hn
      refine ⟨e1, e3, fun i hi => ?_⟩
      obtain ⟨y, y1, y2⟩ := e4 i hi
      exact ⟨y, y1, y2.mono hT hK⟩
    rcases ha2 with ⟨rfl, _⟩ | ⟨m, rfl⟩
    · exact old (by rw [ext_none] at hn; exact hn)
    · rw [ext_some] at hn
      split at hn
      · rename_i e
        subst e
        injection hn with hn
        subst hn
        obtain ⟨t1, t2⟩ := own_typ h2
        refine ⟨Nat.le_trans hlo t1, t2, fun i hi => ⟨ys[i]'(by omega), OwnX.at' h2 i (by omega), ?_⟩⟩
        exact ((hey i (by omega) hi).fr (hb.mono hlo)).mono hT hK
      · exact old hn
  · have old : K n = some ks → lo ≤ n ∧ Typ w' n 9 ∧ ∀ j (h : j < ks.length), w'.cell? ⟨n, j, none⟩ = some (.string ks[j]) := fun hn => H1.k n ks hn
    rcases ha1 with ⟨rfl, _⟩ | ⟨m, rfl⟩
    · exact old (by rw [ext_none] at hn; exact hn)
    · rw [ext_some] at hn
      split at hn
      · rename_i e
        subst e
        injection hn with hn
        subst hn
        obtain ⟨t1, t2⟩ := own_typ h1
        exact ⟨Nat.le_trans hlo t1, t2, fun j hj => OwnT.cell h1 j hj⟩
      · exact old hn
  · rcases ha1 with ⟨rfl, h0⟩ | ⟨m, rfl⟩
    · exact .inl (List.eq_nil_of_length_eq_zero h0)
    · exact .inr ⟨m, rfl, by rw [ext_some, if_pos rfl]⟩
  · rcases ha2 with ⟨rfl, h0⟩ | ⟨m, rfl⟩
    · exact .inl (List.eq_nil_of_length_eq_zero (by omega))
    · exact .inr ⟨m, rfl, by rw [ext_some, if_pos rfl]⟩
theorem choose_list {l : List V} {P : (i : Nat) → V → X → Prop} (h : ∀ i (h : i < l.length), ∃ y, P i l[i] y) : ∃ ys : List X, ys.length = l.length ∧ ∀ i (_ : i < ys.length) (h2 : i < l.length), P i l[i] (ys[i]) := by
  refine ⟨List.ofFn fun i : _root_.Fin l.length => Classical.choose (h i.1 i.2), by simp, fun i h1 h2 => ?_⟩
  rw [List.getElem_ofFn]
  exact Classical.choose_spec (h i h2)
/-- the structs of a struct's list -/
theorem Hp.row {w : World} {lo : Nat} {T : Ty} {K : Ky} (h : Hp w lo T K) (hl : lo ≤ w.heap.size) {v : V} {y : X} (hy : Elem w lo T K v y) :
    ∃ ys : List X, ys.length = v.l.length ∧ (v.l = [] ∨ ∃ g o, y.la = some ⟨g, o, none⟩ ∧ g < w.heap.size ∧ ∀ i (h : i < ys.length), At w g (o + i * 6) ys[i]) ∧ ∀ i (h1 : i < ys.length) (h2 : i < v.l.length), Elem w lo T K v.l[i] ys[i] := by
  rcases hy with hy | ⟨_, _, _, _, hy⟩
  · rw [isB_iff] at hy
    obtain ⟨-, -, -, -, hy⟩ := hy
    rcases hy with he | ⟨g, o, e1, e2, e3⟩
    · exact ⟨[], by simp [he], .inl he, fun i h => by simp at h⟩
    · obtain ⟨ys, h1, h2⟩ := choose_list (l := v.l) (P := fun i u y => At w g (o + i * 6) y ∧ IsB w lo u y) ((isAll_iff w lo g o v.l).1 e3)
      exact ⟨ys, h1, .inr ⟨g, o, e1, Nat.lt_of_lt_of_le e2 hl, fun i hi => (h2 i hi (by omega)).1⟩, fun i h3 h4 => .inl (h2 i h3 h4).2⟩
  · rcases hy with he | ⟨n, e1, e2⟩
    · exact ⟨[], by simp [he], .inl he, fun i h => by simp at h⟩
    · obtain ⟨_, e3, e4⟩ := h.t n _ e2
      obtain ⟨ys, h1, h2⟩ := choose_list (l := v.l) (P := fun i u y => At w n (i * 6) y ∧ Elem w lo T K u y) e4
      exact ⟨ys, h1, .inr ⟨n, 0, e1, e3.lt, fun i hi => by rw [Nat.zero_add]; exact (h2 i hi (by omega)).1⟩, fun i h3 h4 => (h2 i h3 h4).2⟩
end Go.Proofs.Ytgehgccgologpaa.Z
