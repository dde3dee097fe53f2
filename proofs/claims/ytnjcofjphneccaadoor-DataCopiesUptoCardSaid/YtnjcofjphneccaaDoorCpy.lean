/-
  THE COPY's ROUNDS: what holds while a list's elements are made new.
-/
import Derived.Test.YtnjcofjphneccaaDoorTyp
namespace Go.Proofs.YtnjcofjphneccaaDoor
open Go.RowKit

theorem choose_list {l : List V} {P : (i : Nat) → V → X → Prop} (h : ∀ i (h : i < l.length), ∃ y, P i l[i] y) : ∃ ys : List X, ys.length = l.length ∧ ∀ i (_ : i < ys.length) (h2 : i < l.length), P i l[i] (ys[i]) := by
  refine ⟨List.ofFn fun i : _root_.Fin l.length => Classical.choose (h i.1 i.2), by simp, fun i h1 h2 => ?_⟩
  rw [List.getElem_ofFn]
  exact Classical.choose_spec (h i h2)
theorem at_inj {w : World} {g o : Nat} {x y : X} (h : At w g o x) (h' : At w g o y) : x = y := by
  obtain ⟨a0, a1, a2, a3, a4⟩ := h
  obtain ⟨b0, b1, b2, b3, b4⟩ := h'
  rw [a0] at b0
  rw [a1] at b1
  rw [a2] at b2
  rw [a3] at b3
  rw [a4] at b4
  cases x
  cases y
  simp at *
  obtain ⟨e1, e2, e3⟩ := b3
  obtain ⟨f1, f2, f3⟩ := b4
  subst b0 b1 b2 e1 e2 e3 f1 f2 f3
  simp
/-- the structs of a struct's list -/
theorem Heap.row {w : World} {lo hi : Nat} {T : Ty} {K : Ky} (h : Heap w lo hi T K) (hl : lo ≤ w.heap.size) {v : V} {y : X} (hy : Elem w lo T K v y) :
    ∃ ys : List X, ys.length = v.l.length ∧ (v.l = [] ∨ ∃ g o, y.la = some ⟨g, o, none⟩ ∧ g < w.heap.size ∧ ∀ i (h : i < ys.length), At w g (o + i * 5) ys[i]) ∧ ∀ i (h1 : i < ys.length) (h2 : i < v.l.length), Elem w lo T K v.l[i] ys[i] := by
  rcases hy with hy | ⟨_, _, _, _, hy⟩
  · rcases is_row hy with he | ⟨g, o, e1, e2, e3⟩
    · exact ⟨[], by simp [he], .inl he, fun i h => by simp at h⟩
    · obtain ⟨ys, h1, h2⟩ := choose_list (l := v.l) (P := fun i u y => At w g (o + i * 5) y ∧ IsB w lo u y) ((isAll_iff w lo g o v.l).1 e3)
      exact ⟨ys, h1, .inr ⟨g, o, e1, Nat.lt_of_lt_of_le e2 hl, fun i hi => (h2 i hi (by omega)).1⟩, fun i h3 h4 => .inl (h2 i h3 h4).2⟩
  · rcases hy with ⟨he, _⟩ | ⟨n, e1, e2⟩
    · exact ⟨[], by simp [he], .inl he, fun i h => by simp at h⟩
    · obtain ⟨_, _, e3, e4⟩ := h.t n _ e2
      obtain ⟨ys, h1, h2⟩ := choose_list (l := v.l) (P := fun i u y => At w n (i * 5) y ∧ Elem w lo T K u y) e4
      exact ⟨ys, h1, .inr ⟨n, 0, e1, e3.lt, fun i hi => by rw [Nat.zero_add]; exact (h2 i hi (by omega)).1⟩, fun i h3 h4 => (h2 i h3 h4).2⟩

def Done (w : World) (T : Ty) (K : Ky) (n : Nat) (l : List V) : Prop := ∀ i (h : i < l.length), ∃ y, At w n (i * 5) y ∧ Own1 T K l[i] y
theorem Done.mono {w w' : World} {T T' : Ty} {K K' : Ky} {n : Nat} {l : List V} (h : Done w T K n l) (hT : ∀ n l, T n = some l → T' n = some l) (hK : ∀ n l, K n = some l → K' n = some l) {F : Nat → Prop} (hfr : Fr F w w') (hn : F n) : Done w' T' K' n l := fun i hi => by
  obtain ⟨y, h1, h2⟩ := h i hi
  exact ⟨y, h1.fr hn hfr, h2.mono hT hK⟩
def zrow : Obj := .cells #[.int .i64 0, .int .i64 0, .string ⟨#[]⟩, .slice none 0 0, .slice none 0 0] 25 (0, 0)
def Fz (lo r p5 : Nat) (T : Ty) (K : Ky) (k : Nat) : Prop := FT lo T K k ∨ k = r ∨ k = p5
structure Inn (w : World) (lo hi r p5 b n0 : Nat) (vals : Array Value) (st : List Pl) (l : List V) (T0 : Ty) (j : Nat) (wr : World) (T : Ty) (K : Ky) : Prop where
  stk : Stk wr (Fz lo r p5 T K) b (st.map Pl.pr)
  hp : Heap wr lo hi T K
  hr : lo ≤ r
  hh : r < hi
  hs : hi ≤ wr.heap.size
  bel : Below lo w wr
  pl : wr.heap[p5]? = some (.cells vals 44 (0, 0))
  lp : hi ≤ p5
  res : wr.heap[r]? = some zrow
  ext : ∀ n l, T0 n = some l → T n = some l
  at0 : T n0 = some l
  own : ∀ i, i < j → (h : i < l.length) → ∃ y, At wr n0 (i * 5) y ∧ Own1 T K l[i] y
  done : ∀ n l', T n = some l' → (∃ q ∈ st, q.A = some ⟨n, 0, none⟩) ∨ n = n0 ∨ Done wr T K n l' ∨ ∃ i, i < j ∧ i < l.length ∧ ∃ y, At wr n0 (i * 5) y ∧ y.la = some ⟨n, 0, none⟩
section
variable {w : World} {lo hi r p5 b n0 : Nat} {vals : Array Value} {st : List Pl} {l : List V} {T0 : Ty} {j : Nat} {wr : World} {T : Ty} {K : Ky}
theorem Inn.lo_le (h : Inn w lo hi r p5 b n0 vals st l T0 j wr T K) : lo ≤ wr.heap.size := Nat.le_trans h.hp.le h.hs
theorem Inn.lt (h : Inn w lo hi r p5 b n0 vals st l T0 j wr T K) : ∀ k, Fz lo r p5 T K k → k < wr.heap.size := by
  rintro k (hk | rfl | rfl)
  · exact h.hp.lt h.lo_le k hk
  · have := h.hs
    have := h.hh
    omega
  · exact (Array.getElem?_eq_some_iff.1 h.pl).1
theorem Inn.np (h : Inn w lo hi r p5 b n0 vals st l T0 j wr T K) : n0 ≠ p5 ∧ n0 ≠ r := by
  obtain ⟨e1, _, ⟨c, e3⟩, _⟩ := h.hp.t n0 l h.at0
  refine ⟨fun e => ?_, fun e => ?_⟩
  · have := h.pl
    rw [← e, e3] at this
    simp at this
  · have := h.hh
    omega
theorem Inn.step (h : Inn w lo hi r p5 b n0 vals st l T0 j wr T K) (hj : j < l.length) {w1 : World} (hb : Below wr.heap.size wr w1) {ys : List X} {ka la : Option Addr} {kc lc : Nat} (h1 : l[j].ks.length ≤ kc) (h2 : l[j].l.length ≤ lc)
    (h3 : KeysNew wr w1 ka l[j].ks) (h4 : ListNew wr w1 la l[j].l ys) (hys : ys.length = l[j].l.length) (hey : ∀ i (h1 : i < ys.length) (h2 : i < l[j].l.length), Elem wr lo T K l[j].l[i] ys[i]) :
    ∃ T' K', Inn w lo hi r p5 b n0 vals st l T0 (j + 1) (put5 w1 n0 (j * 5) ⟨l[j].k, l[j].n, l[j].s, ka, l[j].ks.length, kc, la, l[j].l.length, lc⟩) T' K' := by
  obtain ⟨T', K', g1, g2, g3, g4, g5, g6⟩ := h.hp.grow h.hs hb h1 h2 hys hey h3 h4
  obtain ⟨np1, np2⟩ := h.np
  have hn' : T' n0 = some l := g1 _ _ h.at0
  have hF0 : FT lo T K n0 := .inr (.inl (by rw [h.at0]; simp))
  have hw := h.lt
  have hfr1 : Fr (Fz lo r p5 T K) wr w1 := Fr.of hb hw
  have hfr2 := put5_fr w1 n0 (j * 5) ⟨l[j].k, l[j].n, l[j].s, ka, l[j].ks.length, kc, la, l[j].l.length, lc⟩
  have hn0 : hi ≤ n0 := (h.hp.t n0 l h.at0).1
  have hfr3 : Fr (fun k => Fz lo r p5 T K k ∧ k ≠ n0) wr (put5 w1 n0 (j * 5) ⟨l[j].k, l[j].n, l[j].s, ka, l[j].ks.length, kc, la, l[j].l.length, lc⟩) := (hfr1.mono fun k hk => hk.1).trans (hfr2.mono fun k hk => hk.2)
  have hold : ∀ i y, i ≠ j → At wr n0 (i * 5) y → At (put5 w1 n0 (j * 5) ⟨l[j].k, l[j].n, l[j].s, ka, l[j].ks.length, kc, la, l[j].l.length, lc⟩) n0 (i * 5) y := fun i y hij hy =>
    put5_other (hy.fr (.inl hF0) hfr1) (by omega)
  obtain ⟨yj, hyj, _⟩ := (h.hp.t n0 l h.at0).2.2.2 j hj
  have hnew := put5_same (y := ⟨l[j].k, l[j].n, l[j].s, ka, l[j].ks.length, kc, la, l[j].l.length, lc⟩) (hyj.fr (.inl hF0) hfr1)
  refine ⟨T', K', ⟨?_, g3.put hn' hj g4, h.hr, h.hh, ?_, ?_, ?_, h.lp, ?_, fun n l hn => g1 _ _ (h.ext n l hn), hn', fun i hi hil => ?_, fun n l' hn => ?_⟩⟩
  · have hs1 : Stk wr (Fz lo r p5 T' K') b (st.map Pl.pr) := h.stk.mono fun k hk hks => by
      left
      rcases hk with (hk | hk | hk) | hk
      · exact .inl (.inl hk)
      · rcases g5 k hk with hk | ⟨hk, _⟩
        · exact .inl (.inr (.inl hk))
        · omega
      · rcases g6 k hk with hk | hk
        · exact .inl (.inr (.inr hk))
        · omega
      · exact .inr hk
    have hs2 := hs1.below hb
    refine hs2.fr hfr2 fun k hk e => hs2.foot_not hk ?_
    rw [e]
    exact .inl (.inr (.inl (by rw [hn']; simp)))
  · have := hb.size
    have := hfr2.size
    have := h.hs
    omega
  · have h1 : Below lo wr w1 := hb.mono h.lo_le
    exact h.bel.trans (h1.trans (hfr2.mono fun k (hk : k < lo) => by have := h.hp.le; show k ≠ n0; omega).below)
  · exact (hfr3.block p5 ⟨.inr (.inr rfl), np1.symm⟩).trans h.pl
  · exact (hfr3.block r ⟨.inr (.inl rfl), np2.symm⟩).trans h.res
  · by_cases e : i = j
    · subst e
      exact ⟨_, hnew, g4⟩
    · obtain ⟨y, y1, y2⟩ := h.own i (by omega) hil
      exact ⟨y, hold i y e y1, y2.mono g1 g2⟩
  · rcases g5 n (by rw [hn]; simp) with ho | ⟨_, ho⟩
    · obtain ⟨l2, hl2⟩ := Option.ne_none_iff_exists'.1 ho
      have : l2 = l' := by
        have := g1 _ _ hl2
        rw [hn] at this
        injection this with this
        exact this.symm
      subst this
      rcases h.done n l2 hl2 with h | h | h | ⟨i, i1, i2, y, y1, y2⟩
      · exact .inl h
      · exact .inr (.inl h)
      · by_cases e : n = n0
        · exact .inr (.inl e)
        · exact .inr (.inr (.inl (h.mono g1 g2 hfr3 ⟨.inl (.inr (.inl (by rw [hl2]; simp))), e⟩)))
      · exact .inr (.inr (.inr ⟨i, by omega, i2, y, hold i y (by omega) y1, y2⟩))
    · exact .inr (.inr (.inr ⟨j, by omega, hj, _, hnew, ho⟩))
end

def Fx (lo r : Nat) (T : Ty) (K : Ky) (k : Nat) : Prop := FT lo T K k ∨ k = r
structure Out (w : World) (lo hi r b g : Nat) (v : V) (st : List Pl) (wr : World) (T : Ty) (K : Ky) : Prop where
  stk : Stk wr (Fx lo r T K) b (st.map Pl.pr)
  hp : Heap wr lo hi T K
  hr : lo ≤ r
  hh : r < hi
  hs : hi ≤ wr.heap.size
  bel : Below lo w wr
  res : wr.heap[r]? = some zrow
  root : T g = some [v]
  pls : ∀ p ∈ st, ∃ n, p.A = some ⟨n, 0, none⟩ ∧ T n = some p.l
  done : ∀ n l, T n = some l → (∃ p ∈ st, p.A = some ⟨n, 0, none⟩) ∨ Done wr T K n l
section
variable {w : World} {lo hi r b g n0 p5 d : Nat} {v : V} {vals : Array Value} {st : List Pl} {p : Pl} {l : List V} {T0 : Ty} {j : Nat} {wr wl we : World} {T : Ty} {K : Ky}
theorem Out.lt (h : Out w lo hi r b g v st wr T K) : ∀ k, Fx lo r T K k → k < wr.heap.size := by
  have h1 := h.hs
  have h2 := h.hh
  have h3 := h.hp.le
  rintro k (hk | rfl)
  · exact h.hp.lt (by omega) k hk
  · omega
theorem Out.inn (h : Out w lo hi r b g v (st ++ [p]) wr T K) (hA : p.A = some ⟨n0, 0, none⟩) (hn : T n0 = some p.l) (hs : Stk wl (Fx lo r T K) b (st.map Pl.pr)) (hfr : Fr (Fx lo r T K) wr wl) (vals : Array Value) :
    Inn w lo hi r wl.heap.size b n0 vals st p.l T 0 (wl.alloc (.cells vals 44)) T K := by
  have hlt := h.lt
  have hfr2 : Fr (Fx lo r T K) wr (wl.alloc (.cells vals 44)) := hfr.alloc hlt _
  have h1 := h.hs
  have h2 := hfr.size
  refine ⟨(hs.mono fun k hk hks => ?_).alloc _, h.hp.fr (hfr2.mono fun k hk => .inl hk), h.hr, h.hh, by simp; omega, h.bel.trans (hfr2.mono fun k (hk : k < lo) => .inl (.inl hk)).below, hp_new rfl, by omega,
    (hfr2.block r (.inr rfl)).trans h.res, fun _ _ h => h, hn, fun i hi => by omega, fun n l' hn' => ?_⟩
  · left
    rcases hk with hk | hk | hk
    · exact .inl hk
    · exact .inr hk
    · omega
  · rcases h.done n l' hn' with ⟨q, hq, e⟩ | hd
    · rcases List.mem_append.1 hq with hq | hq
      · exact .inl ⟨q, hq, e⟩
      · simp at hq
        subst hq
        rw [hA] at e
        have : n = n0 := by simpa using e.symm
        exact .inr (.inl this)
    · exact .inr (.inr (.inl (hd.mono (fun _ _ h => h) (fun _ _ h => h) hfr2 (.inl (.inr (.inl (by rw [hn']; simp)))))))
theorem Inn.pairs (h : Inn w lo hi r p5 b n0 vals st l T0 l.length wr T K) : ∃ ps : List (V × X), ps.map (·.1) = l ∧ (∀ i (h : i < (ps.map (·.2)).length), At wr n0 (0 + i * 5) (ps.map (·.2))[i]) ∧ ∀ q ∈ ps, Own1 T K q.1 q.2 := by
  obtain ⟨ys, h1, h2⟩ := choose_list (l := l) (P := fun i u y => At wr n0 (i * 5) y ∧ Own1 T K u y) fun i hi => h.own i hi hi
  refine ⟨l.zip ys, List.map_fst_zip (by omega), fun i hi => ?_, fun q hq => ?_⟩
  · have e : (l.zip ys).map (·.2) = ys := List.map_snd_zip (by omega)
    have hi' : i < ys.length := by rw [e] at hi; exact hi
    have : ((l.zip ys).map (·.2))[i] = ys[i] := by simp
    rw [this, Nat.zero_add]
    exact (h2 i hi' (by omega)).1
  · obtain ⟨i, hi, rfl⟩ := List.mem_iff_getElem.1 hq
    simp at hi
    rw [List.getElem_zip]
    exact (h2 i (by omega) (by omega)).2
theorem Inn.out (h : Inn w lo hi r p5 b n0 vals st l T0 l.length wr T K) {ps : List (V × X)} (h1 : ps.map (·.1) = l) (h2 : ∀ i (h : i < (ps.map (·.2)).length), At wr n0 (0 + i * 5) (ps.map (·.2))[i]) (h3 : ∀ q ∈ ps, Own1 T K q.1 q.2)
    (hs : Stk we (Fz lo r p5 T K) b ((st ++ kidsP d ps).map Pl.pr)) (hfr : Fr (Fz lo r p5 T K) wr we) (hpl : ∀ q ∈ st, ∃ n, q.A = some ⟨n, 0, none⟩ ∧ T0 n = some q.l) (hg : T0 g = some [v]) :
    Out w lo hi r b g v (st ++ kidsP d ps) we T K := by
  have hh := h.hs
  have hz := hfr.size
  have hlen : ps.length = l.length := by rw [← h1]; simp
  refine ⟨hs.less fun k hk => ?_, h.hp.fr (hfr.mono fun k hk => .inl hk), h.hr, h.hh, by omega, h.bel.trans (hfr.mono fun k (hk : k < lo) => .inl (.inl hk)).below, (hfr.block r (.inr (.inl rfl))).trans h.res, h.ext _ _ hg, fun q hq => ?_, fun n l' hn => ?_⟩
  · rcases hk with hk | hk
    · exact .inl hk
    · exact .inr (.inl hk)
  · rcases List.mem_append.1 hq with hq | hq
    · obtain ⟨n, e1, e2⟩ := hpl q hq
      exact ⟨n, e1, h.ext _ _ e2⟩
    · unfold kidsP at hq
      obtain ⟨u, hu, rfl⟩ := List.mem_map.1 hq
      obtain ⟨hu, h0⟩ := List.mem_filter.1 hu
      have h0 := of_decide_eq_true h0
      obtain ⟨_, _, e1, _, e2⟩ := h3 u hu
      rcases e2 with ⟨e2, _⟩ | ⟨n, e2, e3⟩
      · rw [e1, e2] at h0
        simp at h0
      · exact ⟨n, e2, e3⟩
  · have hF : Fz lo r p5 T K n := .inl (.inr (.inl (by rw [hn]; simp)))
    rcases h.done n l' hn with ⟨q, hq, e⟩ | e | hd | ⟨i, _, hi, y, y1, y2⟩
    · exact .inl ⟨q, by simp [hq], e⟩
    · subst e
      rw [h.at0] at hn
      injection hn with hn
      subst hn
      exact .inr (Done.mono (fun i hi => h.own i hi hi) (fun _ _ h => h) (fun _ _ h => h) hfr hF)
    · exact .inr (hd.mono (fun _ _ h => h) (fun _ _ h => h) hfr hF)
    · left
      have hi' : i < ps.length := by omega
      have y3 := h2 i (by simpa using hi')
      rw [Nat.zero_add, List.getElem_map] at y3
      have := at_inj y1 y3
      subst this
      have hm : ps[i] ∈ ps := List.getElem_mem hi'
      obtain ⟨_, _, e1, _, e2⟩ := h3 _ hm
      rcases e2 with ⟨_, e2⟩ | ⟨m, e2, e3⟩
      · rw [e2] at y2
        cases y2
      · have hl := (h.hp.t m _ e3).2.1
        refine ⟨⟨ps[i].2.la, ps[i].2.lc, ps[i].1.l, d + 1⟩, List.mem_append.2 (.inr ?_), y2⟩
        unfold kidsP
        refine List.mem_map.2 ⟨ps[i], List.mem_filter.2 ⟨hm, decide_eq_true ?_⟩, rfl⟩
        rw [e1]
        exact List.length_pos_iff.2 hl
end
/-- a copy of v, in memory of its own -/
structure Copied (w w' : World) (v : V) (y : X) (T : Ty) (K : Ky) : Prop where
  bel : Below w.heap.size w w'
  hp : Heap w' w.heap.size w.heap.size T K
  own : Own1 T K v y
  done : ∀ n l, T n = some l → Done w' T K n l
theorem Copied.is {w w' : World} {v : V} {y : X} {T : Ty} {K : Ky} (h : Copied w w' v y T K) : Is w' v y := h.hp.read h.bel.size _ _ (.inr h.own)
end Go.Proofs.YtnjcofjphneccaaDoor
