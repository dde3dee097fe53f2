/-
  ROWS OF PARTS that a call owns; what a reader has still to read.
-/
import Derived.Test.YtkanpdhlpobfoaaDoorH
namespace Go.Proofs.YtkanpdhlpobfoaaDoor
open Go.RowKit
open K (Pt)

/-! a row of parts -/
def flat : List Pt → List Value
  | [] => []
  | p :: r => .bool p.t :: .int .i64 p.n :: .string p.s :: flat r
theorem flat_length (k : List Pt) : (flat k).length = k.length * 3 := by
  induction k with
  | nil => rfl
  | cons p r ih => simp only [flat, List.length_cons, ih]; omega
theorem flat_append (a b : List Pt) : flat (a ++ b) = flat a ++ flat b := by
  induction a with
  | nil => rfl
  | cons p r ih => simp only [List.cons_append, flat, ih]
theorem flat_at (k : List Pt) (j : Nat) (h : j < k.length) : (flat k)[j * 3]? = some (.bool k[j].t) ∧ (flat k)[j * 3 + 1]? = some (.int .i64 k[j].n) ∧ (flat k)[j * 3 + 2]? = some (.string k[j].s) := by
  induction k generalizing j with
  | nil => simp at h
  | cons p r ih =>
    cases j with
    | zero => exact ⟨rfl, rfl, rfl⟩
    | succ j =>
      have := ih j (by simpa using h)
      rw [show (j + 1) * 3 = j * 3 + 3 by omega]
      simp only [List.getElem_cons_succ]
      exact this
theorem infoP : (Tryd.prog.info? 39).map (fun i => (i.zero, i.size, i.bytes)) = some (some (.agg #[.bool false, .int .i64 0, .string ⟨#[]⟩]), 3, 32) := by kernel_rfl
abbrev OwnP (w : World) (B : Nat) (v : Value) (k : List Pt) : Prop := w.ownsRow B 39 3 v k.length (flat k)
theorem OwnP.nil (w : World) (B : Nat) : OwnP w B (.slice none 0 0) [] := World.ownsRow_nil _ _ _ _
theorem OwnP.open {w : World} {B : Nat} {v : Value} {k : List Pt} (h : OwnP w B v k) : ∃ A c, v = .slice A k.length c ∧ k.length ≤ c ∧ Row w A k := by
  rcases h.2 with ⟨rfl, h0⟩ | ⟨g, cap, cur, rfl, hb, hg, hc, _⟩
  · rw [h0]
    exact ⟨_, _, rfl, Nat.le_refl _, .inl (List.eq_nil_of_length_eq_zero h0)⟩
  · refine ⟨_, _, rfl, hc, .inr ⟨g, 0, rfl, (Array.getElem?_eq_some_iff.1 hg).1, fun j hj => ?_⟩⟩
    obtain ⟨h0, h1, h2⟩ := flat_at k j hj
    have e := fun i u hu => h.cells (g := g) rfl i u hu
    refine ⟨?_, ?_, ?_⟩
    · have := e _ _ h0
      rw [add_lit] at this
      exact this
    · have := e _ _ h1
      rw [add_lit] at this
      exact this
    · have := e _ _ h2
      rw [add_lit] at this
      exact this
/-- append of a part -/
theorem app_part {w : World} {ops : Array Oper} {rest : List Oper} {o : Oper} {a : Act} {Q : Exit → Act → World → Prop} (hgd : o.guard = none) (sl x : Operand)
    (ho : o.op = .call { callee := .builtin .append, args := #[sl, x], argTypes := #[22, 22] })
    (B : Nat) (hB : B ≤ w.heap.size) (v : Value) (k : List Pt) (hs : a.eval sl = v) (h0 : OwnP w B v k) (arr : Array Value) (m : Nat) (p : Pt) (g : Nat) (hx : a.eval x = .slice (some ⟨g, 0, none⟩) m m) (hg : g = w.heap.size) (hm : m = 1) (harr : arr = #[.bool p.t, .int .i64 p.n, .string p.s]) (hlim : k.length ≤ 1048576)
    (h : ∀ v' w', OwnP w' B v' (k ++ [p]) → Below B w w' → wpList Tryd.prog ops Q rest (a.put o.dst v') w') : wpList Tryd.prog ops Q (o :: rest) a (w.alloc (.cells arr 39)) := by
  obtain ⟨i0, hi, hz0, hz1, hz2⟩ := info_parts infoP
  subst hg
  subst hm
  subst harr
  have hown : OwnP (w.alloc (.cells #[.bool p.t, .int .i64 p.n, .string p.s] 39)) B v k := own_below h0 (below_alloc _ _)
  refine wpList_append_own _ hgd sl x 22 ho B 39 i0 _ 3 32 Tryd.underlying22 hi hz0 hz1 hz2 rfl (by decide) v k.length (flat k) hs hown ⟨w.heap.size, 0, none⟩ 1 1 [.bool p.t, .int .i64 p.n, .string p.s] hx rfl ?_ ?_ (by unfold maxLen; omega) (by omega) (by simp; omega) ?_
  · intro j u hj
    rw [add_lit, World.cell?_alloc_at _ _ _ _ rfl]
    simpa using hj
  · intro u hu
    simp only [List.mem_cons, List.not_mem_nil, or_false] at hu
    rcases hu with rfl | rfl | rfl <;> rfl
  · intro v' w' hown' hg _
    refine h v' w' ?_ (((Below.refl B w).alloc hB _).grown hg (by simp; omega) fun k' hk => (hown.lt k' hk).1)
    unfold OwnP
    rw [flat_append, List.length_append]
    exact hown'

/-! what is still to be read -/
/-- if s is a key's bytes, then k' begins it, and t are the bytes of what follows -/
def Inv (s : Bs) (k' : List Pt) (t : Bs) : Prop := ∀ k, K.dec s = some k → ∃ r, k = k' ++ r ∧ t = K.encs r
theorem Inv.start (s : Bs) : Inv s [] s := fun k h => ⟨k, rfl, ((K.dec_iff _ _).1 h).1.symm⟩
theorem Inv.step {s t t' : Bs} {k' : List Pt} {q : Pt} (h : Inv s k' t) (ht : t ≠ []) (hd : ∀ p x, K.hd t = some (p, x) → p = q ∧ x = t') : Inv s (k' ++ [q]) t' := by
  intro k hk
  obtain ⟨r, rfl, rfl⟩ := h k hk
  cases r with
  | nil => exact absurd rfl ht
  | cons p r =>
    have hm := ((K.dec_iff _ _).1 hk).2 p (by simp)
    obtain ⟨rfl, e⟩ := hd p (K.encs r) (by rw [K.encs_cons]; exact K.hd_enc hm _)
    exact ⟨r, by simp, e.symm⟩
theorem Inv.stop {s t : Bs} {k' : List Pt} (h : Inv s k' t) (ht : t ≠ []) (hd : ∀ p x, ¬ K.hd t = some (p, x)) : ∀ k, K.dec s = some k → k = k' := by
  intro k hk
  obtain ⟨r, rfl, rfl⟩ := h k hk
  cases r with
  | nil => exact absurd rfl ht
  | cons p r =>
    have hm := ((K.dec_iff _ _).1 hk).2 p (by simp)
    exact absurd (by rw [K.encs_cons]; exact K.hd_enc hm _) (hd p (K.encs r))
theorem Inv.done {s : Bs} {k' : List Pt} (h : Inv s k' []) : ∀ k, K.dec s = some k → k = k' := by
  intro k hk
  obtain ⟨r, rfl, e⟩ := h k hk
  cases r with
  | nil => simp
  | cons p r =>
    obtain ⟨c, t, e2, _⟩ := K.enc_ne p (K.encs r)
    rw [K.encs_cons, e2] at e
    cases e
theorem hd_num {r : Bs} (h : 8 ≤ r.length) (p : Pt) (x : Bs) (hp : K.hd (16 :: r) = some (p, x)) : p = ⟨false, (K.pv (r.take 8) : Int) - 9223372036854775808, ⟨#[]⟩⟩ ∧ x = r.drop 8 := by
  rw [K.hd, if_pos rfl, if_pos h] at hp
  simp only [Option.some.injEq, Prod.mk.injEq] at hp
  exact ⟨hp.1.symm, hp.2.symm⟩
theorem hd_short {r : Bs} (h : r.length < 8) (p : Pt) (x : Bs) : ¬ K.hd (16 :: r) = some (p, x) := by
  rw [K.hd, if_pos rfl, if_neg (by omega)]
  simp
theorem hd_other {c : UInt8} {r : Bs} (h1 : c ≠ 16) (h2 : c ≠ 32) (p : Pt) (x : Bs) : ¬ K.hd (c :: r) = some (p, x) := by
  rw [K.hd, if_neg h1, if_neg h2]
  simp
theorem hd_text {r : Bs} {p : Pt} {x : Bs} (hp : K.hd (32 :: r) = some (p, x)) : ∃ l, p = ⟨true, 0, ⟨l.toArray⟩⟩ ∧ r = K.esc l ++ 0 :: 1 :: x := by
  rw [K.hd, if_neg (by decide), if_pos rfl] at hp
  cases hu : K.unesc r with
  | none => rw [hu] at hp; simp at hp
  | some q =>
    rw [hu] at hp
    simp only [Option.map_some, Option.some.injEq, Prod.mk.injEq] at hp
    obtain ⟨rfl, rfl⟩ := hp
    exact ⟨q.1, rfl, K.esc_un r.length r q.1 q.2 (Nat.le_refl _) hu⟩
theorem hd_uncut {r : Bs} (h : (Lib.cut r [0, 1]).2.2 = false) (p : Pt) (x : Bs) : ¬ K.hd (32 :: r) = some (p, x) := by
  intro hp
  obtain ⟨l, _, rfl⟩ := hd_text hp
  rw [K.cut_esc] at h
  cases h
theorem hd_cut {r : Bs} (p : Pt) (x : Bs) (hp : K.hd (32 :: r) = some (p, x)) : p = ⟨true, 0, ⟨(Lib.replaceAll (Lib.cut r [0, 1]).1 [0, 255] [0]).toArray⟩⟩ ∧ x = (Lib.cut r [0, 1]).2.1 := by
  obtain ⟨l, rfl, rfl⟩ := hd_text hp
  rw [K.cut_esc]
  rw [K.all_unesc]
  exact ⟨rfl, rfl⟩
theorem cut_room {r : Bs} (h : (Lib.cut r [0, 1]).2.2 = true) : (Lib.cut r [0, 1]).1.length + 2 + (Lib.cut r [0, 1]).2.1.length = r.length := by
  unfold Lib.cut at *
  split at h
  · rename_i hi
    have := Lib.index_room r [0, 1] hi
    rw [if_pos hi]
    simp only [List.length_take, List.length_drop, List.length_cons, List.length_nil] at *
    omega
  · cases h
end Go.Proofs.YtkanpdhlpobfoaaDoor
