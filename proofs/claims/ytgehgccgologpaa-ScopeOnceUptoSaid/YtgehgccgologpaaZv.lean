/-
  A map of places, by name; rows cut in two; what is told once.
-/
import Derived.Test.YtgehgccgologpaaZu
import Derived.Maps.OwnOps
import Derived.Maps.Views
namespace Go.Proofs.Ytgehgccgologpaa.Z
open Go.RowKit Go.Shelf Go.Maps Go.Proofs.Ytgehgccgologpaa Go.Proofs.Ytgehgccgologpaa.R Go.Proofs.Ytgehgccgologpaa.T

abbrev zeroD : DataW Unit := .lit (.int .i64 0)
/-- D tells of each name on L where it stands, from 1 on -/
structure Plc (D : DataW Unit) (L : List ByteArray) : Prop where
  im : IsMap D
  at' : ∀ j (h : j < L.length), D.atKey (keyL L[j]) zeroD = .lit (.int .i64 ((j : Int) + 1))
  no : ∀ s, s ∉ L → D.atKey (keyL s) zeroD = zeroD
theorem plc_nil : Plc (.map []) [] := ⟨isMap_empty, fun _ h => absurd h (Nat.not_lt_zero _), fun _ _ => rfl⟩
theorem Plc.snoc {D : DataW Unit} {L : List ByteArray} (h : Plc D L) {s : ByteArray} (hs : s ∉ L) : Plc (D.put (keyL s) (.lit (.int .i64 ((L.length : Int) + 1)))) (L ++ [s]) := by
  refine ⟨h.im.put _ _, fun j hj => ?_, fun t ht => ?_⟩
  · by_cases hl : j < L.length
    · rw [List.getElem_append_left hl, atKey_put_other (fun e => hs (by have := keyL_inj e; rw [← this]; exact List.getElem_mem hl))]
      exact h.at' j hl
    · have hj2 : j = L.length := by rw [List.length_append, List.length_singleton] at hj; omega
      subst hj2
      rw [List.getElem_append_right (by omega)]
      simp only [Nat.sub_self, List.getElem_cons_zero]
      exact atKey_put_same h.im (keyL_lit s) _ _
  · rw [List.mem_append, List.mem_singleton] at ht
    rw [atKey_put_other (fun e => ht (.inr (keyL_inj e)))]
    exact h.no t fun e => ht (.inl e)
theorem notin_take {L : List ByteArray} (h : L.Nodup) {k : Nat} (hk : k < L.length) : L[k] ∉ L.take k := fun e => by
  obtain ⟨j, hj, he⟩ := List.getElem_of_mem e
  rw [List.length_take] at hj
  rw [List.getElem_take] at he
  exact absurd (List.getElem_inj h |>.1 he) (by omega)
theorem Plc.next {D : DataW Unit} {L : List ByteArray} (hn : L.Nodup) {k : Nat} (hk : k < L.length) (h : Plc D (L.take k)) : Plc (D.put (keyL L[k]) (.lit (.int .i64 ((k : Int) + 1)))) (L.take (k + 1)) := by
  have h1 := h.snoc (notin_take hn hk)
  rw [List.length_take, Nat.min_eq_left (by omega)] at h1
  rw [List.take_succ_eq_append_getElem hk]
  exact h1
theorem look_int {P : Program} (w : World) {ops : Array Oper} {rest : List Oper} {o : Oper} {a : Act} {Q : Exit → Act → World → Prop}
    (hg : o.guard = none) (m x : Operand) (t : TypeId) (hop : o.op = Op.lookup t m x false)
    (k e : TypeId) (q : IntKind) (K : Keyed P k) (ht : P.underlying t = some (.map k e)) (he : P.underlying e = some (.int q)) (hz : (zeroValue e).run P w = .ok (.int q 0) w) (b n : Nat) (D : DataW Unit)
    (hm : a.eval m = .map (some b)) (hown : w.ownsMap P k (plainElem P e) b n D) (key : Value) (kl : Lit) (hx : a.eval x = key) (hkey : keyOf P k key = some kl) (c : Int) (hc : D.atKey kl (.lit (.int q 0)) = .lit (.int q c))
    (hK : wpList P ops Q rest (a.put o.dst (.int q c)) w) :
    wpList P ops Q (o :: rest) a w :=
  wpList_lookup_own_int w hg m x t hop k e q K ht he hz b n D hm hown key kl hx hkey fun c' hat _ => by
    rw [hc] at hat
    have h : c = c' := by
      injection hat with h
      injection h
    subst h
    exact hK
theorem ownsMap_low {P : Program} {k : TypeId} {R : Value → Option (DataW Unit × List MemPlace)} {b n : Nat} {D : DataW Unit} {w w' : World} (h : w.ownsMap P k R b n D) (hb : Below w.heap.size w w') : w'.ownsMap P k R b n D := by
  obtain ⟨es, clock, h5, F, h6, hD⟩ := h
  exact ⟨es, clock, (hb.block b (Array.getElem?_eq_some_iff.1 h5).1).trans h5, F, h6, hD⟩
theorem wf_small {k : Nat} (h : k ≤ 4194304) : (Lit.int .i64 ((k : Int) + 1)).wf = true := by
  have h1 : IntKind.i64.min = -9223372036854775808 := by decide
  have h2 : IntKind.i64.max = 9223372036854775807 := by decide
  rw [Lit.wf, h1, h2, Bool.and_eq_true, decide_eq_true_eq, decide_eq_true_eq]
  omega
/-! a row cut in two -/
theorem row_take {w : World} {B : Nat} {A : Option Addr} {l : List V} (h : RowB w B A l) (k : Nat) : RowB w B A (l.take k) := by
  rcases h with rfl | ⟨g, o, rfl, hg, ha⟩
  · exact .inl (by simp)
  · refine .inr ⟨g, o, rfl, hg, (isAll_iff _ _ _ _ _).2 fun i hi => ?_⟩
    rw [List.getElem_take]
    exact (isAll_iff _ _ _ _ _).1 ha i _
theorem row_drop {w : World} {B g o : Nat} {l : List V} (h : RowB w B (some ⟨g, o, none⟩) l) (k : Nat) : RowB w B (some ⟨g, o + k * 6, none⟩) (l.drop k) := by
  rcases h with rfl | ⟨g', o', e, hg, ha⟩
  · exact .inl (by simp)
  · cases e
    refine .inr ⟨g, _, rfl, hg, (isAll_iff _ _ _ _ _).2 fun i hi => ?_⟩
    rw [List.length_drop] at hi
    obtain ⟨y, h1, h2⟩ := (isAll_iff _ _ _ _ _).1 ha (k + i) (by omega)
    rw [List.getElem_drop]
    refine ⟨y, ?_, h2⟩
    have e : o + k * 6 + i * 6 = o + (k + i) * 6 := by omega
    rw [e]
    exact h1
theorem bulks_append : ∀ a b : List V, V.bulks (a ++ b) = V.bulks a + V.bulks b
  | [], b => by simp [V.bulks]
  | v :: r, b => by rw [List.cons_append, V.bulks, V.bulks, bulks_append r b]; omega
theorem bulks_cut (l : List V) (k : Nat) : V.bulks (l.take k) + V.bulks (l.drop k) = V.bulks l := by rw [← bulks_append, List.take_append_drop]
/-! what is told once -/
theorem decl_size {l : List V} {s : ByteArray} (h : s ∈ decl l) : s.size ≤ V.bulks l := by
  rw [← nms_wi [] l] at h
  unfold nms at h
  obtain ⟨x, hx, rfl⟩ := List.mem_map.1 h
  have h1 := bulk_wi (List.mem_filter.1 hx).1
  have h2 := bulk_parts x.2
  omega
theorem decl_len (l : List V) : (decl l).length ≤ V.sizes l := by
  rw [← nms_wi [] l]
  unfold nms
  rw [List.length_map]
  exact Nat.le_trans (List.length_filter_le _ _) (len_wi [] l)
theorem vars_size {l : List V} {s : ByteArray} (h : s ∈ vars l) : s.size ≤ V.bulks l := decl_size ((mem_unq _ _).1 h)
theorem vars_len (l : List V) : (vars l).length ≤ V.bulks l := Nat.le_trans (unq_len _) (Nat.le_trans (decl_len l) (sizes_le_bulks l))
theorem vars_take (l : List V) (k : Nat) : ∃ r, vars l = vars (l.take k) ++ r := by
  have h := unq_prefix (decl (l.take k)) (decl (l.drop k))
  rw [← decl_append, List.take_append_drop] at h
  exact h
theorem vars_drop {l : List V} {k : Nat} {s : ByteArray} (h : s ∈ vars (l.drop k)) : s ∈ vars l := by
  rw [vars, mem_unq] at h ⊢
  rw [← List.take_append_drop k l, decl_append, List.mem_append]
  exact .inr h
theorem vars_at {l : List V} {k j : Nat} (h : j < (vars (l.take k)).length) : ∃ h2 : j < (vars l).length, (vars (l.take k))[j] = (vars l)[j] := by
  obtain ⟨r, hr⟩ := vars_take l k
  have h2 : j < (vars l).length := by rw [hr, List.length_append]; omega
  refine ⟨h2, ?_⟩
  have : (vars l)[j]? = (vars (l.take k) ++ r)[j]? := by rw [← hr]
  rw [List.getElem?_append_left h, List.getElem?_eq_getElem h2, List.getElem?_eq_getElem h] at this
  exact (Option.some.inj this).symm
theorem tmod_lt {a M : Int} (h : 0 < M) : -M < Int.tmod a M ∧ Int.tmod a M < M := ⟨Int.lt_tmod_of_pos a h, Int.tmod_lt_of_pos a h⟩
end Go.Proofs.Ytgehgccgologpaa.Z
