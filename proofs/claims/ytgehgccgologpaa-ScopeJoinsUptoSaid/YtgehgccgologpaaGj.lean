/-
  A set of names as a map to true; rows joined by append in a statement that draws its order; what two programs declare.
-/
import Derived.Test.YtgehgccgologpaaGb
import Derived.Maps.OwnOps
import Derived.Maps.Views
namespace Go.Proofs.Ytgehgccgologpaa.Z
open Go.RowKit Go.Shelf Go.Maps Go.Proofs.Ytgehgccgologpaa Go.Proofs.Ytgehgccgologpaa.R Go.Proofs.Ytgehgccgologpaa.T

/-! what is told once -/
theorem fold_mem {s : ByteArray} : ∀ (l out : List ByteArray), s ∈ out ∨ s ∈ l → s ∈ l.foldl unqF out := fun l out h => (mem_foldl l out s).2 h
theorem snoc_ind {α : Type} {p : List α → Prop} (h0 : p []) (h1 : ∀ l x, p l → p (l ++ [x])) : ∀ l, p l := fun l => by
  have : ∀ n, ∀ l : List α, l.length = n → p l := by
    intro n
    induction n with
    | zero => intro l h; rw [List.eq_nil_of_length_eq_zero h]; exact h0
    | succ n ih =>
      intro l h
      have hne : l ≠ [] := fun e => by subst e; cases h
      rw [← List.dropLast_concat_getLast hne]
      exact h1 _ _ (ih _ (by rw [List.length_dropLast]; omega))
  exact this _ l rfl
theorem fold_unq (out : List ByteArray) : ∀ B : List ByteArray, (unq B).foldl unqF out = B.foldl unqF out := by
  refine snoc_ind rfl fun B s ih => ?_
  rw [unq_snoc, List.foldl_append]
  show _ = unqF (B.foldl unqF out) s
  by_cases h : s ∈ unq B
  · have e1 : unqF (unq B) s = unq B := if_pos ((hasB_iff _ _).2 h)
    have e2 : unqF (B.foldl unqF out) s = B.foldl unqF out := if_pos ((hasB_iff _ _).2 (fold_mem _ _ (.inr ((mem_unq _ _).1 h))))
    rw [e1, e2, ih]
  · have e1 : unqF (unq B) s = unq B ++ [s] := if_neg fun e => h ((hasB_iff _ _).1 e)
    rw [e1, List.foldl_append, ih]
    rfl
theorem vars_app (a b : List V) : vars (a ++ b) = unq (vars a ++ vars b) := by
  unfold vars
  rw [decl_append]
  show (decl a ++ decl b).foldl unqF [] = (unq (decl a) ++ unq (decl b)).foldl unqF []
  rw [List.foldl_append, List.foldl_append, fold_unq, fold_unq]
/-! a set of names as a map to true -/
abbrev trueD : DataW Unit := .lit (.bool true)
def setT (L : List ByteArray) : DataW Unit := setOf trueD (L.map keyL)
theorem setT_put (L : List ByteArray) (s : ByteArray) : (setT L).put (keyL s) trueD = setT (L ++ [s]) := by
  unfold setT
  rw [List.map_append, List.map_singleton, setOf_snoc]
theorem keys_lit (L : List ByteArray) : ∀ x ∈ L.map keyL, WideAt.IsKeyLit x := fun x hx => by
  obtain ⟨y, _, rfl⟩ := List.mem_map.1 hx
  exact keyL_lit y
theorem setT_map (L : List ByteArray) : IsMap (setT L) := (tidy_setOf _ _ (keys_lit L)).isMap
theorem setT_at {s : ByteArray} : ∀ L : List ByteArray, s ∈ L → (setT L).atKey (keyL s) (.lit (.bool false)) = .lit (.bool true) := by
  refine snoc_ind (fun h => absurd h (List.not_mem_nil)) fun L t ih h => ?_
  rw [← setT_put]
  by_cases e : s = t
  · subst e
    exact atKey_put_same (setT_map L) (keyL_lit s) _ _
  · rw [atKey_put_other (fun e' => e (keyL_inj e'))]
    refine ih ?_
    rcases List.mem_append.1 h with h | h
    · exact h
    · exact absurd (List.mem_singleton.1 h) e
theorem addKey_map (acc : List ByteArray) (s : ByteArray) : addKey (acc.map keyL) (keyL s) = (unqF acc s).map keyL := by
  unfold addKey unqF
  rw [any_keyL]
  split <;> simp
theorem fold_keys : ∀ (L acc : List ByteArray), (L.map keyL).foldl addKey (acc.map keyL) = (L.foldl unqF acc).map keyL
  | [], _ => rfl
  | s :: r, acc => by rw [List.map_cons, List.foldl_cons, addKey_map, fold_keys r, List.foldl_cons]
theorem setT_size (L : List ByteArray) : Maps.size (setT L) = (unq L).length := by
  unfold setT
  rw [size_setOf _ _ (keys_lit L)]
  have := fold_keys L []
  rw [List.map_nil] at this
  rw [this, List.length_map]
  rfl
theorem look_true {P : Program} (w : World) {ops : Array Oper} {rest : List Oper} {o : Oper} {a : Act} {Q : Exit → Act → World → Prop}
    (hg : o.guard = none) (m x : Operand) (t : TypeId) (hop : o.op = Op.lookup t m x false)
    (k e : TypeId) (K : Keyed P k) (ht : P.underlying t = some (.map k e)) (he : P.underlying e = some .bool) (hz : (zeroValue e).run P w = .ok (.bool false) w) (b n : Nat) (D : DataW Unit)
    (hm : a.eval m = .map (some b)) (hown : w.ownsMap P k (plainElem P e) b n D) (key : Value) (kl : Lit) (hx : a.eval x = key) (hkey : keyOf P k key = some kl) (hc : D.atKey kl (.lit (.bool false)) = .lit (.bool true))
    (hK : wpList P ops Q rest (a.put o.dst (.bool true)) w) :
    wpList P ops Q (o :: rest) a w := by
  refine wpList_plain hg fun K' hK' => ?_
  obtain ⟨v, ps, hrun, hv⟩ := hown.lookup K ht hz (plainElem_bool he false) hkey
  rw [hc] at hv
  have hv2 : v = .bool true := by
    unfold plainElem at hv
    rw [he] at hv
    cases v <;> simp at hv
    rw [hv.1]
  subst hv2
  unfold Oper.wp
  simp [execOp, hop, hm, hx, hrun, Result.andThen]
  exact hK' _ _ hK
theorem ownsMap_lowT {P : Program} {k : TypeId} {R : Value → Option (DataW Unit × List MemPlace)} {b n : Nat} {D : DataW Unit} {w w' : World} (h : w.ownsMap P k R b n D) (hb : Below w.heap.size w w') : w'.ownsMap P k R b n D := by
  obtain ⟨es, clock, h5, F, h6, hD⟩ := h
  exact ⟨es, clock, (hb.block b (Array.getElem?_eq_some_iff.1 h5).1).trans h5, F, h6, hD⟩
theorem bulks_app : ∀ a b : List V, V.bulks (a ++ b) = V.bulks a + V.bulks b
  | [], b => by simp [V.bulks]
  | v :: r, b => by rw [List.cons_append, V.bulks, V.bulks, bulks_app r b]; omega
/-! rows joined -/
theorem row_xs {w : World} {n0 : Nat} {A : Option Addr} {l : List V} (h : RowB w n0 A l) : ∃ xs, XsIs w n0 xs l ∧ (xs = [] ∨ ∃ ad, A = some ad ∧ ∀ j u, (flatX xs)[j]? = some u → w.cell? (ad.add j) = some u) := by
  rcases h with rfl | ⟨g, o, rfl, _, h⟩
  · exact ⟨[], ⟨rfl, fun i h => absurd h (Nat.not_lt_zero _)⟩, .inl rfl⟩
  · obtain ⟨xs, h1, h2⟩ := xs_of o l h
    exact ⟨xs, h1, .inr ⟨_, rfl, fun j u hj => by rw [add_lit]; exact h2 j u hj⟩⟩
theorem run_zero_none {P : Program} {w : World} (t ty e : TypeId) (i : TypeInfo) (ht : P.underlying t = some (.slice e)) (hi : P.info? e = some i) (A : Option Addr) (n c c' : Nat) (hc : n ≤ c) :
    (Builtin.append_ #[t, t] ty #[.slice A n c, .slice none 0 c']).run P w = .ok (.slice A n c) w := by
  cases A <;> simp [Builtin.append_, run_underlying ht, sizeOf, typeInfo, hi, Builtin.lenOf, Builtin.firstCells, loadCells, hc, storeCells]
theorem step_X {ops : Array Oper} {o : Oper} {a : Act} {w : World} {K : Act → World → Prop} {Q : Exit → Act → World → Prop} {E : Prop} (hgd : o.guard = none) (s x : Operand)
    (ho : o.op = .call { callee := .builtin .append, args := #[s, x], argTypes := #[23, 23] })
    (b : Nat) (v : Value) (ys : List X) (hs : a.eval s = v) (hown : OwnX w b v ys) (A : Option Addr) (n c : Nat) (zs : List X) (hx : a.eval x = .slice A n c) (hn : n = zs.length)
    (hat : zs = [] ∨ ∃ ad, A = some ad ∧ ∀ j u, (flatX zs)[j]? = some u → w.cell? (ad.add j) = some u) (hl : ys.length ≤ 4194304) (hm : zs.length ≤ 4194304) (hb : b ≤ w.heap.size)
    (h : ∀ v' w', OwnX w' b v' (ys ++ zs) → w.grownBy w' v.ownBlock → K (a.put o.dst v') w') :
    if Region.wanted o (yielded ops a.tmps) = true then Oper.wp Try.prog o a w K Q else E := by
  have hw : Region.wanted o (yielded ops a.tmps) = true := by simp [Region.wanted, hgd]
  rw [if_pos hw]
  obtain ⟨i0, hi0, hz0, hz1, hz2⟩ := info_parts infoNd
  subst hn
  rcases A with _ | ad
  · obtain rfl : zs = [] := by
      rcases hat with h | ⟨_, e, _⟩
      · exact h
      · cases e
    obtain ⟨A', c', rfl⟩ : ∃ A' c', v = .slice A' ys.length c' := by
      rcases hown.2 with ⟨rfl, h0⟩ | ⟨g, cap, cur, rfl, _⟩
      · exact ⟨none, 0, by rw [h0]⟩
      · exact ⟨_, _, rfl⟩
    have hrun := run_zero_none (P := Try.prog) (w := w) 23 o.type 25 i0 (by kernel_rfl) hi0 A' ys.length c' c (own_addr hown).2.1
    unfold Oper.wp execOp
    simp only [ho, resolve, invoke, builtin, Sem.run_bind, Sem.run_pure, Result.andThen_ok, List.map_toArray, List.map_cons, List.map_nil, hs, hx, List.length_nil, hrun]
    exact h _ w (by rw [List.append_nil]; exact hown) ⟨rfl, rfl, rfl, Nat.le_refl _, fun _ _ _ => rfl⟩
  · have hat' : ∀ j u, (flatX zs)[j]? = some u → w.cell? (ad.add j) = some u := by
      rcases hat with rfl | ⟨ad', e, h⟩
      · intro j u hj; simp at hj
      · cases e; exact h
    obtain ⟨v', w', hr, q2, q3, -, -⟩ := run_append_own_at (P := Try.prog) w b 23 o.type 25 i0 _ 6 96 (by kernel_rfl) hi0 hz0 hz1 hz2 rfl (by decide) v ys.length (flatX ys) hown ad zs.length c (flatX zs) (flatX_len zs) hat' (flatX_one zs) (by unfold maxLen; omega) (by omega) hb
    unfold Oper.wp execOp
    simp only [ho, resolve, invoke, builtin, Sem.run_bind, Sem.run_pure, Result.andThen_ok, List.map_toArray, List.map_cons, List.map_nil, hs, hx, hr]
    refine h v' w' ?_ q3
    show w'.ownsRow b 25 6 v' (ys ++ zs).length (flatX (ys ++ zs))
    rw [List.length_append, flatX_append]
    exact q2
theorem vars_o (l : List V) (A : Option Addr) (n c : Nat) (w : World) (hrow : Row w A l) (hn : n = l.length) (hlc : n ≤ c) (hb : V.bulks l ≤ 4194304) :
    Calls Try.prog 16 #[.slice A n c] w fun e w2 => ∃ A2 c2, e = .returned (.slice A2 (vars l).length c2) ∧ OwnT w2 w.heap.size (.slice A2 (vars l).length c2) (vars l) ∧ Below w.heap.size w w2 := by
  subst hn
  refine (vars_any l A c w hrow hlc hb).mono fun e w2 ⟨nv, h1, h2, h3⟩ => ?_
  obtain ⟨A2, c2, rfl, -, -⟩ := h2.form
  exact ⟨A2, c2, h1, h2, h3⟩
theorem vars_sz {l : List V} {s : ByteArray} (h : s ∈ vars l) : s.size ≤ V.bulks l := by
  have h := (mem_unq _ _).1 h
  rw [← nms_wi [] l] at h
  unfold nms at h
  obtain ⟨x, hx, rfl⟩ := List.mem_map.1 h
  have h1 := bulk_wi (List.mem_filter.1 hx).1
  have h2 := bulk_parts x.2
  omega
theorem grown_trans {a b c : World} {m : Nat} (h : a.grownBy b (some m)) (k : b.grownBy c (some m)) : a.grownBy c (some m) :=
  ⟨k.os.trans h.os, k.tape.trans h.tape, k.output.trans h.output, Nat.le_trans h.size k.size, fun i h1 h2 => (k.block i (Nat.lt_of_lt_of_le h1 h.size) h2).trans (h.block i h1 h2)⟩
theorem ownT_grown {a b : World} {m B : Nat} {v : Value} {L : List ByteArray} (h : OwnT a B v L) (hg : a.grownBy b (some m)) (hm : m < B) : OwnT b B v L :=
  own_sameB h fun k hk => hg.block k (World.ownsRow.lt h k hk).2 fun e => by
    have h1 := (World.ownsRow.lt h k hk).1
    have h2 := Option.some.inj e
    omega
end Go.Proofs.Ytgehgccgologpaa.Z
