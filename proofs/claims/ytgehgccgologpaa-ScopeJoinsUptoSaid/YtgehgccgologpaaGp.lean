/-
  PLAIN: a block around statements; two programs as one.
-/
import Derived.Test.YtgehgccgologpaaZq
import Derived.Test.YtgehgccgologpaaFd
namespace Go.Proofs.Ytgehgccgologpaa.Z
open Go.RowKit Go.Shelf Go.Proofs.Ytgehgccgologpaa Go.Proofs.Ytgehgccgologpaa.R Go.Proofs.Ytgehgccgologpaa.T

theorem wi_around_all (b : V) : ∀ n : Nat, (∀ v : V, v.size ≤ n → ∀ ar, wiV (b :: ar) v = (wiV ar v).map fun x => (b :: x.1, x.2)) ∧ ∀ l : List V, V.sizes l ≤ n → ∀ ar, wi (b :: ar) l = (wi ar l).map fun x => (b :: x.1, x.2)
  | 0 => ⟨fun v h => by rw [R.size_eq] at h; omega, fun l h ar => by
      cases l with
      | nil => rw [wi_nil, wi_nil]; rfl
      | cons v r => rw [sizes_cons] at h; omega⟩
  | n + 1 => by
    have ih := wi_around_all b n
    have hv : ∀ v : V, v.size ≤ n + 1 → ∀ ar, wiV (b :: ar) v = (wiV ar v).map fun x => (b :: x.1, x.2) := by
      intro v h ar
      rw [R.size_eq] at h
      rw [wiV_eq, wiV_eq, List.map_cons]
      split
      · rfl
      · rw [← ih.2 v.l (by omega) (ar ++ [v])]
        rfl
    refine ⟨hv, fun l => ?_⟩
    induction l with
    | nil => intro _ ar; rw [wi_nil, wi_nil]; rfl
    | cons v r ihl =>
      intro h ar
      rw [V.sizes] at h
      rw [wi_cons, wi_cons, List.map_append, hv v (by omega) ar, ihl (by omega) ar]
theorem wi_around (b : V) (ar l : List V) : wi (b :: ar) l = (wi ar l).map fun x => (b :: x.1, x.2) := (wi_around_all b (V.sizes l)).2 l (Nat.le_refl _) ar
theorem badN_around {b : V} (hk : b.k = 25) (ar : List V) (v : V) (fb : Bool) : badN (b :: ar) v fb = badN ar v fb := by
  have h1 : isLp b = false := by unfold isLp; rw [decide_eq_false_iff_not]; omega
  have h2 : isLS b = false := by unfold isLS; rw [h1, decide_eq_false (by omega)]; rfl
  have h3 : ∀ s, isLb s b = false := fun s => by unfold isLb; rw [decide_eq_false (by omega)]; rfl
  unfold badN astray
  simp only [List.any_cons, List.find?_cons, h1, h2, h3, Bool.false_or]
abbrev blkV (l : List V) : V := .mk 25 ⟨#[]⟩ 0 ⟨#[]⟩ [] l
abbrev prgV (l : List V) : V := .mk 41 ⟨#[]⟩ 0 ⟨#[]⟩ [] l
theorem wi_blk (l : List V) : wi [] [blkV l] = ([], blkV l) :: (wi [] l).map fun x => (blkV l :: x.1, x.2) := by
  rw [wi_cons, wi_nil, List.append_nil, wiV_eq, if_neg (by unfold isFn; simp [V.k]), ← wi_around]
  rfl
theorem early_prog (v u : V) (hv : v.k = 41) (hu : u.k = 41) (h1 : bads false (wi [] v.l) = bads false (wi [] u.l)) (h2 : fns v.l = fns u.l) : early v = early u := by
  have hf : ∀ w : V, w.k = 41 → isFn w = false := fun w h => by unfold isFn; rw [decide_eq_false (by omega), decide_eq_false (by omega)]; rfl
  rw [early_eq, early_eq, hf v hv, hf u hu, h1, h2]
/-- a block around changes nothing -/
theorem early_blk (v : V) (hk : v.k = 41) : early (prgV [blkV v.l]) = early v := by
  refine early_prog _ _ rfl hk ?_ ?_
  · show bads false (wi [] [blkV v.l]) = _
    rw [wi_blk]
    unfold bads
    rw [List.any_cons, List.any_map]
    have h0 : badN [] (blkV v.l) false = false := by
      unfold badN wrong astray
      simp [V.k]
    show (badN [] (blkV v.l) false || _) = _
    rw [h0, Bool.false_or]
    refine congrArg (fun p => List.any (wi [] v.l) p) (funext fun x => ?_)
    exact badN_around rfl x.1 x.2 false
  · show fnsP (wi [] [blkV v.l]) = _
    rw [wi_blk]
    unfold fns fnsP
    rw [List.filter_cons_of_neg (by show ¬ isFn (blkV v.l) = true; unfold isFn; simp [V.k]), List.filter_map, List.map_map]
    rfl
theorem chs_blk (v : V) (hk : v.k = 41) (h1 : v.chk = 0) (h2 : (prgV [blkV v.l]).chk = 0) : chs (prgV [blkV v.l]) = chs v := by
  unfold chs
  rw [h1, h2, early_blk v hk]
theorem vars_blk (l : List V) : vars [blkV l] = vars l := by
  unfold vars
  rw [decl_cons, declV_eq, if_neg (by unfold isFn; simp [V.k]), if_neg (by simp [V.k])]
  show unq (([] ++ decl l) ++ decl []) = _
  rw [List.nil_append, decl, List.append_nil]
theorem bulk_blk (v : V) : (prgV [blkV v.l]).bulk ≤ v.bulk + 2 := by
  have := bulk_ge v
  simp only [V.bulk, V.bulks, keysBulk]
  have h0 : (⟨#[]⟩ : ByteArray).size = 0 := rfl
  omega
/-! two programs as one -/
theorem early_join (a b : V) (ha : a.k = 41) (hb : b.k = 41) (h1 : early a = false) (h2 : early b = false) : early (prgV (a.l ++ b.l)) = false := by
  have hf : ∀ w : V, w.k = 41 → isFn w = false := fun w h => by unfold isFn; rw [decide_eq_false (by omega), decide_eq_false (by omega)]; rfl
  rw [early_eq, hf a ha, Bool.or_eq_false_iff] at h1
  rw [early_eq, hf b hb, Bool.or_eq_false_iff] at h2
  rw [early_eq, hf _ rfl]
  show (bads false (wi [] (a.l ++ b.l)) || (fnsP (wi [] (a.l ++ b.l))).any early) = false
  rw [wi_append, bads_append, fnsP_append, List.any_append, h1.1, h2.1]
  show (false || (_ || _)) = false
  rw [show (fnsP (wi [] a.l)).any early = false from h1.2, show (fnsP (wi [] b.l)).any early = false from h2.2]
  rfl
theorem deeps_append : ∀ a b : List V, V.deeps (a ++ b) = max (V.deeps a) (V.deeps b)
  | [], b => by simp [V.deeps]
  | v :: r, b => by rw [List.cons_append, V.deeps, V.deeps, deeps_append r b]; omega
theorem oks_append (a b : List V) : V.oks (a ++ b) = (V.oks a && V.oks b) := by rw [oks_all', oks_all', oks_all', List.all_append]
theorem chk_zero {v : V} (h : v.chk = 0) : v.k = 41 ∧ v.ok = true ∧ v.deep ≤ 64 := by
  unfold V.chk at h
  split at h
  · rename_i h1
    split at h
    · exact absurd h (by decide)
    · exact ⟨h1.1, h1.2, by omega⟩
  · exact absurd h (by decide)
theorem deep_eq (v : V) : v.deep = V.deeps v.l + 1 := by cases v; rw [V.deep]; rfl
theorem chk_join (a b : V) (h1 : a.chk = 0) (h2 : b.chk = 0) : (prgV (a.l ++ b.l)).chk = 0 := by
  obtain ⟨ka, oa, da⟩ := chk_zero h1
  obtain ⟨kb, ob, db⟩ := chk_zero h2
  rw [ok_eq, Bool.and_eq_true] at oa ob
  have ra : kids a = true := (Bool.and_eq_true _ _ ▸ oa.1 : fields (ctch a) a = true ∧ kids a = true).2
  have rb : kids b = true := (Bool.and_eq_true _ _ ▸ ob.1 : fields (ctch b) b = true ∧ kids b = true).2
  rw [kids_41 ka] at ra
  rw [kids_41 kb] at rb
  have hk : kids (prgV (a.l ++ b.l)) = true := by
    rw [kids_41 rfl]
    show (a.l ++ b.l).all isSt = true
    rw [List.all_append, ra, rb]
    rfl
  have hf : fields (ctch (prgV (a.l ++ b.l))) (prgV (a.l ++ b.l)) = true := by kernel_rfl
  have hok : (prgV (a.l ++ b.l)).ok = true := by
    rw [ok_eq]
    show (right _ && V.oks (a.l ++ b.l)) = true
    rw [oks_append, oa.2, ob.2]
    unfold right
    rw [hf, hk]
    rfl
  rw [deep_eq] at da db
  unfold V.chk
  rw [if_pos ⟨rfl, hok⟩, if_neg]
  rw [deep_eq]
  show ¬ 64 < V.deeps (a.l ++ b.l) + 1
  rw [deeps_append]
  omega
theorem chs_zero {v : V} (h : chs v = 0) : v.chk = 0 ∧ early v = false := by
  unfold chs at h
  split at h
  · rename_i h0
    split at h
    · exact absurd h (by decide)
    · rename_i h1
      exact ⟨h0, by simpa using h1⟩
  · rename_i h0
    exact absurd h h0
theorem chs_join (a b : V) (h1 : chs a = 0) (h2 : chs b = 0) : chs (prgV (a.l ++ b.l)) = 0 := by
  obtain ⟨c1, e1⟩ := chs_zero h1
  obtain ⟨c2, e2⟩ := chs_zero h2
  unfold chs
  rw [chk_join a b c1 c2, if_pos rfl, early_join a b (chk_zero c1).1 (chk_zero c2).1 e1 e2]
  rfl
theorem fcs_append (a b : List V) : fcs (a ++ b) = fcs a ++ fcs b := by unfold fcs; rw [List.filter_append]
theorem mem_vars {l : List V} {s : ByteArray} : s ∈ vars l ↔ s ∈ decl l := mem_unq _ _
theorem vars_join {a b : List V} {s : ByteArray} : s ∈ vars (a ++ b) ↔ s ∈ vars a ∨ s ∈ vars b := by rw [mem_vars, mem_vars, mem_vars, decl_append, List.mem_append]
end Go.Proofs.Ytgehgccgologpaa.Z
