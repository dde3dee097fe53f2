/-
  LAWS FOR ROWS OF BYTES: append of bytes, of a string; copy of bytes, of a string. The reference's Num, Text and Same; the package's Text.
-/
import Derived.Test.YtjjjbjepgieahaaC
import Derived.Laws.CopyOwn
import Derived.Laws.AppendOwnNone
import Derived.Lib.AppendStr
import Derived.Lib.BufferWrite
namespace Go.Proofs.Ytjjjbjepgieahaa
open Go.RowKit

theorem bv_one (l : Bs) : ∀ u ∈ l.map bv, u.oneCell' = true := by
  intro u hu
  obtain ⟨b, _, rfl⟩ := List.mem_map.1 hu
  rfl
theorem own_below {w w' : World} {B : Nat} {e : TypeId} {size n : Nat} {v : Value} {xs : List Value} (h : w.ownsRow B e size v n xs) (hb : Below w.heap.size w w') : w'.ownsRow B e size v n xs :=
  h.kept (row := none) ⟨hb.os, hb.tape, hb.output, hb.size, fun k hk _ => hb.block k hk⟩ (by cases v.ownBlock <;> simp)
theorem add_lit (g o j : Nat) : (⟨g, o, none⟩ : Addr).add j = ⟨g, o + j, none⟩ := by unfold Addr.add; split <;> simp_all
theorem Byt.cells {w : World} {ad : Addr} {l : Bs} (h : Byt w (some ad) l) : ∀ j u, (l.map bv)[j]? = some u → w.cell? (ad.add j) = some u := by
  intro j u hj
  rw [List.getElem?_map, Option.map_eq_some_iff] at hj
  obtain ⟨b, hb, rfl⟩ := hj
  obtain ⟨hlt, rfl⟩ := List.getElem?_eq_some_iff.1 hb
  rcases h with h | ⟨g, o, hA, _, hc⟩
  · subst h; simp at hlt
  · injection hA with hA
    subst hA
    rw [add_lit]
    exact hc j hlt

/-- append of bytes that read as a list onto a row of the call's own -/
theorem app_bytes {P : Program} (w : World) {ops : Array Oper} {rest : List Oper} {o : Oper} {a : Act} {Q : Exit → Act → World → Prop} (hgd : o.guard = none) (s x : Operand) (t : TypeId)
    (ho : o.op = .call { callee := .builtin .append, args := #[s, x], argTypes := #[t, t] })
    (base : Nat) (e : TypeId) (i : TypeInfo) (z : Value) (ht : P.underlying t = some (.slice e)) (hi : P.info? e = some i) (hz : i.zero = some z)
    (hsize : i.size = 1) (hby : i.bytes = 1) (hzs : z.cells.size = 1)
    (v : Value) (n : Nat) (xs : List Value) (hs : a.eval s = v) (hown : w.ownsRow base e 1 v n xs)
    (A : Option Addr) (c : Nat) (l : Bs) (hx : a.eval x = .slice A l.length c) (hB : Byt w A l)
    (hbytes : n + l.length ≤ 140737488355328) (hbase : base ≤ w.heap.size)
    (h : ∀ v' w', w'.ownsRow base e 1 v' (n + l.length) (xs ++ l.map bv) → Below base w w' → wpList P ops Q rest (a.put o.dst v') w') : wpList P ops Q (o :: rest) a w := by
  rcases A with _ | ad
  · have hl : l = [] := by
      rcases hB with h | ⟨_, _, h, _⟩
      · exact h
      · cases h
    subst hl
    refine wpList_plain hgd fun K hK => ?_
    have hrun : (Builtin.append_ #[t, t] o.type #[v, .slice none 0 c]).run P w = .ok v w := by
      rcases hown.2 with ⟨rfl, rfl⟩ | ⟨g, cap, cur, rfl, _, _, hnc, _⟩
      · simp [Builtin.append_, run_underlying ht, sizeOf, typeInfo, hi, Builtin.lenOf, Builtin.firstCells]
      · simp [Builtin.append_, run_underlying ht, sizeOf, typeInfo, hi, Builtin.lenOf, Builtin.firstCells, hnc, storeCells]
    unfold Oper.wp
    simp [execOp, ho, resolve, invoke, builtin, hs, hx, hrun, Result.andThen]
    exact hK _ _ (h v w (by simpa using hown) (Below.refl _ _))
  · refine wpList_append_own w hgd s x t ho base e i z 1 1 ht hi hz hsize hby hzs (by decide) v n xs hs hown ad l.length c (l.map bv) hx (by simp) hB.cells (bv_one l) (by unfold maxLen; omega) (by omega) hbase ?_
    intro v' w' hown' hg _
    exact h v' w' hown' ((Below.refl base w).grown hg hbase fun k hk => (hown.lt k hk).1)
/-- append of a string's bytes -/
theorem app_str {P : Program} (w : World) {ops : Array Oper} {rest : List Oper} {o : Oper} {a : Act} {Q : Exit → Act → World → Prop} (hgd : o.guard = none) (sl x : Operand) (t u : TypeId)
    (ho : o.op = .call { callee := .builtin .append, args := #[sl, x], argTypes := #[t, u] })
    (base : Nat) (e : TypeId) (i : TypeInfo) (ht : P.underlying t = some (.slice e)) (hu : P.underlying u = some .string) (hi : P.info? e = some i) (hz : i.zero = some (.int .u8 0))
    (hsize : i.size = 1) (hby : i.bytes = 1)
    (v : Value) (n : Nat) (xs : List Value) (hs : a.eval sl = v) (hown : w.ownsRow base e 1 v n xs) (s : ByteArray) (hx : a.eval x = .string s)
    (hbytes : n + s.size ≤ 140737488355328) (hbase : base ≤ w.heap.size)
    (h : ∀ v' w', w'.ownsRow base e 1 v' (n + s.size) (xs ++ s.data.toList.map bv) → Below base w w' → wpList P ops Q rest (a.put o.dst v') w') : wpList P ops Q (o :: rest) a w := by
  refine Lib.wpList_append_own_string w hgd sl x t u ho base e i ht hu hi hz hsize hby v n xs hs hown s hx (by unfold maxLen; omega) hbytes hbase ?_
  intro v' w' hown' hg _
  exact h v' w' hown' ((Below.refl base w).grown hg hbase fun k hk => (hown.lt k hk).1)

/-- what a copy into a row of the call's own leaves -/
theorem own_copied {w : World} {base : Nat} {e : TypeId} {g n cap : Nat} {xs : List Value} {cur : Array Value} (hb : base ≤ g) (hg : w.heap[g]? = some (.cells cur e (0, 0))) (hn : n ≤ cap) (hm : cap ≤ maxLen) (hs : cur.size = cap)
    (ht : cur.toList.take n = xs) (hl : xs.length = n) (off : Nat) (cs : List Value) (hfit : off + cs.length ≤ n) :
    (w.setRow g (cur.toList.take off ++ (cs ++ cur.toList.drop (off + cs.length))).toArray).ownsRow base e 1 (.slice (some ⟨g, 0, none⟩) n cap) n (xs.take off ++ (cs ++ xs.drop (off + cs.length))) := by
  have hlen : cur.toList.length = cap := by rw [Array.length_toList, hs]
  refine ⟨?_, .inr ⟨g, cap, _, rfl, hb, setRow_heap w g cur _ e _ hg, hn, hm, ?_, ?_⟩⟩
  · simp only [List.length_append, List.length_take, List.length_drop]
    omega
  · simp only [List.size_toArray, List.length_append, List.length_take, List.length_drop, hlen]
    omega
  · rw [Nat.mul_one]
    show (cur.toList.take off ++ (cs ++ cur.toList.drop (off + cs.length))).take n = _
    rw [List.take_append, List.take_append, List.length_take, hlen, List.take_take, ← ht, List.take_take, Nat.min_eq_left (show off ≤ cap by omega), Nat.min_comm n off, Nat.min_eq_left (show off ≤ n by omega), List.take_of_length_le (show cs.length ≤ n - off by omega), List.drop_take,
      show n - off - cs.length = n - (off + cs.length) by omega]
/-- copy of bytes that read as a list into a row of the call's own -/
theorem copy_bytes {P : Program} {w : World} {ops : Array Oper} {rest : List Oper} {o : Oper} {a : Act} {Q : Exit → Act → World → Prop} (hgd : o.guard = none) (d s : Operand) (dT sT : TypeId)
    (ho : o.op = .call { callee := .builtin .copy, args := #[d, s], argTypes := #[dT, sT] }) (e : TypeId) (hu : P.underlying dT = some (.slice e)) (hsz : (P.info? e).map (·.size) = some 1)
    (base g n cap : Nat) (xs : List Value) (hown : w.ownsRow base e 1 (.slice (some ⟨g, 0, none⟩) n cap) n xs) (off : Nat)
    (dp : Option Addr) (dLen dCap : Nat) (hd : a.eval d = .slice dp dLen dCap) (hdp : 0 < dLen → dp = some ⟨g, off, none⟩)
    (A : Option Addr) (c : Nat) (l : Bs) (hs : a.eval s = .slice A l.length c) (hB : Byt w A l) (hle : l.length ≤ dLen) (hfit : off + l.length ≤ n)
    (h : ∀ w', w'.ownsRow base e 1 (.slice (some ⟨g, 0, none⟩) n cap) n (xs.take off ++ (l.map bv ++ xs.drop (off + l.length))) → w.grownBy w' (some g) → wpList P ops Q rest (a.put o.dst (goInt l.length)) w') : wpList P ops Q (o :: rest) a w := by
  rcases hown.2 with ⟨hv, _⟩ | ⟨g', cap', cur, hv, hb, hg, hnc, hcm, hcs, htake⟩
  · cases hv
  injection hv with hA _ hcap
  injection hA with hA
  injection hA with hgg
  subst hgg
  subst hcap
  by_cases h0 : l.length = 0
  · obtain rfl : l = [] := List.eq_nil_of_length_eq_zero h0
    refine wpList_copy_nothing hgd d s dT sT ho e hu hsz dp A dLen dCap 0 c hd hs (Nat.zero_min _) ?_
    exact h w (by simpa using hown) (World.grownBy.refl w _)
  · obtain ⟨g2, o2, rfl, _⟩ := hB.at_ (show 0 < l.length by omega)
    have hdp' := hdp (by omega)
    subst hdp'
    have hcl : ((l.map bv).length) = l.length := List.length_map ..
    have hcsz : cur.size = cap := by rw [hcs, Nat.mul_one]
    refine wpList_copy_own hgd d s dT sT ho e hu hsz g off dLen dCap ⟨g2, o2, none⟩ l.length c hd hs cur e hg (l.map bv) (by rw [hcl]; exact (Nat.min_eq_left hle).symm) hB.cells (by rw [hcl]; omega) (bv_one l) ?_
    rw [hcl]
    refine h _ ?_ ⟨rfl, rfl, rfl, by simp, fun k _ hk => setRow_other w g k _ (fun e => hk (by simp [e]))⟩
    have := own_copied (w := w) (base := base) (xs := xs) hb hg hnc hcm hcsz (by rw [← htake, Nat.mul_one]) (by have := hown.1; omega) off (l.map bv) (by rw [hcl]; exact hfit)
    rw [hcl] at this
    exact this
/-- copy of a string -/
theorem copy_str {P : Program} {w : World} {ops : Array Oper} {rest : List Oper} {o : Oper} {a : Act} {Q : Exit → Act → World → Prop} (hgd : o.guard = none) (d s : Operand) (dT sT : TypeId)
    (ho : o.op = .call { callee := .builtin .copy, args := #[d, s], argTypes := #[dT, sT] }) (e : TypeId) (hu : P.underlying dT = some (.slice e)) (hsz : (P.info? e).map (·.size) = some 1)
    (base g n cap : Nat) (xs : List Value) (hown : w.ownsRow base e 1 (.slice (some ⟨g, 0, none⟩) n cap) n xs) (off : Nat)
    (dp : Option Addr) (dLen dCap : Nat) (hd : a.eval d = .slice dp dLen dCap) (hdp : 0 < dLen → dp = some ⟨g, off, none⟩)
    (t : ByteArray) (hs : a.eval s = .string t) (hle : t.size ≤ dLen) (hfit : off + t.size ≤ n)
    (h : ∀ w', w'.ownsRow base e 1 (.slice (some ⟨g, 0, none⟩) n cap) n (xs.take off ++ (t.data.toList.map bv ++ xs.drop (off + t.size))) → w.grownBy w' (some g) → wpList P ops Q rest (a.put o.dst (goInt t.size)) w') : wpList P ops Q (o :: rest) a w := by
  rcases hown.2 with ⟨hv, _⟩ | ⟨g', cap', cur, hv, hb, hg, hnc, hcm, hcs, htake⟩
  · cases hv
  injection hv with hA _ hcap
  injection hA with hA
  injection hA with hgg
  subst hgg
  subst hcap
  have hl : t.data.toList.length = t.size := (Lib.size_eq t).symm
  have hcl : (t.data.toList.map bv).length = t.size := by rw [List.length_map, hl]
  have hcsz : cur.size = cap := by rw [hcs, Nat.mul_one]
  refine wpList_plain hgd fun K hK => ?_
  by_cases h0 : t.size = 0
  · have hrun := Lib.run_copy_empty_string (P := P) w dT sT o.type e dp dLen dCap t hu (by rw [hsz]; rfl) h0
    have hnil : t.data.toList = [] := List.eq_nil_of_length_eq_zero (by rw [hl, h0])
    unfold Oper.wp
    simp [execOp, ho, resolve, invoke, builtin, hd, hs, hrun, Result.andThen]
    have := h w (by rw [hnil, h0]; simpa using hown) (World.grownBy.refl w _)
    rw [h0] at this
    exact hK _ _ this
  · have hdp' := hdp (by omega)
    subst hdp'
    have hrun := Lib.run_copy_row_string (P := P) w dT sT o.type e g off dLen dCap t cur e hu hsz hg hle (by omega)
    unfold Oper.wp
    simp [execOp, ho, resolve, invoke, builtin, hd, hs, hrun, Result.andThen]
    refine hK _ _ (h _ ?_ ⟨rfl, rfl, rfl, by simp, fun k _ hk => setRow_other w g k _ (fun e => hk (by simp [e]))⟩)
    have := own_copied (w := w) (base := base) (xs := xs) hb hg hnc hcm hcsz (by rw [← htake, Nat.mul_one]) (by have := hown.1; omega) off (t.data.toList.map bv) (by rw [hcl]; exact hfit)
    rw [hcl] at this
    exact this
end Go.Proofs.Ytjjjbjepgieahaa
