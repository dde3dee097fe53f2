/-
  The reference's Unframe, by contract.
-/
import Derived.Test.YtjjjbjepgieahaaR
namespace Go.Proofs.Ytjjjbjepgieahaa
open Go.RowKit

/-- append of bytes onto a row of the call's own, as one step of a statement that leaves its order open -/
theorem step_bytes {P : Program} (w : World) {ops : Array Oper} {o : Oper} {a : Act} {K : Act → World → Prop} {Q : Exit → Act → World → Prop} {E : Prop} (hgd : o.guard = none) (s x : Operand) (t : TypeId)
    (ho : o.op = .call { callee := .builtin .append, args := #[s, x], argTypes := #[t, t] })
    (base : Nat) (e : TypeId) (i : TypeInfo) (z : Value) (ht : P.underlying t = some (.slice e)) (hi : P.info? e = some i) (hz : i.zero = some z)
    (hsize : i.size = 1) (hby : i.bytes = 1) (hzs : z.cells.size = 1)
    (v : Value) (n : Nat) (xs : List Value) (hs : a.eval s = v) (hown : w.ownsRow base e 1 v n xs)
    (ad : Addr) (m c : Nat) (l : Bs) (hx : a.eval x = .slice (some ad) m c) (hm : l.length = m) (hB : Byt w (some ad) l)
    (hbytes : n + m ≤ 140737488355328) (hbase : base ≤ w.heap.size)
    (h : ∀ v' w', w'.ownsRow base e 1 v' (n + m) (xs ++ l.map bv) → Below base w w' → K (a.put o.dst v') w') : if Region.wanted o (yielded ops a.tmps) = true then Oper.wp P o a w K Q else E := by
  have hw : Region.wanted o (yielded ops a.tmps) = true := by simp [Region.wanted, hgd]
  rw [if_pos hw]
  refine wp_append_own w s x t ho base e i z 1 1 ht hi hz hsize hby hzs (by decide) v n xs hs hown ad m c (l.map bv) hx (by rw [List.length_map, hm, Nat.mul_one]) hB.cells (bv_one l) (by unfold maxLen; omega) (by omega) hbase ?_
  intro v' w' hown' hg _
  exact h v' w' hown' ((Below.refl base w).grown hg hbase fun k hk => (hown.lt k hk).1)
/-- .. where the source may be nil -/
theorem step_bytes0 {P : Program} (w : World) {ops : Array Oper} {o : Oper} {a : Act} {K : Act → World → Prop} {Q : Exit → Act → World → Prop} {E : Prop} (hgd : o.guard = none) (s x : Operand) (t : TypeId)
    (ho : o.op = .call { callee := .builtin .append, args := #[s, x], argTypes := #[t, t] })
    (base : Nat) (e : TypeId) (i : TypeInfo) (z : Value) (ht : P.underlying t = some (.slice e)) (hi : P.info? e = some i) (hz : i.zero = some z)
    (hsize : i.size = 1) (hby : i.bytes = 1) (hzs : z.cells.size = 1)
    (v : Value) (n : Nat) (xs : List Value) (hs : a.eval s = v) (hown : w.ownsRow base e 1 v n xs)
    (A : Option Addr) (c : Nat) (l : Bs) (hx : a.eval x = .slice A l.length c) (hB : Byt w A l)
    (hbytes : n + l.length ≤ 140737488355328) (hbase : base ≤ w.heap.size)
    (h : ∀ v' w', w'.ownsRow base e 1 v' (n + l.length) (xs ++ l.map bv) → Below base w w' → K (a.put o.dst v') w') : if Region.wanted o (yielded ops a.tmps) = true then Oper.wp P o a w K Q else E := by
  rcases A with _ | ad
  · have hl : l = [] := by
      rcases hB with h | ⟨_, _, h, _⟩
      · exact h
      · cases h
    subst hl
    have hw : Region.wanted o (yielded ops a.tmps) = true := by simp [Region.wanted, hgd]
    rw [if_pos hw]
    have hrun : (Builtin.append_ #[t, t] o.type #[v, .slice none 0 c]).run P w = .ok v w := by
      rcases hown.2 with ⟨rfl, rfl⟩ | ⟨g, cap, cur, rfl, _, _, hnc, _⟩
      · simp [Builtin.append_, run_underlying ht, sizeOf, typeInfo, hi, Builtin.lenOf, Builtin.firstCells]
      · simp [Builtin.append_, run_underlying ht, sizeOf, typeInfo, hi, Builtin.lenOf, Builtin.firstCells, hnc, storeCells]
    unfold Oper.wp
    simp [execOp, ho, resolve, invoke, builtin, hs, hx, hrun, Result.andThen]
    exact h v w (by simpa using hown) (Below.refl _ _)
  · exact step_bytes w hgd s x t ho base e i z ht hi hz hsize hby hzs v n xs hs hown ad l.length c l hx rfl hB hbytes hbase h

set_option maxRecDepth 4000 in
set_option maxHeartbeats 400000 in
theorem refUnframe_bad (A : Option Addr) (l : Bs) (c : Nat) (most : Int) (w : World) (h : Byt w A l) (hl : l.length ≤ 9223372036854775807) (hlc : l.length ≤ c) (hm : most ≤ 9223372036854775807)
    (h8 : ¬ l.length < 8) (hf : (first (l.drop 8) (word l) most).2 ≠ 0) :
    Calls Try.prog 22 #[.slice A l.length c, .int .i64 most] w (GivesU w (unfr l most)) := by
  have hr := unfr_first h8 hf
  have HW : Hid (Calls Try.prog 31 #[.slice A l.length c] w fun e w' => e = .returned (.int .u32 (word l : Nat)) ∧ ∃ n, w' = w.drewN n) := refWord_any A l c w h (by omega) hlc
  have hww := wrap_word l
  have h88 : 8 ≤ l.length := by omega
  have hld : (l.drop 8).length = l.length - 8 := List.length_drop ..
  have hsub : IntKind.i64.wrap ((l.length : Int) - 8) = (l.length : Int) - 8 := IntWalk.i64_in _ (by omega)
  have hwl : IntKind.u64.wrap ((l.length : Int) - 8) = (l.length : Int) - 8 := wrap_pos (by omega) (by omega)
  have hwlt := word_lt l
  by_cases hb : most < 0 ∨ most < word l
  · rw [first_neg hb] at hr
    have HR := Lib.hid hr
    generalize word l = wl at *
    clear hr hf hld h h8
    by_cases h0 : most < 0
    · clear hb
      go_enter Try.func22, Try.ntmps22
      go_wp2_with fail
      refine HW.out.mono ?_
      rintro e w' ⟨rfl, k, rfl⟩
      go_wp2
      go_ret3
      exact gives_none HR.out rfl (below_drewN _ _ _)
    · have h00 : 0 ≤ most := by omega
      have h1 : most < wl := by omega
      have hwm := wrap_pos h00 hm
      clear hb h0
      go_enter Try.func22, Try.ntmps22
      go_wp2_with fail
      refine HW.out.mono ?_
      rintro e w' ⟨rfl, k, rfl⟩
      go_wp2
      go_ret3
      exact gives_none HR.out rfl (below_drewN _ _ _)
  · have h00 : 0 ≤ most := by omega
    have h11 : (word l : Int) ≤ most := by omega
    have hwm := wrap_pos h00 hm
    have hs : (l.drop 8).length < word l := by
      rcases Nat.lt_or_ge (l.drop 8).length (word l) with h2 | h2
      · exact h2
      · rw [first_good hb (by omega)] at hf
        exact absurd rfl hf
    rw [first_short hb hs] at hr
    have HR := Lib.hid hr
    have hs3 : (l.length : Int) - 8 < word l := by omega
    generalize word l = wl at *
    clear hr hf hld h hb hs h8
    go_enter Try.func22, Try.ntmps22
    go_wp2_with fail
    refine HW.out.mono ?_
    rintro e w' ⟨rfl, k, rfl⟩
    go_wp2
    go_ret3
    exact gives_none HR.out rfl (below_drewN _ _ _)
end Go.Proofs.Ytjjjbjepgieahaa
