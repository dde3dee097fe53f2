/-
  Two tokens compared; Same, live, by contract.
-/
import Derived.Test.YtkaamaopjcaalaaDoorO
import Derived.Laws.StructEq
import Derived.Deep.RegionHeld3
import Derived.BigQuiet
import Derived.Deep.QuietTactic
namespace Go.Proofs.YtkaamaopjcaalaaDoor.T
open Go.RowKit Go.Proofs.YtkaamaopjcaalaaDoor

theorem fieldsTok : Tryd.prog.underlying 30 = some (.struct (Tryd.prog.fieldsOf 30)) := by
  unfold Program.fieldsOf
  rw [Tryd.underlying30]
theorem run_eq_tok (w : World) (k n a k' n' a' : Int) (t t' : ByteArray) (f f' : Bool) : (Op.equalIn 10000 30 (.agg #[.int .i64 k, .string t, .int .i64 n, .int .i64 a, .bool f]) (.agg #[.int .i64 k', .string t', .int .i64 n', .int .i64 a', .bool f'])).run Tryd.prog w = .ok ((k == k') && ((t.toList == t'.toList) && ((n == n') && ((a == a') && (f == f'))))) w := by
  rw [run_equalIn_struct w 9999 30 _ _ fieldsTok (by kernel_rfl)]
  unfold Program.fieldsOf
  rw [Tryd.underlying30]
  have h0 : (Op.equalIn 9999 3 (.int .i64 k) (.int .i64 k')).run Tryd.prog w = .ok (k == k') w := run_equalIn_int (P := Tryd.prog) w 9998 3 .i64 .i64 k k' Tryd.underlying3
  have h1 : (Op.equalIn 9999 9 (.string t) (.string t')).run Tryd.prog w = .ok (t.toList == t'.toList) w := run_equalIn_string (P := Tryd.prog) w 9998 9 t t' Tryd.underlying9
  have h2 : (Op.equalIn 9999 2 (.int .i64 n) (.int .i64 n')).run Tryd.prog w = .ok (n == n') w := run_equalIn_int (P := Tryd.prog) w 9998 2 .i64 .i64 n n' Tryd.underlying2
  have h3 : (Op.equalIn 9999 3 (.int .i64 a) (.int .i64 a')).run Tryd.prog w = .ok (a == a') w := run_equalIn_int (P := Tryd.prog) w 9998 3 .i64 .i64 a a' Tryd.underlying3
  have h4 : (Op.equalIn 9999 4 (.bool f) (.bool f')).run Tryd.prog w = .ok (f == f') w := run_equalIn_bool' (P := Tryd.prog) w 9998 4 f f' Tryd.underlying4
  generalize (k == k') = b0 at *
  generalize (t.toList == t'.toList) = b1 at *
  generalize (n == n') = b2 at *
  generalize (a == a') = b3 at *
  generalize (f == f') = b4 at *
  simp only [Op.eqFields, part, Tryd.isAgg4, Tryd.isAgg2, Tryd.isAgg3, Tryd.isAgg9, Result.andThen, Sem.run_bind, Sem.run_pure, Sem.run_ite]
  cases b0 <;> cases b1 <;> cases b2 <;> cases b3 <;> cases b4 <;> simp [h0, h1, h2, h3, h4]
theorem eq_yes (p : Tk) (w : World) : (Op.equalIn 10000 30 (.agg #[.int .i64 p.k, .string ⟨p.t.toArray⟩, .int .i64 p.n, .int .i64 p.a, .bool p.f]) (.agg #[.int .i64 p.k, .string ⟨p.t.toArray⟩, .int .i64 p.n, .int .i64 p.a, .bool p.f])).run Tryd.prog w = .ok true w := by
  have := run_eq_tok w p.k p.n p.a p.k p.n p.a ⟨p.t.toArray⟩ ⟨p.t.toArray⟩ p.f p.f
  simpa using this
theorem eq_no (p q : Tk) (h : ¬ p = q) (w : World) : (Op.equalIn 10000 30 (.agg #[.int .i64 p.k, .string ⟨p.t.toArray⟩, .int .i64 p.n, .int .i64 p.a, .bool p.f]) (.agg #[.int .i64 q.k, .string ⟨q.t.toArray⟩, .int .i64 q.n, .int .i64 q.a, .bool q.f])).run Tryd.prog w = .ok false w := by
  have := run_eq_tok w p.k p.n p.a q.k q.n q.a ⟨p.t.toArray⟩ ⟨q.t.toArray⟩ p.f q.f
  have e : ((p.k == q.k) && (((⟨p.t.toArray⟩ : ByteArray).toList == (⟨q.t.toArray⟩ : ByteArray).toList) && ((p.n == q.n) && ((p.a == q.a) && (p.f == q.f))))) = false := by
    rw [Bool.eq_false_iff]
    intro hh
    simp only [Bool.and_eq_true, beq_iff_eq] at hh
    apply h
    obtain ⟨h1, h2, h3, h4, h5⟩ := hh
    rw [Lib.toList_data, Lib.toList_data] at h2
    have h2 : p.t = q.t := by simpa using h2
    cases p; cases q
    simp only at h1 h2 h3 h4 h5
    subst h1 h2 h3 h4 h5
    rfl
  rw [e] at this
  exact this
theorem eq_guard (op : BinOp) (x y : Operand) (xs ys : Array Value) (w : World) : (eqGuard op 30 x y (.agg xs) (.agg ys)).run Tryd.prog w = .ok () w :=
  run_eqGuard_agg w op 30 x y xs ys (by kernel_rfl)
/-- two rows of tokens are the same -/
noncomputable def same (a b : List Tk) : Bool := @decide (a = b) (Classical.propDecidable _)
theorem same_yes {a b : List Tk} (h : a = b) : same a b = true := by unfold same; exact @decide_eq_true _ (Classical.propDecidable _) h
theorem same_no {a b : List Tk} (h : ¬ a = b) : same a b = false := by unfold same; exact @decide_eq_false _ (Classical.propDecidable _) h
set_option maxRecDepth 8000 in
set_option maxHeartbeats 1000000 in
theorem same_any (A B : Option Addr) (k m : List Tk) (c d : Nat) (w : World) (h : Row w A k) (h' : Row w B m) (hk : k.length ≤ 1048576) :
    Calls Tryd.prog 16 #[.slice A k.length c, .slice B m.length d] w fun e w' => e = .returned (.bool (same k m)) ∧ Below w.heap.size w w' := by
  by_cases hl : k.length = m.length
  · have HL := Lib.hid hl
    rw [← hl]
    clear hl
    go_enter Tryd.func16, Tryd.ntmps16
    go_wp2_with fail
    go_loopw [13] (fun i wr => ∃ j : Nat, j ≤ k.length ∧ i = .int .i64 j ∧ Hid (∀ i, i < j → (h1 : i < k.length) → (h2 : i < m.length) → k[i] = m[i]) ∧ Below w.heap.size w wr)
      (fun i _ => k.length - (intOf i).toNat)
    case atStart => exact ⟨0, Nat.zero_le _, rfl, fun i hi => by omega, Below.refl _ _⟩
    case round =>
      obtain ⟨j, hj, rfl, hh, hbw⟩ := hrel
      by_cases hlt : j < k.length
      · have hlt2 : j < m.length := by have := HL.out; omega
        obtain ⟨g, o, rfl, hg, hp⟩ := h.at_ hlt
        obtain ⟨g2, o2, rfl, hg2, hq⟩ := h'.at_ hlt2
        obtain ⟨c0, c1, c2, c3, c4⟩ := hp.below hg hbw
        obtain ⟨d0, d1, d2, d3, d4⟩ := hq.below hg2 hbw
        have HN : Hid (∀ i, (h1 : i < k.length) → (h2 : i < m.length) → ¬ k[i] = m[i] → same k m = false) := fun i h1 h2 hne => same_no fun e => hne (by subst e; rfl)
        have hG := eq_guard
        by_cases he : k[j] = m[j]
        · have HS : Hid (∀ i, i < j + 1 → (h1 : i < k.length) → (h2 : i < m.length) → k[i] = m[i]) := fun i hi h1 h2 => by
            rcases Nat.lt_succ_iff_lt_or_eq.1 hi with hi | rfl
            · exact hh.out i hi h1 h2
            · exact he
          rw [← he] at d0 d1 d2 d3 d4
          have hE := eq_yes k[j]
          generalize k[j] = p at *
          obtain ⟨t0, t1, t2, t3, t4⟩ := p
          simp only at *
          generalize (ByteArray.mk t1.toArray) = tx at *
          clear hp hq he h h' HN
          go_wp2_with fail
          go_quiet (fail)
          go_wp2_with fail
          go_roundw
          case rel => exact ⟨j + 1, by omega, by go_num, HS, hbw.trans (below_drewN _ _ _)⟩
          case measure => simp [intOf]; omega
        · have HV := Lib.hid (HN.out j hlt hlt2 he)
          have hE := eq_no k[j] m[j] he
          generalize k[j] = p at *
          generalize m[j] = q at *
          obtain ⟨t0, t1, t2, t3, t4⟩ := p
          obtain ⟨t0', t1', t2', t3', t4'⟩ := q
          simp only at *
          generalize (ByteArray.mk t1.toArray) = tx at *
          generalize (ByteArray.mk t1'.toArray) = tx' at *
          clear hp hq he h h' HN
          go_wp2_with fail
          go_quiet (fail)
          go_wp2_with fail
          go_ret
          exact ⟨by rw [HV.out]; rfl, hbw.trans (below_drewN _ _ _)⟩
      · obtain rfl : j = k.length := by omega
        have HV : Hid (same k m = true) := same_yes (List.ext_getElem HL.out fun i h1 h2 => hh.out i h1 h1 h2)
        go_wp2_with fail
        go_ret
        exact ⟨by rw [HV.out]; rfl, hbw⟩
  · have HV : Hid (same k m = false) := same_no fun e => hl (by rw [e])
    have hb : ((k.length : Int) != (m.length : Int)) = true := by rw [bne_iff_ne]; omega
    have hb2 : ((k.length : Int) == (m.length : Int)) = false := by rw [beq_eq_false_iff_ne]; omega
    clear hl
    go_enter Tryd.func16, Tryd.ntmps16
    go_wp2_with fail
    go_ret
    exact ⟨by rw [HV.out]; rfl, Below.refl _ _⟩
end Go.Proofs.YtkaamaopjcaalaaDoor.T
