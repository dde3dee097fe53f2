/-
  Two parts compared by '!='.
-/
import Derived.Test.YtkanpdhlpobfoaaDoorB
import Derived.Laws.StructEq
namespace Go.Proofs.YtkanpdhlpobfoaaDoor
open Go.RowKit
open K (Pt)

theorem fieldsPart : Tryd.prog.underlying 39 = some (.struct (Tryd.prog.fieldsOf 39)) := by
  unfold Program.fieldsOf
  rw [Tryd.underlying39]
theorem run_eq_part (w : World) (p q : Pt) : (Op.equalIn 10000 39 (pV p) (pV q)).run Tryd.prog w = .ok ((p.t == q.t) && ((p.n == q.n) && (p.s.toList == q.s.toList))) w := by
  unfold pV
  rw [run_equalIn_struct w 9999 39 _ _ fieldsPart (by kernel_rfl)]
  unfold Program.fieldsOf
  rw [Tryd.underlying39]
  have h4 : (Op.equalIn 9999 4 (.bool p.t) (.bool q.t)).run Tryd.prog w = .ok (p.t == q.t) w := run_equalIn_bool' (P := Tryd.prog) w 9998 4 p.t q.t Tryd.underlying4
  have h2 : (Op.equalIn 9999 2 (.int .i64 p.n) (.int .i64 q.n)).run Tryd.prog w = .ok (p.n == q.n) w := run_equalIn_int (P := Tryd.prog) w 9998 2 .i64 .i64 p.n q.n Tryd.underlying2
  have h9 : (Op.equalIn 9999 9 (.string p.s) (.string q.s)).run Tryd.prog w = .ok (p.s.toList == q.s.toList) w := run_equalIn_string (P := Tryd.prog) w 9998 9 p.s q.s Tryd.underlying9
  generalize (p.t == q.t) = b1 at *
  generalize (p.n == q.n) = b2 at *
  generalize (p.s.toList == q.s.toList) = b3 at *
  simp only [Op.eqFields, part, Tryd.isAgg4, Tryd.isAgg2, Tryd.isAgg9, Result.andThen, Sem.run_bind, Sem.run_pure, Sem.run_ite]
  cases b1 <;> cases b2 <;> cases b3 <;> simp [h4, h2, h9]
theorem eq_yes (p : Pt) (w : World) : (Op.equalIn 10000 39 (.agg #[.bool p.t, .int .i64 p.n, .string p.s]) (.agg #[.bool p.t, .int .i64 p.n, .string p.s])).run Tryd.prog w = .ok true w := by
  have := run_eq_part w p p
  simpa [pV] using this
theorem eq_no (p q : Pt) (h : ¬ p = q) (w : World) : (Op.equalIn 10000 39 (.agg #[.bool p.t, .int .i64 p.n, .string p.s]) (.agg #[.bool q.t, .int .i64 q.n, .string q.s])).run Tryd.prog w = .ok false w := by
  have := run_eq_part w p q
  have e : ((p.t == q.t) && ((p.n == q.n) && (p.s.toList == q.s.toList))) = false := by
    rw [Bool.eq_false_iff]
    intro hh
    simp only [Bool.and_eq_true, beq_iff_eq] at hh
    apply h
    obtain ⟨h1, h2, h3⟩ := hh
    cases p; cases q
    simp only at h1 h2 h3
    subst h1 h2
    congr 1
    rw [Lib.toList_data, Lib.toList_data] at h3
    exact K.toList_inj h3
  rw [e] at this
  exact this
theorem eq_guard (op : BinOp) (x y : Operand) (xs ys : Array Value) (w : World) : (eqGuard op 39 x y (.agg xs) (.agg ys)).run Tryd.prog w = .ok () w :=
  run_eqGuard_agg w op 39 x y xs ys (by kernel_rfl)
end Go.Proofs.YtkanpdhlpobfoaaDoor
