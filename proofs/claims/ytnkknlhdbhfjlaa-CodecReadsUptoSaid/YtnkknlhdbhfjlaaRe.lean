/-
  Read: the panic is recovered; Decode: by contract.
-/
import Derived.Test.YtnkknlhdbhfjlaaRd
import Derived.Recover
import Derived.Laws.Pointers
namespace Go.Proofs.Ytnkknlhdbhfjlaa
open Go.RowKit

theorem res_ct {P : Program} {fn : Func} {p u : Tmp} {ty : TypeId} (h : fn.results = #[.cell p ty, .tmp u]) (tmps : Array Value) (w : World) (g : Nat) (t : TypeId) (cs : Array Value) (fr : Nat × Nat) (d : TypeDesc)
    (hp : tmps.getD p undef = .pointer (some ⟨g, 0, none⟩)) (hg : w.heap[g]? = some (.cells cs t fr))
    (hu : P.underlying ty = some d) (hd : (match d with | .struct _ | .array _ _ => true | _ => false) = true) (hi : (P.info? ty).map (·.size) = some cs.size) :
    (results fn tmps).run P w = .ok (.tuple #[.agg cs, tmps.getD u undef]) w := by
  have hp' : tmps[p]?.getD undef = .pointer (some ⟨g, 0, none⟩) := by simpa using hp
  simp [results, h, hp', asAddr, run_loadVar_row w g t ty cs fr d hg hu hd hi]
theorem res_ctt {P : Program} {fn : Func} {p u v : Tmp} {ty : TypeId} (h : fn.results = #[.cell p ty, .tmp u, .tmp v]) (tmps : Array Value) (w : World) (g : Nat) (t : TypeId) (cs : Array Value) (fr : Nat × Nat) (d : TypeDesc)
    (hp : tmps.getD p undef = .pointer (some ⟨g, 0, none⟩)) (hg : w.heap[g]? = some (.cells cs t fr))
    (hu : P.underlying ty = some d) (hd : (match d with | .struct _ | .array _ _ => true | _ => false) = true) (hi : (P.info? ty).map (·.size) = some cs.size) :
    (results fn tmps).run P w = .ok (.tuple #[.agg cs, tmps.getD u undef, tmps.getD v undef]) w := by
  have hp' : tmps[p]?.getD undef = .pointer (some ⟨g, 0, none⟩) := by simpa using hp
  simp [results, h, hp', asAddr, run_loadVar_row w g t ty cs fr d hg hu hd hi]
theorem load_errno (w : World) (a : Addr) (n : Int) (h : w.cell? a = some (.int .i64 n)) : (loadVar 28 a).run Try.prog w = .ok (.int .i64 n) w := by
  simp [go_sem, h]
theorem res_ctc {P : Program} {fn : Func} {p u q : Tmp} {ty ty2 : TypeId} (h : fn.results = #[.cell p ty, .tmp u, .cell q ty2]) (tmps : Array Value) (w : World) (g : Nat) (t : TypeId) (cs : Array Value) (fr : Nat × Nat) (d : TypeDesc)
    (hp : tmps.getD p undef = .pointer (some ⟨g, 0, none⟩)) (hg : w.heap[g]? = some (.cells cs t fr))
    (hu : P.underlying ty = some d) (hd : (match d with | .struct _ | .array _ _ => true | _ => false) = true) (hi : (P.info? ty).map (·.size) = some cs.size)
    (a : Addr) (v : Value) (hq : tmps.getD q undef = .pointer (some a)) (hn : (loadVar ty2 a).run P w = .ok v w) :
    (results fn tmps).run P w = .ok (.tuple #[.agg cs, tmps.getD u undef, v]) w := by
  have hp' : tmps[p]?.getD undef = .pointer (some ⟨g, 0, none⟩) := by simpa using hp
  have hq' : tmps[q]?.getD undef = .pointer (some a) := by simpa using hq
  simp [results, h, hp', hq', asAddr, run_loadVar_row w g t ty cs fr d hg hu hd hi, hn]

theorem assert_errno (v : Value) (w : World) : (Instr.typeAssert (.iface 28 v) 20 28 false).run Try.prog w = .ok v w := by kernel_rfl
theorem catch_panicking (p : Addr) (x q : Int) (w : World) (hc : w.cell? p = some (.int .i64 x)) (hz : w.frozen? p = false) :
    CallsD Try.prog 21 #[.pointer (some p)] (.panicking [{ v := .iface 28 (.int .i64 q), recovered := false }]) w fun e u' w' =>
      e = .returned (.tuple #[]) ∧ u' = .panicking [{ v := .iface 28 (.int .i64 q), recovered := true }] ∧ w' = w.setCell p (.int .i64 q) := by
  refine callsD_of_wpS Try.func21 rfl fun c₀ cs hu => ?_
  apply wpS_seq
  apply wpS_region
  simp [wpOpsS, go_sem, recoverD, hu, Try.ntmps21, Exit.thenS]
  apply wpS_seq
  apply wpS_region
  simp [wpOpsS, go_sem, Exit.thenS]
  refine wpS_cond (t := true) (by simp [Act.eval, Array.replicate]) ?_
  simp only [if_true]
  apply wpS_region
  simp [wpOpsS, go_sem, hc, hz, assert_errno, bodyPostS, results, Try.results21]
theorem catch_idle (p : Addr) (w : World) :
    CallsD Try.prog 21 #[.pointer (some p)] .returning w fun e u' w' => e = .returned (.tuple #[]) ∧ u' = .returning ∧ w' = w := by
  refine callsD_of_wpS Try.func21 rfl fun c₀ cs hu => ?_
  apply wpS_seq
  apply wpS_region
  simp [wpOpsS, go_sem, recoverD, hu, Try.ntmps21, Exit.thenS]
  apply wpS_seq
  apply wpS_region
  simp [wpOpsS, go_sem, Exit.thenS]
  refine wpS_cond (t := false) (by simp [Act.eval, Array.replicate]) ?_
  simp only [Bool.false_eq_true, if_false]
  refine wpS_of_wp (wp_skip ?_)
  cases c₀
  simp_all [bodyPostS, results, Try.results21]

/-- what Read answers -/
def PostR (w : World) : Dec → Ending → World → Prop
  | .bad q, e, w' => e = .returned (.tuple #[.agg #[.int .i64 0, .int .i64 0, .string ⟨#[]⟩, .slice none 0 0, .slice none 0 0], .int .i64 0, .int .i64 q]) ∧ Below w.heap.size w w'
  | .good v n, e, w' => ∃ y : X, e = .returned (.tuple #[y.v, .int .i64 n, .int .i64 0]) ∧ IsP w' (fun g => w.heap.size ≤ g ∧ g < w'.heap.size) v y ∧ Below w.heap.size w w'
theorem kp_below {w w3 w' : World} {R : Nat} (hb : Below w.heap.size w w3) (hk : Kp R w3 w') (hR : w.heap.size ≤ R) : Below w.heap.size w w' :=
  hb.trans (Fr.mono hk fun q (hq : q < w.heap.size) => ⟨Nat.lt_of_lt_of_le hq hb.size, by omega⟩).below
theorem rd_new {w w3 : World} {A : Option Addr} {l : Bs} {c R : Nat} (hB : O.Byt w A l) (hl : l.length ≤ 4194304) (hlc : l.length ≤ c) (hb : Below w.heap.size w w3) (hr : w3.heap[R]? = some (.cells #[.slice A l.length c] 44 (0, 0))) : Rd w3 w.heap.size R l := by
  refine ⟨⟨A, c, hr, hlc, hB.below hb, ?_⟩, hl⟩
  rcases hB with h | ⟨g, o, h1, h2, _⟩
  · exact .inl h
  · exact .inr ⟨g, o, h1, h2⟩
theorem heap3_at (w : World) (a b c : Obj) : (((w.alloc a).alloc b).alloc c).heap[w.heap.size + 2]? = some c := by
  show (((w.heap.push a).push b).push c)[w.heap.size + 2]? = some c
  rw [Array.getElem?_push, if_pos (by simp)]
theorem heap3_1 (w : World) (a b c : Obj) : (((w.alloc a).alloc b).alloc c).heap[w.heap.size + 1]? = some b := by
  rw [Below.heap_alloc _ _ _ (by simp)]
  exact heap2d_at _ _ _
theorem heap3_0 (w : World) (a b c : Obj) : (((w.alloc a).alloc b).alloc c).heap[w.heap.size]? = some a := by
  rw [Below.heap_alloc _ _ _ (by simp; omega), Below.heap_alloc _ _ _ (by simp)]
  exact hp_new rfl

set_option maxRecDepth 8000 in
set_option maxHeartbeats 1000000 in
theorem read_bad (A : Option Addr) (l : Bs) (c q : Nat) (w : World) (hB : O.Byt w A l) (hl : l.length ≤ 4194304) (hlc : l.length ≤ c) (hx : dec 20 l = .bad q) :
    Calls Try.prog 13 #[.slice A l.length c] w (PostR w (.bad q)) := by
  obtain ⟨i5, hi5, hz5, hs5, hb5⟩ := info_parts infoData
  have hmf : ∀ (fn : Fn) (first cap : Array Value) (w : World), (Instr.makeFunc fn first cap).run Try.prog w = .ok (.func fn first cap) w := fun _ _ _ _ => rfl
  have HV : Hid (∀ w3, Below w.heap.size w w3 → w3.heap[w.heap.size + 2]? = some (.cells #[.slice A l.length c] 44 (0, 0)) → Calls Try.prog 22 #[.pointer (some ⟨w.heap.size + 2, 0, none⟩), .int .i64 0] w3 fun e w' => e = pan q ∧ Kp (w.heap.size + 2) w3 w') := fun w3 hb hr => by
    have := value_any 20 w.heap.size (w.heap.size + 2) l w3 0 (rd_new hB hl hlc hb hr) hb.size rfl
    rw [hx] at this
    exact this
  clear hB hl hlc hx
  go_enter_defers Try.func13, Try.ntmps13
  go_wp2_with fail
  refine (HV.out _ (below3d _ _ _ _) (heap3_at _ _ _ _)).mono ?_
  rintro e w4 ⟨rfl, hk⟩
  have hb4 := kp_below (below3d w _ _ _) hk (by omega)
  have hr4 := (hk.block (k := w.heap.size) (by simp; omega) (by omega)).trans (heap3_0 w _ _ _)
  have he4 := (hk.block (k := w.heap.size + 1) (by simp) (by omega)).trans (heap3_1 w _ _ _)
  clear HV hk
  go_wp2_with fail
  refine leaves_cons (f := 21) (args := #[.pointer (some ⟨w.heap.size + 1, 0, none⟩)]) (by simp) (by simp [go_sem]) ?_
  refine (catch_panicking ⟨w.heap.size + 1, 0, none⟩ 0 q w4 ?_ ?_).mono ?_
  · rw [cell_of_row w4 _ 0 _ _ _ he4]; rfl
  · simp [World.frozen?, he4]
  rintro e u' w5 ⟨rfl, rfl, rfl⟩
  have hset := Below.heap_setCell w4 ⟨w.heap.size + 1, 0, none⟩ (.int .i64 q) w.heap.size (by simp)
  refine ⟨_, res_ctc rfl _ _ w.heap.size 25 _ (0, 0) _ rfl (hset.trans hr4) Try.underlying25 rfl (by rw [hi5]; simp [hs5]) ⟨w.heap.size + 1, 0, none⟩ (.int .i64 q) rfl ?_, rfl, ?_⟩
  · refine load_errno _ _ _ ?_
    rw [cell_of_row _ _ 0 _ _ _ (hp_row_set he4 _)]
    rfl
  · exact hb4.trans ((Below.refl _ _).setCell (by show w.heap.size ≤ w.heap.size + 1; omega) _)
end Go.Proofs.Ytnkknlhdbhfjlaa
