/-
  The reference: own, kind for kind. (gen_yb.py)
-/
import Derived.Test.YtgehgccgologpaaYa
import Derived.Test.YtgehgccgologpaaZn
namespace Go.Proofs.Ytgehgccgologpaa.Z
open Go.RowKit Go.Shelf Go.Proofs.Ytgehgccgologpaa Go.Proofs.Ytgehgccgologpaa.R Go.Proofs.Ytgehgccgologpaa.T

/-- what is around, in plain Lean, and in memory -/
structure Ar where
  labels : List ByteArray
  loops : List ByteArray
  loop : Bool
  breaks : Bool
  inside : Bool
structure ArX where
  la : Option Addr
  lc : Nat
  pa : Option Addr
  pc : Nat
abbrev ArX.cells (z : ArX) (a : Ar) : Array Value := #[.slice z.la a.labels.length z.lc, .slice z.pa a.loops.length z.pc, .bool a.loop, .bool a.breaks, .bool a.inside]
abbrev ArX.v (z : ArX) (a : Ar) : Value := .agg (z.cells a)
structure IsAr (w : World) (B : Nat) (a : Ar) (z : ArX) : Prop where
  ls : StrsB w B z.la a.labels
  lc : a.labels.length ≤ z.lc
  ps : StrsB w B z.pa a.loops
  pc : a.loops.length ≤ z.pc
  ll : a.labels.length ≤ 4194304
  pl : a.loops.length ≤ 4194304
theorem IsAr.to {w w' : World} {B B' : Nat} {a : Ar} {z : ArX} (h : IsAr w B a z) (hb : Below B w w') (hB : B ≤ B') : IsAr w' B' a z := ⟨h.ls.to hb hB, h.lc, h.ps.to hb hB, h.pc, h.ll, h.pl⟩
/-- what own has at hand -/
structure Opr (w : World) (v : V) (xka : Option Addr) (xkc : Nat) (xla : Option Addr) (xlc : Nat) (a : Ar) (z : ArX) (W0 : World) : Prop where
  bl : Below w.heap.size w W0
  n' : At W0 w.heap.size 0 ⟨v.k, v.nm, v.n, v.s, xka, v.ks.length, xkc, xla, v.l.length, xlc⟩
  r0 : W0.cell? ⟨w.heap.size + 1, 0, none⟩ = some (.slice z.la a.labels.length z.lc)
  r1 : W0.cell? ⟨w.heap.size + 1, 1, none⟩ = some (.slice z.pa a.loops.length z.pc)
  r2 : W0.cell? ⟨w.heap.size + 1, 2, none⟩ = some (.bool a.loop)
  r3 : W0.cell? ⟨w.heap.size + 1, 3, none⟩ = some (.bool a.breaks)
  r4 : W0.cell? ⟨w.heap.size + 1, 4, none⟩ = some (.bool a.inside)
  lt : w.heap.size + 1 < W0.heap.size
theorem Opr.low {w : World} {v : V} {xka : Option Addr} {xkc : Nat} {xla : Option Addr} {xlc : Nat} {a : Ar} {z : ArX} {W0 W1 : World} (h : Opr w v xka xkc xla xlc a z W0) (hb : Below W0.heap.size W0 W1) : Opr w v xka xkc xla xlc a z W1 :=
  ⟨h.bl.trans (hb.mono h.bl.size), h.n'.below (Nat.lt_of_succ_lt h.lt) hb, (hb.cell (p := ⟨w.heap.size + 1, 0, none⟩) h.lt).trans h.r0, (hb.cell (p := ⟨w.heap.size + 1, 1, none⟩) h.lt).trans h.r1, (hb.cell (p := ⟨w.heap.size + 1, 2, none⟩) h.lt).trans h.r2, (hb.cell (p := ⟨w.heap.size + 1, 3, none⟩) h.lt).trans h.r3, (hb.cell (p := ⟨w.heap.size + 1, 4, none⟩) h.lt).trans h.r4, Nat.lt_of_lt_of_le h.lt hb.size⟩
theorem opr_new (w : World) (v : V) (xka : Option Addr) (xkc : Nat) (xla : Option Addr) (xlc : Nat) (a : Ar) (z : ArX) : ∃ W0, (w.alloc (.cells #[.int .i64 v.k, .string v.nm, .int .i64 v.n, .string v.s, .slice xka v.ks.length xkc, .slice xla v.l.length xlc] 25)).alloc (.cells #[.slice z.la a.labels.length z.lc, .slice z.pa a.loops.length z.pc, .bool a.loop, .bool a.breaks, .bool a.inside] 46) = W0 ∧ Opr w v xka xkc xla xlc a z W0 := by
  have h1 := pre_new w v xka xkc xla xlc
  have hz : (w.alloc (.cells #[.int .i64 v.k, .string v.nm, .int .i64 v.n, .string v.s, .slice xka v.ks.length xkc, .slice xla v.l.length xlc] 25)).heap.size = w.heap.size + 1 := by simp
  generalize w.alloc (.cells #[.int .i64 v.k, .string v.nm, .int .i64 v.n, .string v.s, .slice xka v.ks.length xkc, .slice xla v.l.length xlc] 25) = w1 at *
  have h3 := h1.low (below_alloc w1 (.cells #[.slice z.la a.labels.length z.lc, .slice z.pa a.loops.length z.pc, .bool a.loop, .bool a.breaks, .bool a.inside] 46))
  refine ⟨_, rfl, h3.bl, h3.at', ?_, ?_, ?_, ?_, ?_, by simp; omega⟩ <;> (rw [← hz]; simp)
set_option maxRecDepth 8000 in
set_option maxHeartbeats 1000000 in
theorem own_23 (v : V) (x : X) (a : Ar) (z : ArX) (w : World) (hx : Is w v x) (ha : IsAr w w.heap.size a z) (hk : v.k = 23) : Calls Try.prog 54 #[x.v, z.v a] w (AnsB w (!bar v.nm)) := by
  obtain ⟨xka, xkc, xla, xlc, rfl, hkc, -, hks, hrow⟩ := hx.open
  have HT := Lib.hid (opr_new w v xka xkc xla xlc a z)
  have HAR := Lib.hid fun w' (h : Below w.heap.size w w') => ha.to h h.size
  have HC := Lib.hid fun w' => bad_any v.nm w'
  simp only [X.v, ArX.v, ArX.cells]
  rw [hk] at HT ⊢
  obtain ⟨W0, hW0, hop⟩ := HT.out
  obtain ⟨c0, c1, c2, c3, c4, c5⟩ := hop.n'.six
  have r0 := hop.r0
  have r1 := hop.r1
  have r2 := hop.r2
  have r3 := hop.r3
  have r4 := hop.r4
  have HW0 := Lib.hid hW0
  have HA := Lib.hid hop
  rw [hk] at c0
  clear hx ha hW0 hop HT hks hrow hkc hk
  go_enter Try.func54, Try.ntmps54
  go_upto_region 1 with (fail)
  rw [HW0.out]
  go_wp2_with fail
  refine (HC.out _).mono ?_
  rintro e w1 ⟨rfl, rfl⟩
  go_wp2_with fail
  go_ret
  exact ⟨rfl, HA.out.bl⟩
set_option maxRecDepth 8000 in
set_option maxHeartbeats 1000000 in
theorem own_35 (v : V) (x : X) (a : Ar) (z : ArX) (w : World) (hx : Is w v x) (ha : IsAr w w.heap.size a z) (hk : v.k = 35) : Calls Try.prog 54 #[x.v, z.v a] w (AnsB w (!bar v.nm)) := by
  obtain ⟨xka, xkc, xla, xlc, rfl, hkc, -, hks, hrow⟩ := hx.open
  have HT := Lib.hid (opr_new w v xka xkc xla xlc a z)
  have HAR := Lib.hid fun w' (h : Below w.heap.size w w') => ha.to h h.size
  have HC := Lib.hid fun w' => bad_any v.nm w'
  simp only [X.v, ArX.v, ArX.cells]
  rw [hk] at HT ⊢
  obtain ⟨W0, hW0, hop⟩ := HT.out
  obtain ⟨c0, c1, c2, c3, c4, c5⟩ := hop.n'.six
  have r0 := hop.r0
  have r1 := hop.r1
  have r2 := hop.r2
  have r3 := hop.r3
  have r4 := hop.r4
  have HW0 := Lib.hid hW0
  have HA := Lib.hid hop
  rw [hk] at c0
  clear hx ha hW0 hop HT hks hrow hkc hk
  go_enter Try.func54, Try.ntmps54
  go_upto_region 1 with (fail)
  rw [HW0.out]
  go_wp2_with fail
  refine (HC.out _).mono ?_
  rintro e w1 ⟨rfl, rfl⟩
  go_wp2_with fail
  go_ret
  exact ⟨rfl, HA.out.bl⟩
set_option maxRecDepth 8000 in
set_option maxHeartbeats 1000000 in
theorem own_33 (v : V) (x : X) (a : Ar) (z : ArX) (w : World) (hx : Is w v x) (ha : IsAr w w.heap.size a z) (hk : v.k = 33) : Calls Try.prog 54 #[x.v, z.v a] w (AnsB w (a.inside)) := by
  obtain ⟨xka, xkc, xla, xlc, rfl, hkc, -, hks, hrow⟩ := hx.open
  have HT := Lib.hid (opr_new w v xka xkc xla xlc a z)
  have HAR := Lib.hid fun w' (h : Below w.heap.size w w') => ha.to h h.size
  simp only [X.v, ArX.v, ArX.cells]
  rw [hk] at HT ⊢
  obtain ⟨W0, hW0, hop⟩ := HT.out
  obtain ⟨c0, c1, c2, c3, c4, c5⟩ := hop.n'.six
  have r0 := hop.r0
  have r1 := hop.r1
  have r2 := hop.r2
  have r3 := hop.r3
  have r4 := hop.r4
  have HW0 := Lib.hid hW0
  have HA := Lib.hid hop
  rw [hk] at c0
  clear hx ha hW0 hop HT hks hrow hkc hk
  go_enter Try.func54, Try.ntmps54
  go_upto_region 1 with (fail)
  rw [HW0.out]
  go_wp2_with fail
  go_ret
  exact ⟨rfl, HA.out.bl⟩
set_option maxRecDepth 8000 in
set_option maxHeartbeats 1000000 in
theorem own_31e (v : V) (x : X) (a : Ar) (z : ArX) (w : World) (hx : Is w v x) (ha : IsAr w w.heap.size a z) (hk : v.k = 31) (hz : v.nm.size = 0) : Calls Try.prog 54 #[x.v, z.v a] w (AnsB w (a.breaks)) := by
  obtain ⟨xka, xkc, xla, xlc, rfl, hkc, -, hks, hrow⟩ := hx.open
  have HT := Lib.hid (opr_new w v xka xkc xla xlc a z)
  have HAR := Lib.hid fun w' (h : Below w.heap.size w w') => ha.to h h.size
  have htn := (toList_nil v.nm).2 hz
  simp only [X.v, ArX.v, ArX.cells]
  rw [hk] at HT ⊢
  obtain ⟨W0, hW0, hop⟩ := HT.out
  obtain ⟨c0, c1, c2, c3, c4, c5⟩ := hop.n'.six
  have r0 := hop.r0
  have r1 := hop.r1
  have r2 := hop.r2
  have r3 := hop.r3
  have r4 := hop.r4
  have HW0 := Lib.hid hW0
  have HA := Lib.hid hop
  rw [hk] at c0
  clear hx ha hW0 hop HT hks hrow hkc hk hz
  go_enter Try.func54, Try.ntmps54
  go_upto_region 1 with (fail)
  rw [HW0.out]
  go_wp2_with fail
  all_goals (go_ret; refine ⟨?_, HA.out.bl⟩; first | rfl | (rename_i hx; rw [hx]; rfl) | simp_all)
set_option maxRecDepth 8000 in
set_option maxHeartbeats 1000000 in
theorem own_31n (v : V) (x : X) (a : Ar) (z : ArX) (w : World) (hx : Is w v x) (ha : IsAr w w.heap.size a z) (hk : v.k = 31) (hz : ¬ v.nm.size = 0) : Calls Try.prog 54 #[x.v, z.v a] w (AnsB w (hasB a.labels v.nm)) := by
  obtain ⟨xka, xkc, xla, xlc, rfl, hkc, -, hks, hrow⟩ := hx.open
  have HT := Lib.hid (opr_new w v xka xkc xla xlc a z)
  have HAR := Lib.hid fun w' (h : Below w.heap.size w w') => ha.to h h.size
  have htn1 : ¬ v.nm.toList = [] := fun e => hz ((toList_nil v.nm).1 e)
  have htn2 : v.nm.toList.isEmpty = false := by simpa using htn1
  have HC := Lib.hid fun w' (h : Below w.heap.size w w') => has_any a.labels z.la a.labels.length z.lc v.nm w' (ha.to h h.size).ls rfl ha.ll
  simp only [X.v, ArX.v, ArX.cells]
  rw [hk] at HT ⊢
  obtain ⟨W0, hW0, hop⟩ := HT.out
  obtain ⟨c0, c1, c2, c3, c4, c5⟩ := hop.n'.six
  have r0 := hop.r0
  have r1 := hop.r1
  have r2 := hop.r2
  have r3 := hop.r3
  have r4 := hop.r4
  have HW0 := Lib.hid hW0
  have HA := Lib.hid hop
  rw [hk] at c0
  clear hx ha hW0 hop HT hks hrow hkc hk hz
  go_enter Try.func54, Try.ntmps54
  go_upto_region 1 with (fail)
  rw [HW0.out]
  go_wp2_with fail
  refine (HC.out _ HA.out.bl).mono ?_
  rintro e w1 ⟨rfl, rfl⟩
  go_wp2_with fail
  go_ret
  exact ⟨rfl, HA.out.bl⟩
set_option maxRecDepth 8000 in
set_option maxHeartbeats 1000000 in
theorem own_32e (v : V) (x : X) (a : Ar) (z : ArX) (w : World) (hx : Is w v x) (ha : IsAr w w.heap.size a z) (hk : v.k = 32) (hz : v.nm.size = 0) : Calls Try.prog 54 #[x.v, z.v a] w (AnsB w (a.loop)) := by
  obtain ⟨xka, xkc, xla, xlc, rfl, hkc, -, hks, hrow⟩ := hx.open
  have HT := Lib.hid (opr_new w v xka xkc xla xlc a z)
  have HAR := Lib.hid fun w' (h : Below w.heap.size w w') => ha.to h h.size
  have htn := (toList_nil v.nm).2 hz
  simp only [X.v, ArX.v, ArX.cells]
  rw [hk] at HT ⊢
  obtain ⟨W0, hW0, hop⟩ := HT.out
  obtain ⟨c0, c1, c2, c3, c4, c5⟩ := hop.n'.six
  have r0 := hop.r0
  have r1 := hop.r1
  have r2 := hop.r2
  have r3 := hop.r3
  have r4 := hop.r4
  have HW0 := Lib.hid hW0
  have HA := Lib.hid hop
  rw [hk] at c0
  clear hx ha hW0 hop HT hks hrow hkc hk hz
  go_enter Try.func54, Try.ntmps54
  go_upto_region 1 with (fail)
  rw [HW0.out]
  go_wp2_with fail
  all_goals (go_ret; refine ⟨?_, HA.out.bl⟩; first | rfl | (rename_i hx; rw [hx]; rfl) | simp_all)
set_option maxRecDepth 8000 in
set_option maxHeartbeats 1000000 in
theorem own_32n (v : V) (x : X) (a : Ar) (z : ArX) (w : World) (hx : Is w v x) (ha : IsAr w w.heap.size a z) (hk : v.k = 32) (hz : ¬ v.nm.size = 0) : Calls Try.prog 54 #[x.v, z.v a] w (AnsB w (hasB a.loops v.nm)) := by
  obtain ⟨xka, xkc, xla, xlc, rfl, hkc, -, hks, hrow⟩ := hx.open
  have HT := Lib.hid (opr_new w v xka xkc xla xlc a z)
  have HAR := Lib.hid fun w' (h : Below w.heap.size w w') => ha.to h h.size
  have htn1 : ¬ v.nm.toList = [] := fun e => hz ((toList_nil v.nm).1 e)
  have htn2 : v.nm.toList.isEmpty = false := by simpa using htn1
  have HC := Lib.hid fun w' (h : Below w.heap.size w w') => has_any a.loops z.pa a.loops.length z.pc v.nm w' (ha.to h h.size).ps rfl ha.pl
  simp only [X.v, ArX.v, ArX.cells]
  rw [hk] at HT ⊢
  obtain ⟨W0, hW0, hop⟩ := HT.out
  obtain ⟨c0, c1, c2, c3, c4, c5⟩ := hop.n'.six
  have r0 := hop.r0
  have r1 := hop.r1
  have r2 := hop.r2
  have r3 := hop.r3
  have r4 := hop.r4
  have HW0 := Lib.hid hW0
  have HA := Lib.hid hop
  rw [hk] at c0
  clear hx ha hW0 hop HT hks hrow hkc hk hz
  go_enter Try.func54, Try.ntmps54
  go_upto_region 1 with (fail)
  rw [HW0.out]
  go_wp2_with fail
  refine (HC.out _ HA.out.bl).mono ?_
  rintro e w1 ⟨rfl, rfl⟩
  go_wp2_with fail
  go_ret
  exact ⟨rfl, HA.out.bl⟩
set_option maxRecDepth 8000 in
set_option maxHeartbeats 1000000 in
theorem own_38 (v : V) (x : X) (a : Ar) (z : ArX) (w : World) (hx : Is w v x) (ha : IsAr w w.heap.size a z) (hk : v.k = 38) : Calls Try.prog 54 #[x.v, z.v a] w (AnsB w (!hasB a.labels v.nm)) := by
  obtain ⟨xka, xkc, xla, xlc, rfl, hkc, -, hks, hrow⟩ := hx.open
  have HT := Lib.hid (opr_new w v xka xkc xla xlc a z)
  have HAR := Lib.hid fun w' (h : Below w.heap.size w w') => ha.to h h.size
  have HC := Lib.hid fun w' (h : Below w.heap.size w w') => has_any a.labels z.la a.labels.length z.lc v.nm w' (ha.to h h.size).ls rfl ha.ll
  simp only [X.v, ArX.v, ArX.cells]
  rw [hk] at HT ⊢
  obtain ⟨W0, hW0, hop⟩ := HT.out
  obtain ⟨c0, c1, c2, c3, c4, c5⟩ := hop.n'.six
  have r0 := hop.r0
  have r1 := hop.r1
  have r2 := hop.r2
  have r3 := hop.r3
  have r4 := hop.r4
  have HW0 := Lib.hid hW0
  have HA := Lib.hid hop
  rw [hk] at c0
  clear hx ha hW0 hop HT hks hrow hkc hk
  go_enter Try.func54, Try.ntmps54
  go_upto_region 1 with (fail)
  rw [HW0.out]
  go_wp2_with fail
  refine (HC.out _ HA.out.bl).mono ?_
  rintro e w1 ⟨rfl, rfl⟩
  go_wp2_with fail
  go_ret
  exact ⟨rfl, HA.out.bl⟩
set_option maxRecDepth 8000 in
set_option maxHeartbeats 1000000 in
theorem own_no (v : V) (x : X) (a : Ar) (z : ArX) (w : World) (hx : Is w v x) (ha : IsAr w w.heap.size a z) (h23 : ¬ v.k = 23) (h35 : ¬ v.k = 35) (h39 : ¬ v.k = 39) (h10 : ¬ v.k = 10) (h20 : ¬ v.k = 20) (h16 : ¬ v.k = 16) (h30 : ¬ v.k = 30) (h15 : ¬ v.k = 15) (h8 : ¬ v.k = 8) (h33 : ¬ v.k = 33) (h31 : ¬ v.k = 31) (h32 : ¬ v.k = 32) (h38 : ¬ v.k = 38) : Calls Try.prog 54 #[x.v, z.v a] w (AnsB w (true)) := by
  obtain ⟨xka, xkc, xla, xlc, rfl, hkc, -, hks, hrow⟩ := hx.open
  have HT := Lib.hid (opr_new w v xka xkc xla xlc a z)
  have HAR := Lib.hid fun w' (h : Below w.heap.size w w') => ha.to h h.size
  have e23 := beqF h23
  have e35 := beqF h35
  have e39 := beqF h39
  have e10 := beqF h10
  have e20 := beqF h20
  have e16 := beqF h16
  have e30 := beqF h30
  have e15 := beqF h15
  have e8 := beqF h8
  have e33 := beqF h33
  have e31 := beqF h31
  have e32 := beqF h32
  have e38 := beqF h38
  simp only [X.v, ArX.v, ArX.cells]
  obtain ⟨W0, hW0, hop⟩ := HT.out
  obtain ⟨c0, c1, c2, c3, c4, c5⟩ := hop.n'.six
  have r0 := hop.r0
  have r1 := hop.r1
  have r2 := hop.r2
  have r3 := hop.r3
  have r4 := hop.r4
  have HW0 := Lib.hid hW0
  have HA := Lib.hid hop
  clear hx ha hW0 hop HT hks hrow hkc h23 h35 h39 h10 h20 h16 h30 h15 h8 h33 h31 h32 h38
  go_enter Try.func54, Try.ntmps54
  go_upto_region 1 with (fail)
  rw [HW0.out]
  go_wp2_with fail
  go_ret
  exact ⟨rfl, HA.out.bl⟩
set_option maxRecDepth 8000 in
set_option maxHeartbeats 1000000 in
theorem own_20 (v : V) (x : X) (a : Ar) (z : ArX) (w : World) (hx : Is w v x) (ha : IsAr w w.heap.size a z) (hk : v.k = 20) (hb : v.bulk ≤ 4194304) (hne : ¬ v.l = []) : Calls Try.prog 54 #[x.v, z.v a] w (AnsB w (!hd v.l fun x => isNam x && bar x.nm)) := by
  obtain ⟨xka, xkc, xla, xlc, rfl, hkc, -, hks, hrow⟩ := hx.open
  have HT := Lib.hid (opr_new w v xka xkc xla xlc a z)
  have HAR := Lib.hid fun w' (h : Below w.heap.size w w') => ha.to h h.size
  obtain ⟨u, r, hl⟩ : ∃ u r, v.l = u :: r := by
    rcases h : v.l with _ | ⟨u, r⟩
    · exact absurd h hne
    · exact ⟨u, r, rfl⟩
  simp only [X.v, ArX.v, ArX.cells]
  rw [hk] at HT ⊢
  obtain ⟨W0, hW0, hop⟩ := HT.out
  obtain ⟨c0, c1, c2, c3, c4, c5⟩ := hop.n'.six
  have r0 := hop.r0
  have r1 := hop.r1
  have r2 := hop.r2
  have r3 := hop.r3
  have r4 := hop.r4
  have HW0 := Lib.hid hW0
  have HA := Lib.hid hop
  rw [hk] at c0
  obtain ⟨g, o, hA, hg, y, hat, hy⟩ := (RowB.below hrow HA.out.bl).at_ (i := 0) (by rw [hl]; simp)
  have hu : v.l[0]'(by rw [hl]; simp) = u := by simp [hl]
  rw [hu] at hy
  rw [Nat.zero_mul, Nat.add_zero] at hat
  obtain ⟨yka, ykc, yla, ylc, rfl, -, -, -, -⟩ := hy.open
  have hn1 : 0 < v.l.length := by rw [hl]; simp
  have hlen : (v.l.length : Int) ≤ 4194304 := by have := bulk_parts v; have := length_le_bulks v.l; omega
  have hn0 : (0 : Int) < (v.l.length : Int) := by omega
  obtain ⟨d0, d1, d2, d3, d4, d5⟩ := hat.six
  obtain ⟨bt, hbt⟩ : ∃ bt, (decide (u.k = 3) && bar u.nm) = bt := ⟨_, rfl⟩
  have HN : Hid (∀ w', Calls Try.prog 73 #[X.v ⟨u.k, u.nm, u.n, u.s, yka, u.ks.length, ykc, yla, u.l.length, ylc⟩] w' (AnsB w' bt)) := fun w' => by rw [← hbt]; exact target_x ⟨u.k, u.nm, u.n, u.s, yka, u.ks.length, ykc, yla, u.l.length, ylc⟩ w'
  simp only [X.v] at HN
  have HV : Hid ((hd v.l fun x => isNam x && bar x.nm) = (decide (u.k = 3) && bar u.nm)) := by
    show _ = _
    rw [hl]
    rfl
  rw [HV.out, hbt]
  subst hA
  clear hx ha hW0 hop HT hks hrow hkc hk hb hne hl hu hy hat hg HV hbt
  go_enter Try.func54, Try.ntmps54
  go_upto_region 1 with (fail)
  rw [HW0.out]
  go_wp2_with fail
  refine (HN.out _).mono ?_
  rintro e w1 ⟨rfl, hb1⟩
  have HB1 := Lib.hid (HA.out.low hb1).bl
  clear hb1
  go_wp2_with fail
  go_ret
  exact ⟨rfl, HB1.out⟩
set_option maxRecDepth 8000 in
set_option maxHeartbeats 1000000 in
theorem own_16 (v : V) (x : X) (a : Ar) (z : ArX) (w : World) (hx : Is w v x) (ha : IsAr w w.heap.size a z) (hk : v.k = 16) (hb : v.bulk ≤ 4194304) (hne : ¬ v.l = []) : Calls Try.prog 54 #[x.v, z.v a] w (AnsB w (!hd v.l fun x => isNam x && bar x.nm)) := by
  obtain ⟨xka, xkc, xla, xlc, rfl, hkc, -, hks, hrow⟩ := hx.open
  have HT := Lib.hid (opr_new w v xka xkc xla xlc a z)
  have HAR := Lib.hid fun w' (h : Below w.heap.size w w') => ha.to h h.size
  obtain ⟨u, r, hl⟩ : ∃ u r, v.l = u :: r := by
    rcases h : v.l with _ | ⟨u, r⟩
    · exact absurd h hne
    · exact ⟨u, r, rfl⟩
  simp only [X.v, ArX.v, ArX.cells]
  rw [hk] at HT ⊢
  obtain ⟨W0, hW0, hop⟩ := HT.out
  obtain ⟨c0, c1, c2, c3, c4, c5⟩ := hop.n'.six
  have r0 := hop.r0
  have r1 := hop.r1
  have r2 := hop.r2
  have r3 := hop.r3
  have r4 := hop.r4
  have HW0 := Lib.hid hW0
  have HA := Lib.hid hop
  rw [hk] at c0
  obtain ⟨g, o, hA, hg, y, hat, hy⟩ := (RowB.below hrow HA.out.bl).at_ (i := 0) (by rw [hl]; simp)
  have hu : v.l[0]'(by rw [hl]; simp) = u := by simp [hl]
  rw [hu] at hy
  rw [Nat.zero_mul, Nat.add_zero] at hat
  obtain ⟨yka, ykc, yla, ylc, rfl, -, -, -, -⟩ := hy.open
  have hn1 : 0 < v.l.length := by rw [hl]; simp
  have hlen : (v.l.length : Int) ≤ 4194304 := by have := bulk_parts v; have := length_le_bulks v.l; omega
  have hn0 : (0 : Int) < (v.l.length : Int) := by omega
  obtain ⟨d0, d1, d2, d3, d4, d5⟩ := hat.six
  obtain ⟨bt, hbt⟩ : ∃ bt, (decide (u.k = 3) && bar u.nm) = bt := ⟨_, rfl⟩
  have HN : Hid (∀ w', Calls Try.prog 73 #[X.v ⟨u.k, u.nm, u.n, u.s, yka, u.ks.length, ykc, yla, u.l.length, ylc⟩] w' (AnsB w' bt)) := fun w' => by rw [← hbt]; exact target_x ⟨u.k, u.nm, u.n, u.s, yka, u.ks.length, ykc, yla, u.l.length, ylc⟩ w'
  simp only [X.v] at HN
  have HV : Hid ((hd v.l fun x => isNam x && bar x.nm) = (decide (u.k = 3) && bar u.nm)) := by
    show _ = _
    rw [hl]
    rfl
  rw [HV.out, hbt]
  subst hA
  clear hx ha hW0 hop HT hks hrow hkc hk hb hne hl hu hy hat hg HV hbt
  go_enter Try.func54, Try.ntmps54
  go_upto_region 1 with (fail)
  rw [HW0.out]
  go_wp2_with fail
  refine (HN.out _).mono ?_
  rintro e w1 ⟨rfl, hb1⟩
  have HB1 := Lib.hid (HA.out.low hb1).bl
  clear hb1
  go_wp2_with fail
  go_ret
  exact ⟨rfl, HB1.out⟩
set_option maxRecDepth 8000 in
set_option maxHeartbeats 1000000 in
theorem own_30 (v : V) (x : X) (a : Ar) (z : ArX) (w : World) (hx : Is w v x) (ha : IsAr w w.heap.size a z) (hk : v.k = 30) (hb : v.bulk ≤ 4194304) (hne : ¬ v.l = []) : Calls Try.prog 54 #[x.v, z.v a] w (AnsB w (!hd v.l fun x => isNam x && bar x.nm)) := by
  obtain ⟨xka, xkc, xla, xlc, rfl, hkc, -, hks, hrow⟩ := hx.open
  have HT := Lib.hid (opr_new w v xka xkc xla xlc a z)
  have HAR := Lib.hid fun w' (h : Below w.heap.size w w') => ha.to h h.size
  obtain ⟨u, r, hl⟩ : ∃ u r, v.l = u :: r := by
    rcases h : v.l with _ | ⟨u, r⟩
    · exact absurd h hne
    · exact ⟨u, r, rfl⟩
  simp only [X.v, ArX.v, ArX.cells]
  rw [hk] at HT ⊢
  obtain ⟨W0, hW0, hop⟩ := HT.out
  obtain ⟨c0, c1, c2, c3, c4, c5⟩ := hop.n'.six
  have r0 := hop.r0
  have r1 := hop.r1
  have r2 := hop.r2
  have r3 := hop.r3
  have r4 := hop.r4
  have HW0 := Lib.hid hW0
  have HA := Lib.hid hop
  rw [hk] at c0
  obtain ⟨g, o, hA, hg, y, hat, hy⟩ := (RowB.below hrow HA.out.bl).at_ (i := 0) (by rw [hl]; simp)
  have hu : v.l[0]'(by rw [hl]; simp) = u := by simp [hl]
  rw [hu] at hy
  rw [Nat.zero_mul, Nat.add_zero] at hat
  obtain ⟨yka, ykc, yla, ylc, rfl, -, -, -, -⟩ := hy.open
  have hn1 : 0 < v.l.length := by rw [hl]; simp
  have hlen : (v.l.length : Int) ≤ 4194304 := by have := bulk_parts v; have := length_le_bulks v.l; omega
  have hn0 : (0 : Int) < (v.l.length : Int) := by omega
  obtain ⟨d0, d1, d2, d3, d4, d5⟩ := hat.six
  obtain ⟨bt, hbt⟩ : ∃ bt, (decide (u.k = 3) && bar u.nm) = bt := ⟨_, rfl⟩
  have HN : Hid (∀ w', Calls Try.prog 73 #[X.v ⟨u.k, u.nm, u.n, u.s, yka, u.ks.length, ykc, yla, u.l.length, ylc⟩] w' (AnsB w' bt)) := fun w' => by rw [← hbt]; exact target_x ⟨u.k, u.nm, u.n, u.s, yka, u.ks.length, ykc, yla, u.l.length, ylc⟩ w'
  simp only [X.v] at HN
  have HV : Hid ((hd v.l fun x => isNam x && bar x.nm) = (decide (u.k = 3) && bar u.nm)) := by
    show _ = _
    rw [hl]
    rfl
  rw [HV.out, hbt]
  subst hA
  clear hx ha hW0 hop HT hks hrow hkc hk hb hne hl hu hy hat hg HV hbt
  go_enter Try.func54, Try.ntmps54
  go_upto_region 1 with (fail)
  rw [HW0.out]
  go_wp2_with fail
  refine (HN.out _).mono ?_
  rintro e w1 ⟨rfl, hb1⟩
  have HB1 := Lib.hid (HA.out.low hb1).bl
  clear hb1
  go_wp2_with fail
  go_ret
  exact ⟨rfl, HB1.out⟩
set_option maxRecDepth 8000 in
set_option maxHeartbeats 1000000 in
theorem own_15t (v : V) (x : X) (a : Ar) (z : ArX) (w : World) (hx : Is w v x) (ha : IsAr w w.heap.size a z) (hk : v.k = 15) (hb : v.bulk ≤ 4194304) (u : V) (r : List V) (hl : v.l = u :: r) (hd : v.nm = delS) : Calls Try.prog 54 #[x.v, z.v a] w (AnsB w (!decide (u.k = 3))) := by
  obtain ⟨xka, xkc, xla, xlc, rfl, hkc, -, hks, hrow⟩ := hx.open
  have HT := Lib.hid (opr_new w v xka xkc xla xlc a z)
  have HAR := Lib.hid fun w' (h : Below w.heap.size w w') => ha.to h h.size
  have hdel := (del_iff v.nm).symm.trans (decide_eq_true hd)
  simp only [X.v, ArX.v, ArX.cells]
  rw [hk] at HT ⊢
  obtain ⟨W0, hW0, hop⟩ := HT.out
  obtain ⟨c0, c1, c2, c3, c4, c5⟩ := hop.n'.six
  have r0 := hop.r0
  have r1 := hop.r1
  have r2 := hop.r2
  have r3 := hop.r3
  have r4 := hop.r4
  have HW0 := Lib.hid hW0
  have HA := Lib.hid hop
  rw [hk] at c0
  obtain ⟨g, o, hA, hg, y, hat, hy⟩ := (RowB.below hrow HA.out.bl).at_ (i := 0) (by rw [hl]; simp)
  have hu : v.l[0]'(by rw [hl]; simp) = u := by simp [hl]
  rw [hu] at hy
  rw [Nat.zero_mul, Nat.add_zero] at hat
  obtain ⟨yka, ykc, yla, ylc, rfl, -, -, -, -⟩ := hy.open
  have hn1 : 0 < v.l.length := by rw [hl]; simp
  have hlen : (v.l.length : Int) ≤ 4194304 := by have := bulk_parts v; have := length_le_bulks v.l; omega
  have hn0 : (0 : Int) < (v.l.length : Int) := by omega
  obtain ⟨d0, d1, d2, d3, d4, d5⟩ := hat.six
  subst hA
  clear hx ha hW0 hop HT hks hrow hkc hk hb hl hu hy hat hg hd
  go_enter Try.func54, Try.ntmps54
  go_upto_region 1 with (fail)
  rw [HW0.out]
  go_wp2_with fail
  all_goals (go_ret; refine ⟨?_, HA.out.bl⟩; first | rfl | (rename_i hx; rw [hx]; rfl) | simp_all)
set_option maxRecDepth 8000 in
set_option maxHeartbeats 1000000 in
theorem own_15f (v : V) (x : X) (a : Ar) (z : ArX) (w : World) (hx : Is w v x) (ha : IsAr w w.heap.size a z) (hk : v.k = 15) (hd : ¬ v.nm = delS) : Calls Try.prog 54 #[x.v, z.v a] w (AnsB w (true)) := by
  obtain ⟨xka, xkc, xla, xlc, rfl, hkc, -, hks, hrow⟩ := hx.open
  have HT := Lib.hid (opr_new w v xka xkc xla xlc a z)
  have HAR := Lib.hid fun w' (h : Below w.heap.size w w') => ha.to h h.size
  have hdel := (del_iff v.nm).symm.trans (decide_eq_false hd)
  simp only [X.v, ArX.v, ArX.cells]
  rw [hk] at HT ⊢
  obtain ⟨W0, hW0, hop⟩ := HT.out
  obtain ⟨c0, c1, c2, c3, c4, c5⟩ := hop.n'.six
  have r0 := hop.r0
  have r1 := hop.r1
  have r2 := hop.r2
  have r3 := hop.r3
  have r4 := hop.r4
  have HW0 := Lib.hid hW0
  have HA := Lib.hid hop
  rw [hk] at c0
  clear hx ha hW0 hop HT hks hrow hkc hk hd
  go_enter Try.func54, Try.ntmps54
  go_upto_region 1 with (fail)
  rw [HW0.out]
  go_wp2_with fail
  go_ret
  exact ⟨rfl, HA.out.bl⟩
set_option maxRecDepth 8000 in
set_option maxHeartbeats 1000000 in
theorem own_39 (v : V) (x : X) (a : Ar) (z : ArX) (w : World) (hx : Is w v x) (ha : IsAr w w.heap.size a z) (hk : v.k = 39) (hb : v.bulk ≤ 4194304) : Calls Try.prog 54 #[x.v, z.v a] w (AnsB w (!(bar v.nm || v.ks.any bar || dup v.ks))) := by
  obtain ⟨xka, xkc, xla, xlc, rfl, hkc, -, hks, hrow⟩ := hx.open
  have HT := Lib.hid (opr_new w v xka xkc xla xlc a z)
  have HAR := Lib.hid fun w' (h : Below w.heap.size w w') => ha.to h h.size
  have hbp := bulk_parts v
  have hkl : v.ks.length ≤ 4194304 := by have := length_le_keysBulk v.ks; omega
  have hkli : (v.ks.length : Int) ≤ 4194304 := by omega
  have HC := Lib.hid fun w' => bad_any v.nm w'
  have HB := Lib.hid fun s w' => bad_any s w'
  simp only [X.v, ArX.v, ArX.cells]
  rw [hk] at HT ⊢
  obtain ⟨W0, hW0, hop⟩ := HT.out
  obtain ⟨c0, c1, c2, c3, c4, c5⟩ := hop.n'.six
  have r0 := hop.r0
  have r1 := hop.r1
  have r2 := hop.r2
  have r3 := hop.r3
  have r4 := hop.r4
  have HW0 := Lib.hid hW0
  have HA := Lib.hid hop
  rw [hk] at c0
  have HKS := Lib.hid (hks.below HA.out.bl)
  have HKC := Lib.hid hkc
  have HT2 := Lib.hid (twice_any v.ks xka v.ks.length xkc W0 HKS.out rfl hkl hkc)
  clear hx ha hW0 hop HT hks hrow hkc hk hb hbp hkl
  go_enter Try.func54, Try.ntmps54
  go_upto_region 1 with (fail)
  rw [HW0.out]
  go_wp2_with fail
  go_loop [25] (fun i => ∃ j : Nat, j ≤ v.ks.length ∧ i = .int .i64 j ∧ Hid (∀ m (h : m < j) (h1 : m < v.ks.length), bar v.ks[m] = false)) (fun i => v.ks.length - (intOf i).toNat)
  case atStart => exact ⟨0, Nat.zero_le _, rfl, Lib.hid fun m h => absurd h (Nat.not_lt_zero _)⟩
  case round =>
    obtain ⟨j, hj, rfl, hno⟩ := hrel
    by_cases hlt : j < v.ks.length
    · obtain ⟨g, o, rfl, hg, c6⟩ := HKS.out.at_ hlt
      have HY : Hid (bar v.ks[j] = true → v.ks.any bar = true) := fun e => List.any_eq_true.2 ⟨_, List.getElem_mem hlt, e⟩
      have HN : Hid (bar v.ks[j] = false → ∀ m (h : m < j + 1) (h1 : m < v.ks.length), bar v.ks[m] = false) := fun e m hm h1 => by
        by_cases hmj : m = j
        · subst hmj; exact e
        · exact hno.out m (by omega) h1
      have HBJ := Lib.hid fun w' => HB.out v.ks[j] w'
      generalize v.ks[j] = t at *
      cases hbt : bar t with
      | true =>
        rw [hbt] at HBJ
        have HYE := Lib.hid (HY.out hbt)
        clear HY HN hbt
        go_wp2_with fail
        refine (HBJ.out _).mono ?_
        rintro e w1 ⟨rfl, rfl⟩
        go_wp2_with fail
        go_ret
        exact ⟨by rw [HYE.out, Bool.or_true, Bool.true_or]; rfl, HA.out.bl⟩
      | false =>
        rw [hbt] at HBJ
        have HNE := Lib.hid (HN.out hbt)
        clear HY HN hbt
        go_wp2_with fail
        refine (HBJ.out _).mono ?_
        rintro e w1 ⟨rfl, rfl⟩
        go_wp2_with fail
        go_round
        case rel => exact ⟨j + 1, hlt, by go_num, HNE⟩
        case measure => simp [intOf]; omega
    · obtain rfl : j = v.ks.length := by omega
      have HNE : Hid (v.ks.any bar = false) := List.any_eq_false.2 fun t ht => by
        obtain ⟨m, hm, rfl⟩ := List.getElem_of_mem ht
        rw [hno.out m hm hm]
        simp
      cases h1 : bar v.nm with
      | true =>
        rw [h1] at HC
        have H1 := Lib.hid h1
        clear h1
        go_wp2_with fail
        refine (HC.out _).mono ?_
        rintro e w1 ⟨rfl, rfl⟩
        go_wp2_with fail
        go_ret
        exact ⟨by rw [H1.out, HNE.out]; rfl, HA.out.bl⟩
      | false =>
        rw [h1] at HC
        have H1 := Lib.hid h1
        clear h1
        go_wp2_with fail
        refine (HC.out _).mono ?_
        rintro e w1 ⟨rfl, rfl⟩
        go_wp2_with fail
        refine HT2.out.mono ?_
        rintro e w1 ⟨rfl, rfl⟩
        go_wp2_with fail
        go_ret
        exact ⟨by rw [H1.out, HNE.out]; rfl, HA.out.bl⟩
set_option maxRecDepth 8000 in
set_option maxHeartbeats 1000000 in
theorem own_10 (v : V) (x : X) (a : Ar) (z : ArX) (w : World) (hx : Is w v x) (ha : IsAr w w.heap.size a z) (hk : v.k = 10) (hb : v.bulk ≤ 4194304) : Calls Try.prog 54 #[x.v, z.v a] w (AnsB w (!(bar v.nm || v.ks.any bar || dup v.ks))) := by
  obtain ⟨xka, xkc, xla, xlc, rfl, hkc, -, hks, hrow⟩ := hx.open
  have HT := Lib.hid (opr_new w v xka xkc xla xlc a z)
  have HAR := Lib.hid fun w' (h : Below w.heap.size w w') => ha.to h h.size
  have hbp := bulk_parts v
  have hkl : v.ks.length ≤ 4194304 := by have := length_le_keysBulk v.ks; omega
  have hkli : (v.ks.length : Int) ≤ 4194304 := by omega
  have HC := Lib.hid fun w' => bad_any v.nm w'
  have HB := Lib.hid fun s w' => bad_any s w'
  simp only [X.v, ArX.v, ArX.cells]
  rw [hk] at HT ⊢
  obtain ⟨W0, hW0, hop⟩ := HT.out
  obtain ⟨c0, c1, c2, c3, c4, c5⟩ := hop.n'.six
  have r0 := hop.r0
  have r1 := hop.r1
  have r2 := hop.r2
  have r3 := hop.r3
  have r4 := hop.r4
  have HW0 := Lib.hid hW0
  have HA := Lib.hid hop
  rw [hk] at c0
  have HKS := Lib.hid (hks.below HA.out.bl)
  have HKC := Lib.hid hkc
  have HT2 := Lib.hid (twice_any v.ks xka v.ks.length xkc W0 HKS.out rfl hkl hkc)
  clear hx ha hW0 hop HT hks hrow hkc hk hb hbp hkl
  go_enter Try.func54, Try.ntmps54
  go_upto_region 1 with (fail)
  rw [HW0.out]
  go_wp2_with fail
  go_loop [25] (fun i => ∃ j : Nat, j ≤ v.ks.length ∧ i = .int .i64 j ∧ Hid (∀ m (h : m < j) (h1 : m < v.ks.length), bar v.ks[m] = false)) (fun i => v.ks.length - (intOf i).toNat)
  case atStart => exact ⟨0, Nat.zero_le _, rfl, Lib.hid fun m h => absurd h (Nat.not_lt_zero _)⟩
  case round =>
    obtain ⟨j, hj, rfl, hno⟩ := hrel
    by_cases hlt : j < v.ks.length
    · obtain ⟨g, o, rfl, hg, c6⟩ := HKS.out.at_ hlt
      have HY : Hid (bar v.ks[j] = true → v.ks.any bar = true) := fun e => List.any_eq_true.2 ⟨_, List.getElem_mem hlt, e⟩
      have HN : Hid (bar v.ks[j] = false → ∀ m (h : m < j + 1) (h1 : m < v.ks.length), bar v.ks[m] = false) := fun e m hm h1 => by
        by_cases hmj : m = j
        · subst hmj; exact e
        · exact hno.out m (by omega) h1
      have HBJ := Lib.hid fun w' => HB.out v.ks[j] w'
      generalize v.ks[j] = t at *
      cases hbt : bar t with
      | true =>
        rw [hbt] at HBJ
        have HYE := Lib.hid (HY.out hbt)
        clear HY HN hbt
        go_wp2_with fail
        refine (HBJ.out _).mono ?_
        rintro e w1 ⟨rfl, rfl⟩
        go_wp2_with fail
        go_ret
        exact ⟨by rw [HYE.out, Bool.or_true, Bool.true_or]; rfl, HA.out.bl⟩
      | false =>
        rw [hbt] at HBJ
        have HNE := Lib.hid (HN.out hbt)
        clear HY HN hbt
        go_wp2_with fail
        refine (HBJ.out _).mono ?_
        rintro e w1 ⟨rfl, rfl⟩
        go_wp2_with fail
        go_round
        case rel => exact ⟨j + 1, hlt, by go_num, HNE⟩
        case measure => simp [intOf]; omega
    · obtain rfl : j = v.ks.length := by omega
      have HNE : Hid (v.ks.any bar = false) := List.any_eq_false.2 fun t ht => by
        obtain ⟨m, hm, rfl⟩ := List.getElem_of_mem ht
        rw [hno.out m hm hm]
        simp
      cases h1 : bar v.nm with
      | true =>
        rw [h1] at HC
        have H1 := Lib.hid h1
        clear h1
        go_wp2_with fail
        refine (HC.out _).mono ?_
        rintro e w1 ⟨rfl, rfl⟩
        go_wp2_with fail
        go_ret
        exact ⟨by rw [H1.out, HNE.out]; rfl, HA.out.bl⟩
      | false =>
        rw [h1] at HC
        have H1 := Lib.hid h1
        clear h1
        go_wp2_with fail
        refine (HC.out _).mono ?_
        rintro e w1 ⟨rfl, rfl⟩
        go_wp2_with fail
        refine HT2.out.mono ?_
        rintro e w1 ⟨rfl, rfl⟩
        go_wp2_with fail
        go_ret
        exact ⟨by rw [H1.out, HNE.out]; rfl, HA.out.bl⟩
end Go.Proofs.Ytgehgccgologpaa.Z
