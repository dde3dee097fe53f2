/-
  Laid by wip/scope/lay.py out of wip/tree: Wo Wq.
  lists$1: the iterator over a tree's lists.
  lists, Deep, Size: loops over a tree's lists.
-/
import Derived.Test.YtgehgccgologpaaWn
import Derived.Test.YtgehgccgologpaaQ0
import Derived.Shelf.Abstract
import Derived.Shelf.RegionOpen
import Derived.WalkKit
import Derived.OwnWalkIn
import Derived.TacticsInMore
import Derived.LoopNIn
import Derived.LoopIn
import Derived.Sort.LoopGhostIn
import Derived.Maps.OwnIn
import Derived.Lib.MinMax
namespace Go.Proofs.Ytgehgccgologpaa.R
open Go.RowKit Go.Shelf Go.Proofs.Ytgehgccgologpaa Go.Proofs.Ytgehgccgologpaa.T
attribute [local go_sem] Oper.semAt_some
abbrev El := Pr × Pl
abbrev El.enc (x : El) : Array Value := #[.int .i64 x.1.d, .slice x.1.A x.1.n x.1.c]
/-- what a round is told of its item -/
def Gx (n0 B M : Nat) (x : El) (w : World) : Prop := n0 ≤ w.heap.size ∧ (∃ C, C ≤ w.heap.size ∧ PrIs w n0 B C x.1 x.2) ∧ 1 ≤ x.2.1 ∧ V.bulks x.2.2 ≤ M
theorem stk_new {w : World} {b B : Nat} (p : Pr) (hb : b ≤ w.heap.size) (hB : B < w.heap.size) : StkT (w.alloc (.cells #[.int .i64 p.d, .slice p.A p.n p.c] 73)) b B (.slice (some ⟨w.heap.size, 0, none⟩) 1 1) [p] := by
  refine ⟨⟨rfl, .inr ⟨w.heap.size, 1, _, rfl, hb, World.alloc_heap_new w _, Nat.le_refl _, by unfold maxLen; omega, rfl, rfl⟩⟩, ?_⟩
  intro k e
  cases e
  show w.heap.size ≠ B
  omega
theorem length_le_bulkP : ∀ st : List Pl, (∀ p ∈ st, ¬ p.2 = []) → st.length ≤ bulkP st
  | [], _ => Nat.zero_le _
  | p :: r, h => by
    have ih := length_le_bulkP r fun q hq => h q (List.mem_cons_of_mem _ hq)
    have h1 := length_le_bulks p.2
    have h2 : 1 ≤ p.2.length := List.length_pos_iff.2 (h p (List.mem_cons_self ..))
    have h3 : bulkP (p :: r) = V.bulks p.2 + bulkP r := by simp [bulkP]
    rw [List.length_cons, h3]
    omega
theorem StkT.open {w : World} {b B : Nat} {v : Value} {ps : List Pr} (h : StkT w b B v ps) : ∃ A c, v = .slice A ps.length c := by
  rcases h.1.2 with ⟨rfl, e⟩ | ⟨g, cap, cur, rfl, _⟩
  · exact ⟨none, 0, by rw [e]⟩
  · exact ⟨_, _, rfl⟩
theorem RowX.low {w w' : World} {n0 B C : Nat} {A : Option Addr} {l : List V} (h : RowX w n0 B C A l) (hb : Below C w w') (hn : n0 ≤ C) : RowX w' n0 B C A l := by
  rcases h with h | ⟨g, o, rfl, hB, hg, h⟩
  · exact .inl h
  · refine .inr ⟨g, o, rfl, hB, hg, fun i hi => ?_⟩
    obtain ⟨y, ha, hy⟩ := h i hi
    exact ⟨y, ha.below hg hb, hy.to (hb.mono hn) (Nat.le_refl _)⟩
theorem PrIs.low {w w' : World} {n0 B C : Nat} {p : Pr} {q : Pl} (h : PrIs w n0 B C p q) (hb : Below C w w') (hn : n0 ≤ C) : PrIs w' n0 B C p q := ⟨h.d, h.n, h.c, h.row.low hb hn⟩
theorem PrsIs.low {w w' : World} {n0 B C : Nat} (hb : Below C w w') (hn : n0 ≤ C) : ∀ {ps : List Pr} {qs : List Pl}, PrsIs w n0 B C ps qs → PrsIs w' n0 B C ps qs
  | [], [], _ => trivial
  | _ :: _, _ :: _, h => ⟨h.1.low hb hn, PrsIs.low hb hn h.2⟩
  | [], _ :: _, h => h.elim
  | _ :: _, [], h => h.elim
theorem infoPl : (Try.prog.info? 73).map (fun i => (i.zero, i.size, i.bytes)) = some (some (.agg #[.int .i64 0, .slice none 0 0]), 2, 32) := by kernel_rfl
/-- a place more -/
theorem stk_more {w : World} {b B : Nat} {v : Value} {ps : List Pr} {p : Pr} (h : w.ownsRow b 73 2 v (ps.length + 1) (ps.flatMap Pr.vals ++ [.int .i64 p.d, .slice p.A p.n p.c])) (hB : B < b) : StkT w b B v (ps ++ [p]) := by
  refine ⟨?_, fun k e => ?_⟩
  · rw [List.length_append, List.flatMap_append]
    exact h
  · have := (h.lt k e).1
    omega
/-- a place is appended to the stack of places -/
theorem app_pl {F : Fence} {n : Nat} {ops : Array Oper} {rest : List Oper} {o : Oper} {a : Act} {Q : Exit → Act → World → Prop} (w : World) (hgd : o.guard = none) (s x : Operand)
    (ho : o.op = .call { callee := .builtin .append, args := #[s, x], argTypes := #[74, 74] }) (b B : Nat) (v : Value) (ps : List Pr) (hs : a.eval s = v) (hown : StkT w b B v ps)
    (g : Nat) (p : Pr) (hx : a.eval x = .slice (some ⟨g, 0, none⟩) 1 1) (hc : ∀ (j : Nat) u, p.vals[j]? = some u → w.cell? ((⟨g, 0, none⟩ : Addr).add j) = some u) (hlen : ps.length ≤ 4194304) (hb : b ≤ w.heap.size) (hB : B < b)
    (K : ∀ v' w', StkT w' b B v' (ps ++ [p]) → w.grownBy w' v.ownBlock → (v'.ownBlock = v.ownBlock ∨ v'.ownBlock = some w.heap.size) → wpListIn F n Try.prog ops Q rest (a.put o.dst v') w') :
    wpListIn F n Try.prog ops Q (o :: rest) a w := by
  obtain ⟨i0, hi0, hz0, hz1, hz2⟩ := info_parts infoPl
  refine wpListIn_append_own_at w hgd s x 74 ho b 73 i0 _ 2 32 (by kernel_rfl) hi0 hz0 hz1 hz2 rfl (by decide) v ps.length (ps.flatMap Pr.vals) hs hown.1 ⟨g, 0, none⟩ 1 1 p.vals hx rfl hc ?_ (by unfold maxLen; omega) (by omega) hb ?_
  · intro u hu
    simp only [Pr.vals, List.mem_cons, List.not_mem_nil, or_false] at hu
    rcases hu with rfl | rfl <;> rfl
  · intro v' w' h1 h2 _ h4
    exact K v' w' (stk_more h1 hB) h2 h4
theorem pl_new (w : World) (a b : Value) (T : TypeId) : ∀ (j : Nat) u, [a, b][j]? = some u → (w.alloc (.cells #[a, b] T)).cell? ((⟨w.heap.size, 0, none⟩ : Addr).add j) = some u := by
  intro j u hj
  rw [add_lit]
  match j with
  | 0 => simpa using hj
  | 1 => simpa using hj
  | j + 2 => simp at hj
set_option maxRecDepth 8000 in
theorem lists_seq (F : Fence) (n : Nat) (h35 : F.fn 63) (hro : F.round = none) (hn : 1 ≤ n) (Bn n0 B : Nat) (v : V) (x : X) (w : World) (hnB : n0 ≤ B) (hn0 : B < w.heap.size) (hBw : Bn < w.heap.size)
    (hx : IsB w n0 v x) (hc : At w Bn 0 x) (hb : v.bulk ≤ 4194304) :
    SeqLow F n Try.prog 63 #[.pointer (some ⟨Bn, 0, none⟩)] El.enc (Kp n0 B) (Gx n0 B v.bulk) (fun xs => Reach (1, [v]) (xs.map (·.2)) []) (fun pre => ∃ st, Reach (1, [v]) (pre.map (·.2)) st) (v.bulk + 1) w := by
  intro l J Jx W hW hJ hJx hY h0
  obtain ⟨c0, c1, c2, c3, c4, c5⟩ := hc.below hBw hW
  obtain ⟨xk, xnm, xn, xs, xka, xkn, xkc, xla, xln, xlc⟩ := x
  dsimp only at c0 c1 c2 c3 c4 c5
  simp only [List.append_toArray, List.cons_append, List.nil_append]
  refine callsIn_of_wp Try.func63 rfl h35 ?_ hro
  simp only [Try.ntmps63, List.size_toArray, List.length_cons, List.length_nil, Nat.reduceAdd, Nat.reduceSub, Array.replicate_succ, Array.replicate_zero, List.push_toArray, List.append_toArray, List.nil_append, List.cons_append]
  gi_wp2_with fail
  obtain ⟨W2, hW2⟩ : ∃ W2, (W.alloc (.cells #[.int .i64 xk, .string xnm, .int .i64 xn, .string xs, .slice xka xkn xkc, .slice xla xln xlc] 25)).alloc (.cells #[.int .i64 1, .slice (some ⟨W.heap.size, 0, none⟩) 1 1] 73) = W2 := ⟨_, rfl⟩
  have hb2 : Below W.heap.size W W2 := by rw [← hW2]; exact (below_alloc W _).trans ((below_alloc _ _).mono (by simp))
  have hS : StkT W2 (W.heap.size + 1) B (.slice (some ⟨W.heap.size + 1, 0, none⟩) 1 1) [⟨1, some ⟨W.heap.size, 0, none⟩, 1, 1⟩] := by
    have := stk_new (w := W.alloc (.cells #[.int .i64 xk, .string xnm, .int .i64 xn, .string xs, .slice xka xkn xkc, .slice xla xln xlc] 25)) (b := W.heap.size + 1) (B := B) ⟨1, some ⟨W.heap.size, 0, none⟩, 1, 1⟩ (by simp) (by simp; have := hW.size; omega)
    rw [World.size_alloc, hW2] at this
    exact this
  have hP : PrsIs W2 n0 B (W.heap.size + 1) [⟨1, some ⟨W.heap.size, 0, none⟩, 1, 1⟩] [(1, [v])] := by
    refine ⟨⟨rfl, rfl, Nat.le_refl _, .inr ⟨W.heap.size, 0, rfl, ?_, ?_, ?_⟩⟩, trivial⟩
    · have := hW.size; omega
    · omega
    · intro i hi
      have hi0 : i = 0 := by simpa using hi
      subst hi0
      refine ⟨_, ?_, hx.to ((hW.mono (by omega)).trans (hb2.mono (by have := hW.size; omega))) (Nat.le_refl _)⟩
      rw [← hW2]
      constructor <;> simp
  have h02 := hJ _ _ _ h0 hb2
  have HW := Lib.hid hW
  have HB2 := Lib.hid hb2
  have HS := Lib.hid hS
  have HP := Lib.hid hP
  have HN : Hid (∀ k, W2.heap.size ≤ k → n0 ≤ k) := fun k hk => by have h1 := hW.size; have h2 := hb2.size; omega
  have HNX : Hid (n0 ≤ B ∧ n0 ≤ W.heap.size + 1 ∧ B < W.heap.size + 1) := ⟨hnB, by have := hW.size; omega, by have := hW.size; omega⟩
  have HNB : Hid (∀ wr : World, W2.heap.size ≤ wr.heap.size → wr.heap.size ≠ B) := fun k hk => by have h1 := hW.size; have h2 := hb2.size; omega
  have HKW : Hid (∀ (wr : World) (o : Obj), W2.heap.size ≤ wr.heap.size → Kp n0 B wr (wr.alloc o)) := fun wr o h => Kp.of_below (HN.out _ h) (below_alloc wr o)
  have HJW : Hid (∀ (wr : World) (o : Obj), W2.heap.size ≤ wr.heap.size → Below W.heap.size wr (wr.alloc o)) := fun wr o h => (below_alloc wr o).mono (Nat.le_trans hb2.size h)
  have HC1 : Hid (∀ k, W2.heap.size ≤ k → W.heap.size + 1 ≤ k) := fun k hk => by
    have h1 : W2.heap.size = W.heap.size + 2 := by rw [← hW2]; simp
    omega
  rw [hW2]
  clear hS hP hW2 hb2 hx hc c0 c1 c2 c3 c4 c5 hnB hn0 hBw hW
  gi_loopg [3] v.bulk (fun q p wr => ∃ (pre : List El) (st : List Pl) (ps : List Pr), StkT wr (W.heap.size + 1) B p ps ∧ Hid (PrsIs wr n0 B (W.heap.size + 1) ps st) ∧ Hid (Reach (1, [v]) (pre.map (·.2)) st) ∧ Hid (J pre wr) ∧ bulkP st ≤ q ∧ Hid (W2.heap.size ≤ wr.heap.size))
  case atStart =>
    exact ⟨[], [(1, [v])], _, HS.out, HP, Lib.hid .zero, Lib.hid h02, by simp [bulkP, V.bulks], Lib.hid (Nat.le_refl _)⟩
  case round =>
    obtain ⟨pre, st, ps, hstk, hps, hre, hjj, hq, hsz⟩ := hrel
    by_cases hst : st = []
    · subst hst
      have hp0 : ps.length = 0 := hps.out.len
      obtain ⟨A, c, rfl⟩ := hstk.open
      rw [hp0]
      gi_wp2_with fail
      go_end0
      exact ⟨⟨_, rfl⟩, .inl ⟨pre, hre.out, hjj.out⟩⟩
    · obtain ⟨ps', p, st', q1, rfl, rfl, hps', hpq⟩ := hps.out.last hst
      obtain ⟨g, cap, rfl, hcap, hg, hgB, d0, d1, hstk'⟩ := hstk.pop
      have hcl : (ps'.length : Int) + 1 ≤ (cap : Int) := by omega
      have hk := hre.out.kept
      have hll : (ps'.length : Int) + 1 ≤ 4194304 := by
        have h1 := length_le_bulkP _ fun p hp => (hk.ok p hp).2
        have h2 := hk.bulk
        have h3 := hps'.len
        rw [List.length_append, List.length_singleton] at h1
        omega
      have HST := Lib.hid hstk'
      have HPQ := Lib.hid hpq
      have hgw : g < wr.heap.size := by
        obtain ⟨o, ho, _⟩ := cells_of_cell d0
        exact (Array.getElem?_eq_some_iff.1 ho).1
      have HGW := Lib.hid hgw
      clear hgw
      have HPS := Lib.hid hps'
      have hkw : Kp n0 B wr (wr.alloc (.cells #[.int .i64 p.d, .slice p.A p.n p.c] 73)) := HKW.out wr _ hsz.out
      have HKD := Lib.hid hkw
      have hgx : Gx n0 B v.bulk (p, q1) (wr.alloc (.cells #[.int .i64 p.d, .slice p.A p.n p.c] 73)) := by
        refine ⟨HN.out _ (Nat.le_trans hsz.out hkw.below.size), ⟨_, HC1.out _ (Nat.le_trans hsz.out hkw.below.size), hpq.to hkw⟩, (hk.ok q1 (by simp)).1, ?_⟩
        have h1 := hk.bulk
        rw [bulkP_append, bulkP_one] at h1
        show V.bulks q1.2 ≤ v.bulk
        omega
      have hjw := hJ _ _ _ hjj.out (HJW.out wr (.cells #[.int .i64 p.d, .slice p.A p.n p.c] 73) hsz.out)
      have hpl : pre.length < v.bulk + 1 := by
        have h1 := hk.bulk
        rw [List.length_map] at h1
        omega
      obtain ⟨fn, tmps, assign, body, hy, hR⟩ := hY pre (p, q1) _ hjw hgx hpl
      dsimp only [El.enc] at hy
      have HGX := Lib.hid hgx
      clear hgx hjw hpl hkw hk hstk' hps' hpq hps hstk
      gi_wp2_with fail
      refine hR.mono ?_
      rintro e W4 (⟨rfl, hJ4, hk4⟩ | ⟨rfl, hJx4⟩)
      · have hk5 := HKD.out.trans hk4
        have e0 : W4.cell? ⟨wr.heap.size, 0, none⟩ = some (.int .i64 p.d) := hk4.cell (p := ⟨wr.heap.size, 0, none⟩) (HNB.out wr hsz.out) (by simp)
        have e1 : W4.cell? ⟨wr.heap.size, 0 + 1, none⟩ = some (.slice p.A p.n p.c) := hk4.cell (p := ⟨wr.heap.size, 0 + 1, none⟩) (HNB.out wr hsz.out) (by simp)
        have HK5 := Lib.hid hk5
        have HG := Lib.hid (show Below n0 wr W4 from hk5.below)
        obtain ⟨hG1, ⟨C, hC, hpi⟩, hG3, hG4⟩ := HGX.out
        have HPI := Lib.hid (HPQ.out.to hk5)
        have HWW : Hid (wr.heap.size < W4.heap.size) := by
          have := hk4.below.size
          rw [World.size_alloc] at this
          exact this
        have HPS5 := Lib.hid (HPS.out.to hk5)
        have HS5 := Lib.hid (HST.out.kept hk5)
        have HJ4 := Lib.hid hJ4
        have hpn : p.n = q1.2.length := hpi.n
        have hpm : q1.2.length ≤ 4194304 := by have := length_le_bulks q1.2; simp only at hG4; omega
        clear hpi hk4 hk5 hJ4 HGX HPS HST HKD hR hy hJx hG1 hG4 hC
        have hsz4 := Lib.hid (Nat.le_trans hsz.out HG.out.size)
        clear HG
        generalize wr.heap.size = bx at *
        gi_wp2_with fail
        gi_loopw [3, 35] (fun t i w2 => ∃ (j : Nat) (ps2 : List Pr), j ≤ q1.2.length ∧ i = .int .i64 j ∧ StkT w2 (W.heap.size + 1) B t ps2 ∧ Hid (PrsIs w2 n0 B (W.heap.size + 1) ps2 (st' ++ below q1.1 (q1.2.take j))) ∧ Hid (J (pre ++ [(p, q1)]) w2) ∧ Hid (Fr (fun k => k < W4.heap.size ∧ k ≠ g) W4 w2) ∧ Hid (Below n0 W4 w2) ∧ Hid (∀ k, t.ownBlock = some k → k = g ∨ W4.heap.size ≤ k))
          (fun _ i _ => q1.2.length - (intOf i).toNat)
        case atStart =>
          exact ⟨0, ps', Nat.zero_le _, rfl, HS5.out, Lib.hid (by simpa [below] using HPS5.out), HJ4, Lib.hid (Fr.refl _ _), Lib.hid (Below.refl _ _), Lib.hid fun k e => .inl (by cases e; rfl)⟩
        case round =>
          obtain ⟨j, ps2, hj, rfl, hs2, hps2, hj2, hf2, hb2, ht2⟩ := hrel
          by_cases hlt : j < q1.2.length
          · rcases HPI.out.row with h | ⟨g2, o2, hA, hgB, hgC, hrow⟩
            · rw [h] at hlt
              exact absurd hlt (by simp)
            obtain ⟨y, ha, hy⟩ := hrow j hlt
            have h1 := HC1.out _ hsz.out
            have hgg := hg
            have hF2 : g2 < W4.heap.size ∧ g2 ≠ g := ⟨by have := HWW.out; omega, by omega⟩
            have ha2 : At wr g2 (o2 + j * 6) y := ⟨(hf2.out.cell (p := ⟨g2, o2 + j * 6, none⟩) hF2).trans ha.c0, (hf2.out.cell (p := ⟨g2, o2 + j * 6 + 1, none⟩) hF2).trans ha.c1, (hf2.out.cell (p := ⟨g2, o2 + j * 6 + 2, none⟩) hF2).trans ha.c2, (hf2.out.cell (p := ⟨g2, o2 + j * 6 + 3, none⟩) hF2).trans ha.c3, (hf2.out.cell (p := ⟨g2, o2 + j * 6 + 4, none⟩) hF2).trans ha.c4, (hf2.out.cell (p := ⟨g2, o2 + j * 6 + 5, none⟩) hF2).trans ha.c5⟩
            have e2 : wr.cell? ⟨bx, 0, none⟩ = some (.int .i64 p.d) := (hf2.out.cell (p := ⟨bx, 0, none⟩) ⟨HWW.out, show bx ≠ g by have := HGW.out; omega⟩).trans e0
            obtain ⟨yka, ykc, yla, ylc, rfl, hy1, hy2, hy3, hy4⟩ := hy.open
            obtain ⟨c0, c1, c2, c3, c4, c5⟩ := ha2
            dsimp only at c0 c1 c2 c3 c4 c5
            rw [hA]
            by_cases hul : q1.2[j].l = []
            · have hbn := below_no q1.1 q1.2 j hlt hul
              rw [hul] at c5
              rw [List.length_nil] at c5
              have hw2 := Nat.le_trans hsz4.out hf2.out.size
              have hkw := HKW.out wr (.cells #[.int .i64 q1.2[j].k, .string q1.2[j].nm, .int .i64 q1.2[j].n, .string q1.2[j].s, .slice yka q1.2[j].ks.length ykc, .slice yla 0 ylc] 25) hw2
              have HA2 := Lib.hid (hs2.kept hkw)
              have HA3 := Lib.hid (hps2.out.to hkw)
              have HA4 := Lib.hid (hJ _ _ _ hj2.out (HJW.out wr (.cells #[.int .i64 q1.2[j].k, .string q1.2[j].nm, .int .i64 q1.2[j].n, .string q1.2[j].s, .slice yka q1.2[j].ks.length ykc, .slice yla 0 ylc] 25) hw2))
              have HA5 := Lib.hid (hf2.out.alloc (fun k hk => hk.1) (.cells #[.int .i64 q1.2[j].k, .string q1.2[j].nm, .int .i64 q1.2[j].n, .string q1.2[j].s, .slice yka q1.2[j].ks.length ykc, .slice yla 0 ylc] 25))
              rw [← hbn] at HA3
              have HA6 := Lib.hid (hb2.out.trans hkw.below)
              have hjl : j + 1 ≤ q1.2.length := hlt
              clear hkw hs2 hps2 hj2 hf2 hbn
              gi_wp2_with fail
              go_roundw
              case rel => exact ⟨j + 1, ps2, hjl, by go_num, HA2.out, HA3, HA4, HA5, HA6, ht2⟩
              case measure => simp [intOf]; omega
            · have hby := below_yes q1.1 q1.2 j hlt hul
              have hk0 := hre.out.kept
              have hlp : ps2.length ≤ 4194304 := by
                have h1 := length_le_bulkP (st' ++ below q1.1 (q1.2.take j)) (fun p hp => by
                  rcases List.mem_append.1 hp with hp | hp
                  · exact (hk0.ok p (List.mem_append_left _ hp)).2
                  · exact (below_ok _ _ p hp).2)
                have h2 := hk0.bulk
                have h3 := hps2.out.len
                have h4 := bulk_below q1.1 (q1.2.take j)
                have h5 := bulks_take_le q1.2 j
                rw [bulkP_append, bulkP_one] at h2
                rw [bulkP_append] at h1
                omega
              have hdb : q1.1 ≤ 4194304 := by
                have h1 := hk0.deep
                rw [deepP_append] at h1
                simp only [deepP] at h1
                have h2 := deep_le_size v
                have h3 := size_le_bulk v
                have h4 := deeps_pos (hk0.ok q1 (by simp)).2
                have h5 := (hk0.ok q1 (by simp)).1
                omega
              have hpd : p.d = (q1.1 : Int) := HPI.out.d
              have hd0 : (0 : Int) ≤ p.d := by omega
              have hd1 : p.d ≤ 4194304 := by omega
              have hln : (0 : Int) < (q1.2[j].l.length : Int) := by have := List.length_pos_iff.2 hul; omega
              have hjl : j + 1 ≤ q1.2.length := hlt
              have hw2 := Nat.le_trans hsz4.out hf2.out.size
              obtain ⟨ta, tc, rfl⟩ := hs2.open
              have hk1 := HKW.out wr (.cells #[.int .i64 q1.2[j].k, .string q1.2[j].nm, .int .i64 q1.2[j].n, .string q1.2[j].s, .slice yka q1.2[j].ks.length ykc, .slice yla q1.2[j].l.length ylc] 25) hw2
              have hk2 := HKW.out _ (.cells #[.int .i64 (p.d + 1), .slice yla q1.2[j].l.length ylc] 73) (Nat.le_trans hw2 hk1.below.size)
              have HS6 := Lib.hid (hs2.kept (hk1.trans hk2))
              have HP6 := Lib.hid (hps2.out.to (hk1.trans hk2))
              have HJ6 := Lib.hid (hJ _ _ _ (hJ _ _ _ hj2.out (HJW.out wr (.cells #[.int .i64 q1.2[j].k, .string q1.2[j].nm, .int .i64 q1.2[j].n, .string q1.2[j].s, .slice yka q1.2[j].ks.length ykc, .slice yla q1.2[j].l.length ylc] 25) hw2)) (HJW.out _ (.cells #[.int .i64 (p.d + 1), .slice yla q1.2[j].l.length ylc] 73) (Nat.le_trans hw2 hk1.below.size)))
              have HF6 := Lib.hid ((hf2.out.alloc (fun k hk => hk.1) (.cells #[.int .i64 q1.2[j].k, .string q1.2[j].nm, .int .i64 q1.2[j].n, .string q1.2[j].s, .slice yka q1.2[j].ks.length ykc, .slice yla q1.2[j].l.length ylc] 25)).alloc (fun k hk => hk.1) (.cells #[.int .i64 (p.d + 1), .slice yla q1.2[j].l.length ylc] 73))
              have HB6 := Lib.hid (hb2.out.trans (hk1.trans hk2).below)
              have HY4 := Lib.hid hy4
              have HW6 : Hid (W2.heap.size ≤ ((wr.alloc (.cells #[.int .i64 q1.2[j].k, .string q1.2[j].nm, .int .i64 q1.2[j].n, .string q1.2[j].s, .slice yka q1.2[j].ks.length ykc, .slice yla q1.2[j].l.length ylc] 25)).alloc (.cells #[.int .i64 (p.d + 1), .slice yla q1.2[j].l.length ylc] 73)).heap.size) := Nat.le_trans hw2 (hk1.trans hk2).below.size
              have HWF := Lib.hid hf2.out.size
              have HBY := Lib.hid hby
              have HYL := Lib.hid hy3
              have h1l : (ps2.length : Int) ≤ 4194304 := by omega
              obtain ⟨i0, hi0, hz0, hz1, hz2⟩ := info_parts infoPl
              clear hk1 hk2 hs2 hps2 hj2 hf2 hb2 hby hk0 hy4 hw2 hdb
              have hbx : bx < wr.heap.size := Nat.lt_of_lt_of_le HWW.out HWF.out
              have e3 : (wr.alloc (.cells #[.int .i64 q1.2[j].k, .string q1.2[j].nm, .int .i64 q1.2[j].n, .string q1.2[j].s, .slice yka q1.2[j].ks.length ykc, .slice yla q1.2[j].l.length ylc] 25)).cell? ⟨bx, 0, none⟩ = some (.int .i64 p.d) := ((below_alloc wr _).cell (p := ⟨bx, 0, none⟩) hbx).trans e2
              have HLP := Lib.hid hlp
              have HYC := Lib.hid hy2
              have HCE : Hid (∀ (k : Nat) u, (Pr.vals ⟨p.d + 1, yla, q1.2[j].l.length, ylc⟩)[k]? = some u → ((wr.alloc (.cells #[.int .i64 q1.2[j].k, .string q1.2[j].nm, .int .i64 q1.2[j].n, .string q1.2[j].s, .slice yka q1.2[j].ks.length ykc, .slice yla q1.2[j].l.length ylc] 25)).alloc (.cells #[.int .i64 (p.d + 1), .slice yla q1.2[j].l.length ylc] 73)).cell? ((⟨wr.heap.size + 1, 0, none⟩ : Addr).add k) = some u) := by
                have := pl_new (wr.alloc (.cells #[.int .i64 q1.2[j].k, .string q1.2[j].nm, .int .i64 q1.2[j].n, .string q1.2[j].s, .slice yka q1.2[j].ks.length ykc, .slice yla q1.2[j].l.length ylc] 25)) (.int .i64 (p.d + 1)) (.slice yla q1.2[j].l.length ylc) 73
                rw [World.size_alloc] at this
                exact this
              have HPD := Lib.hid hpd
              have HBW := Lib.hid (HC1.out _ HW6.out)
              have HBL := Lib.hid HNX.out.2.2
              clear hul hlp hll hcl hcap hF2 hrow ha hy hre hq hst hpd hj hbx hy2
              gi_wp2_with (gi_at_builtin; refine app_pl _ rfl _ _ rfl _ _ (.slice ta ps2.length tc) _ rfl HS6.out (wr.heap.size + 1) ⟨p.d + 1, yla, q1.2[j].l.length, ylc⟩ rfl HCE.out HLP.out HBW.out HBL.out ?_; intro v1 w1 hst1 hgr1 hat1)
              clear c0 c1 c2 c3 c4 c5 e0 e1 e2 e3 d0 d1
              have hrowk : ∀ k, (Value.slice ta ps2.length tc).ownBlock = some k → W.heap.size + 1 ≤ k := fun k hk => by
                rcases ht2.out k hk with h | h
                · omega
                · exact HC1.out _ (Nat.le_trans hsz4.out h)
              generalize (wr.alloc (.cells #[.int .i64 q1.2[j].k, .string q1.2[j].nm, .int .i64 q1.2[j].n, .string q1.2[j].s, .slice yka q1.2[j].ks.length ykc, .slice yla q1.2[j].l.length ylc] 25)).alloc (.cells #[.int .i64 (p.d + 1), .slice yla q1.2[j].l.length ylc] 73) = w6 at *
              have hb1 : Below (W.heap.size + 1) w6 w1 := (Below.refl _ w6).grown hgr1 HBW.out hrowk
              have hnn := HNX.out
              have hw4 : W4.heap.size ≤ w6.heap.size := HF6.out.size
              refine ⟨⟨j + 1, ps2 ++ [⟨p.d + 1, yla, q1.2[j].l.length, ylc⟩], hjl, by go_num, hst1, Lib.hid ?_, Lib.hid (hJ _ _ _ HJ6.out (hb1.mono (by omega))), Lib.hid (HF6.out.grown (fun k hk => hk.1) hgr1 fun k hk hf => ?_), Lib.hid (HB6.out.trans (hb1.mono (by omega))), Lib.hid fun k hk => ?_⟩, by simp [intOf]; omega⟩
              · rw [HBY.out, ← List.append_assoc]
                refine PrsIs.app (HP6.out.low hb1 (by omega)) ⟨?_, rfl, HYC.out, ?_⟩
                · show p.d + 1 = ((q1.1 + 1 : Nat) : Int)
                  rw [HPD.out]
                  omega
                · exact (RowB.x (HY4.out.to (HB6.out.trans (hb1.mono (by omega))) (Nat.le_refl _)) hnn.1 hnn.2.1)
              · rcases ht2.out k hk with h | h
                · exact hf.2 h
                · exact absurd hf.1 (Nat.not_lt.2 h)
              · rcases hat1 with h | h
                · rw [h] at hk
                  exact ht2.out k hk
                · rw [h] at hk
                  cases hk
                  exact .inr hw4
          · obtain rfl : j = q1.2.length := by omega
            have hps3 := hps2.out
            rw [List.take_length] at hps3
            have HPS3 := Lib.hid hps3
            have hqq : bulkP (st' ++ below q1.1 q1.2) < gk := by
              have h1 := bulk_below q1.1 q1.2
              have h2 := hre.out.kept.ok q1 (by simp)
              have h3 : 1 ≤ q1.2.length := List.length_pos_iff.2 h2.2
              rw [bulkP_append, bulkP_one] at hq
              rw [bulkP_append]
              omega
            have hre2 : Hid (Reach (1, [v]) ((pre ++ [(p, q1)]).map (·.2)) (st' ++ below q1.1 q1.2)) := by
              show Reach _ _ _
              rw [List.map_append]
              exact hre.out.step
            have hsz2 := Lib.hid (Nat.le_trans hsz4.out hf2.out.size)
            clear hps3 hps2
            gi_wp2_with fail
            gi_roundg (bulkP (st' ++ below q1.1 q1.2))
            case measure => exact hqq
            case rel => exact ⟨pre ++ [(p, q1)], _, ps2, hs2, HPS3, hre2, hj2, Nat.le_refl _, hsz2⟩
      · gi_wp2_with fail
        refine bodyPost_ret (results_none rfl _ _ _) rfl ?_
        exact ⟨⟨_, rfl⟩, .inr ⟨pre ++ [(p, q1)], ⟨_, by rw [List.map_append]; exact hre.out.step⟩, hJx4⟩⟩
end Go.Proofs.Ytgehgccgologpaa.R
namespace Go.Proofs.Ytgehgccgologpaa.R
open Go.RowKit Go.Shelf Go.Proofs.Ytgehgccgologpaa Go.Proofs.Ytgehgccgologpaa.T
attribute [local go_sem] Oper.semAt_some
theorem lists_any (x : X) (w : World) :
    Calls Try.prog 37 #[x.v] w fun e w' => e = .returned (.func (.func 63) #[] #[.pointer (some ⟨w.heap.size, 0, none⟩)]) ∧ w' = w.alloc (.cells x.cells 25) := by
  obtain ⟨xk, xnm, xn, xs, xka, xkn, xkc, xla, xln, xlc⟩ := x
  simp only [X.v, X.cells]
  go_enter Try.func37, Try.ntmps37
  go_wp2_with fail
  go_ret
  exact ⟨rfl, rfl⟩
theorem Gx.kept {n0 B M : Nat} (x : El) (A C : World) (h : Gx n0 B M x A) (hk : Kp n0 B A C) : Gx n0 B M x C := by
  obtain ⟨h1, ⟨c, hc, h2⟩, h3, h4⟩ := h
  exact ⟨Nat.le_trans h1 hk.below.size, ⟨c, Nat.le_trans hc hk.below.size, h2.to hk⟩, h3, h4⟩
/-- a cell of a number, and what lay ahead -/
structure Num (w W : World) (B : Nat) (m : Int) : Prop where
  c : W.cell? ⟨B, 0, none⟩ = some (.int .i64 m)
  f : W.frozen? ⟨B, 0, none⟩ = false
  b : Below w.heap.size w W
theorem Num.low {w A C : World} {n B : Nat} {m : Int} (h : Num w A B m) (hb : Below n A C) (hB : B < n) (hw : w.heap.size ≤ n) : Num w C B m :=
  ⟨(hb.cell (p := ⟨B, 0, none⟩) hB).trans h.c, (hb.frozen (p := ⟨B, 0, none⟩) hB).trans h.f, h.b.trans (hb.mono hw)⟩
theorem Num.set {w W : World} {B : Nat} {m : Int} (h : Num w W B m) (hB : w.heap.size ≤ B) (k : Int) : Num w (W.setCell ⟨B, 0, none⟩ (.int .i64 k)) B k :=
  ⟨World.cell?_setCell_same _ _ _ h.c, by simp [h.f], h.b.setCell (p := ⟨B, 0, none⟩) hB _⟩
/-- three new blocks: a node, a number, a node -/
theorem three_num (w : World) (x : X) (T : TypeId) : ∃ W0, ((w.alloc (.cells x.cells 25)).alloc (.cells #[.int .i64 0] T)).alloc (.cells x.cells 25) = W0 ∧ W0.heap.size = w.heap.size + 3 ∧ Num w W0 (w.heap.size + 1) 0 ∧ At W0 (w.heap.size + 2) 0 x ∧ At W0 w.heap.size 0 x := by
  obtain ⟨W0, hW0⟩ : ∃ W0, ((w.alloc (.cells x.cells 25)).alloc (.cells #[.int .i64 0] T)).alloc (.cells x.cells 25) = W0 := ⟨_, rfl⟩
  have h1 : W0.heap[w.heap.size + 1]? = some (.cells #[.int .i64 0] T) := by
    rw [← hW0]
    show (((w.heap.push _).push _).push _)[w.heap.size + 1]? = _
    rw [Array.getElem?_push, if_neg (by simp), Array.getElem?_push, if_pos (by simp)]
  have h2 : W0.heap[w.heap.size + 2]? = some (.cells x.cells 25) := by
    rw [← hW0]
    show (((w.heap.push _).push _).push _)[w.heap.size + 2]? = _
    rw [Array.getElem?_push, if_pos (by simp)]
  have h0 : W0.heap[w.heap.size]? = some (.cells x.cells 25) := by
    rw [← hW0]
    show (((w.heap.push _).push _).push _)[w.heap.size]? = _
    rw [Array.getElem?_push, if_neg (by simp; omega), Array.getElem?_push, if_neg (by simp), Array.getElem?_push, if_pos rfl]
  refine ⟨W0, hW0, by rw [← hW0]; simp, ⟨by simp [World.cell?, h1], by simp [World.frozen?, h1], by rw [← hW0]; exact ((below_alloc w _).alloc (by simp) _).alloc (by simp; omega) _⟩, ?_, ?_⟩
  · constructor <;> simp [World.cell?, h2, X.cells]
  · constructor <;> simp [World.cell?, h0, X.cells]
set_option maxRecDepth 8000 in
theorem deep_any (v : V) (x : X) (w : World) (hx : Is w v x) (hb : v.bulk ≤ 4194304) :
    Calls Try.prog 40 #[x.v] w fun e w' => e = .returned (.int .i64 v.deep) ∧ Below w.heap.size w w' := by
  have HL := Lib.hid (lists_any x)
  have HI := Lib.hid hx
  have HT := Lib.hid (three_num w x 3)
  obtain ⟨xk, xnm, xn, xs, xka, xkn, xkc, xla, xln, xlc⟩ := x
  simp only [X.v, X.cells] at HL HT
  clear hx
  refine (callsIn_wide (n := 9)).1 ?_
  refine callsIn_of_wp_marks Try.func40 rfl trivial ?_ rfl
  simp only [X.v, Try.ntmps40, List.size_toArray, List.length_cons, List.length_nil, Nat.reduceAdd, Nat.reduceSub, Array.replicate_succ, Array.replicate_zero, List.push_toArray, List.append_toArray, List.nil_append, List.cons_append]
  gi_wp2_with fail
  refine ⟨trivial, (callsIn_wide.2 (HL.out _)).mono ?_⟩
  rintro e w1 ⟨rfl, rfl⟩
  gi_wp2_with fail
  obtain ⟨W0, hW0, hz, hnum, hat, -⟩ := HT.out
  rw [hW0]
  have hb0 := hnum.b
  refine range_low rfl (by omega) (gf := 63) (lb := #[.pointer (some ⟨w.heap.size + 2, 0, none⟩)]) rfl trivial (enters_of Try.func63 (by kernel_rfl) rfl)
    (lists_seq Fence.wide 8 trivial rfl (by omega) (w.heap.size + 2) w.heap.size (w.heap.size + 1) v _ W0 (by omega) (by omega) (by omega) (IsB.to hb0 (Nat.le_refl _) _ _ HI.out) hat hb)
    (fun x A C h k => h.kept x A C k) (fun h k => h.trans k) (fun W l o o' hl h hc hw => Kp.turn (by omega) W l o o' hl h hc hw) (Below.refl _ _) (fun _ => rfl)
    (fun (pre : List El) W => Num w W (w.heap.size + 1) (maxP (pre.map (·.2)) : Nat))
    (fun _ _ _ => False)
    (fun _ _ _ h k => Num.low h k (by omega) (by omega)) (fun _ _ _ _ h _ => h) hnum
    (fun x => { tmps := #[.agg #[.int .i64 xk, .string xnm, .int .i64 xn, .string xs, .slice xka xkn xkc, .slice xla xln xlc], .pointer (some ⟨w.heap.size, 0, none⟩), .int .i64 0, .pointer (some ⟨w.heap.size + 1, 0, none⟩), .int .i64 x.1.d,
      .agg #[.int .i64 xk, .string xnm, .int .i64 xn, .string xs, .slice xka xkn xkc, .slice xla xln xlc], .func (.func 63) #[] #[.pointer (some ⟨w.heap.size + 1 + 1, 0, none⟩)], .int .i64 x.1.d, .slice x.1.A x.1.n x.1.c, undef, undef, undef, undef], defers := [] }) ?assign ?body ?done ?stop
  case assign =>
    intro l x W C hC
    gi_wp2
    exact hC
  case body =>
    rintro l pre x W ⟨hc, hf, hB⟩ ⟨hg1, ⟨c, hc2, hp⟩, hg3, hg4⟩ hlt
    have HB := Lib.hid hB
    have hpd := hp.d
    clear hp hg4 hc2 hB hz hat hnum HI
    gi_wp2
    refine ⟨(KeepsOthers.setCell _ _ _).from _, Kp.set (by omega) _, ?_⟩
    have h := Num.set (w := w) (W := W) (B := w.heap.size + 1) ⟨hc, hf, HB.out⟩ (by omega) (max ((maxP (pre.map (·.2)) : Nat) : Int) (x.2.1 : Int))
    show Num w _ (w.heap.size + 1) ((maxP ((pre ++ [x]).map (·.2)) : Nat) : Int)
    rw [List.map_append, List.map_singleton, maxP_snoc]
    have e : ((max (maxP (pre.map (·.2))) x.2.1 : Nat) : Int) = max ((maxP (pre.map (·.2)) : Nat) : Int) (x.2.1 : Int) := by omega
    rw [e]
    exact h
  case done =>
    rintro D xs W hD hS ⟨hc, hf, hB⟩ hK
    have hk := hS.kept
    have hdv : (maxP (xs.map (·.2)) : Nat) = v.deep := by
      have := hk.deep
      simp only [deepP] at this
      omega
    rw [hdv] at hc
    have HB := Lib.hid hB
    have hwd : w.heap.size ≤ D := by omega
    clear hk hdv hS hB hz hat hnum HI
    gi_wp2
    refine ⟨by simp, .inl ⟨_, _, rfl, run_takeDeferred hK, ?_⟩⟩
    refine ⟨.int .i64 v.deep, by simp [results, Try.f40, go_sem], rfl, HB.out.trans (below_put W D _ _ hwd hK)⟩
  case stop =>
    rintro D c pre W _ _ h _
    exact h.elim
end Go.Proofs.Ytgehgccgologpaa.R
