/-
  Size, by contract.
-/
import Derived.Test.YtnjcofjphneccaaDoorWalk
import Derived.Deep.LoopGhost
namespace Go.Proofs.YtnjcofjphneccaaDoor
open Go.RowKit

theorem snoc_of {α : Type} (l : List α) (h : l ≠ []) : ∃ r x, l = r ++ [x] := ⟨l.dropLast, l.getLast h, (List.dropLast_concat_getLast h).symm⟩
theorem sumL_one (f : List V → Nat) (st : List Pl) (p : Pl) : sumL f (st ++ [p]) = sumL f st + f p.l := by
  rw [sumL_append]
  simp [sumL]

/-- the first stack: the value itself -/
def first (g : Nat) (v : V) : Pl := ⟨some ⟨g, 0, none⟩, 1, [v], 1⟩
theorem first_stk {w : World} {g : Nat} {v : V} (hg : g + 1 < w.heap.size) (hown : w.ownsRow 0 44 2 (.slice (some ⟨g + 1, 0, none⟩) 1 1) 1 [.slice (some ⟨g, 0, none⟩) 1 1, .int .i64 1]) :
    Stk (w.alloc (.cells #[.slice (some ⟨g + 1, 0, none⟩) 1 1] 41)) (fun k => k < g + 1) w.heap.size ([first g v].map Pl.pr) := by
  refine ⟨_, by simp, by simp, by simp, by omega, hown.alloc _, fun k hk => ?_⟩
  have : g + 1 = k := by simpa [Value.ownBlock] using hk
  omega
theorem RowsTo {w w' : World} {B : Nat} {st : List Pl} (h : Rows w B st) (hb : Below B w w') : Rows w' B st := fun p hp => ⟨(h p hp).1.to hb (Nat.le_refl _), (h p hp).2⟩
theorem first_row {w w1 : World} {g : Nat} {v : V} {x : X} (h : Is w v x) (hb : Below w.heap.size w w1) (hg : w.heap.size ≤ g) (hh : w1.heap[g]? = some (.cells x.cells 25 (0, 0))) : Rows w1 (g + 1) [first g v] := by
  intro p hp
  simp at hp
  subst hp
  refine ⟨.inr ⟨g, 0, rfl, by omega, ?_⟩, by simp [first]⟩
  show IsAllB w1 (g + 1) g 0 [v]
  rw [IsAllB]
  exact ⟨⟨x, at_of_block hh, IsB.to hb (by omega) _ _ h⟩, by simp [IsAllB]⟩

set_option maxRecDepth 8000 in
set_option maxHeartbeats 1000000 in
theorem size_any (v : V) (x : X) (w : World) (h : Is w v x) (hbk : v.bulk ≤ 4194304) :
    Calls Tryd.prog 17 #[x.v] w fun e w' => e = .returned (.int .i64 (v.size : Nat)) ∧ Below w.heap.size w w' := by
  have HW := Lib.hid fun w' => walkOf_any x w'
  have HX := Lib.hid h
  have hsz : v.size ≤ 4194304 := Nat.le_trans (size_le_bulk v) hbk
  obtain ⟨k, n, s, ka, kn, kc, la, ln, lc⟩ := x
  simp only [X.v] at *
  clear h
  go_enter Tryd.func17, Tryd.ntmps17
  go_wp2_with fail
  refine (HW.out _).mono ?_
  rintro e w1 ⟨g, rfl, hg0, hg1, hh, hown, hb1⟩
  have hg0' : w.heap.size ≤ g := by simp at hg0; omega
  have hX1 := Lib.hid (Is.below ((below_alloc w (.cells #[.int .i64 k, .int .i64 n, .string s, .slice ka kn kc, .slice la ln lc] 25)).trans (hb1.mono (by simp))) _ _ HX.out)
  have HB1 := Lib.hid ((below_alloc w (.cells #[.int .i64 k, .int .i64 n, .string s, .slice ka kn kc, .slice la ln lc] 25)).trans (hb1.mono (by simp)))
  have HR := Lib.hid (first_row HX.out HB1.out hg0' hh)
  have HS := Lib.hid (first_stk (v := v) hg1 hown)
  clear hown hh hb1 HW
  go_wp2_with fail
  have hgw : g + 1 < (w1.alloc (.cells #[.slice (some ⟨g + 1, 0, none⟩) 1 1] 41)).heap.size := by simp; omega
  have HB2 := Lib.hid (HB1.out.trans ((below_alloc w1 (.cells #[.slice (some ⟨g + 1, 0, none⟩) 1 1] 41)).mono HB1.out.size))
  have HR2 := Lib.hid (RowsTo HR.out ((below_alloc w1 (.cells #[.slice (some ⟨g + 1, 0, none⟩) 1 1] 41)).mono (by omega)))
  generalize w1.heap.size = b1 at *
  generalize w1.alloc (.cells #[.slice (some ⟨g + 1, 0, none⟩) 1 1] 41) = w2 at *
  clear HR hX1 HB1
  have hF : ∀ k, k < g + 1 → k < w2.heap.size := fun k hk => by omega
  have HF := Lib.hid hF
  clear hF
  go_loopg [3, 4] v.bulk (fun q t p wr => ∃ (m b : Nat) (st : List Pl), t = .int .i64 m ∧ p = .pointer (some ⟨b, 0, none⟩) ∧ Stk wr (fun k => k < g + 1) b (st.map Pl.pr) ∧ Fr (fun k => k < g + 1) w2 wr ∧ Hid (Rows w2 (g + 1) st) ∧
    Hid (m + sumL V.sizes st = v.size) ∧ sumL V.bulks st ≤ q ∧ q ≤ 4194304 ∧ Hid (∀ p ∈ st, p.d + q ≤ 4194305))
  case atStart =>
    refine ⟨0, b1, [first g v], rfl, rfl, HS.out, Fr.refl _ _, HR2.out, ?_, ?_, hbk, ?_⟩
    · show 0 + sumL V.sizes [first g v] = v.size
      simp [sumL, first, V.sizes]
    · simp [sumL, first, V.bulks]
    · intro p hp
      simp at hp
      subst hp
      show 1 + v.bulk ≤ _
      omega
  case round =>
    obtain ⟨m, b, st, rfl, rfl, hstk, hfr, hrows, hsum, hload, hq, hdep⟩ := hrel
    by_cases h0 : st = []
    · subst h0
      obtain ⟨A, c, hc⟩ := hstk.open
      have HM : Hid (v.size = m) := hsum.out.symm
      clear hstk hsum
      go_wp2_with fail
      go_ret
      refine ⟨by rw [HM.out]; rfl, ?_⟩
      exact HB2.out.trans ((hfr.mono fun k (hk : k < w.heap.size) => by omega).below)
    · obtain ⟨st', p, rfl⟩ := snoc_of st h0
      obtain ⟨A, c, hc⟩ := hstk.open
      rw [List.map_append] at hstk hc
      have hlen : ((st'.map Pl.pr) ++ [p].map Pl.pr).length = st'.length + 1 := by simp
      rw [hlen] at hc
      have hst' : st'.length ≤ 4194304 := by
        have h1 := rows_len (st := st' ++ [p]) hrows.out
        simp at h1
        omega
      have HL := Lib.hid (leave_any (fun k => k < g + 1) b (st'.map Pl.pr) p.pr wr (fun k hk => Nat.lt_of_lt_of_le (HF.out k hk) hfr.size) hstk (by simp; exact hst'))
      clear hstk h0 hlen
      go_wp2_with fail
      refine HL.out.mono ?_
      rintro e wl ⟨rfl, hstk, hfr1⟩
      have hp := hrows.out p (by simp)
      obtain ⟨ps, hps1, hps2, hps3⟩ := row_pairs hp.1
      have hd := hdep.out p (by simp)
      have hsl := sum_sizes p.l
      have hsb := sum_bulks p.l
      have hk1 := kidsP_sum V.sizes rfl p.d ps hps3
      have hk2 := kidsP_sum V.bulks rfl p.d ps hps3
      rw [hps1] at hk1 hk2
      have hlp : 1 ≤ p.l.length := by
        cases hl : p.l with
        | nil => exact absurd hl hp.2
        | cons _ _ => simp
      have hsum' := hsum.out
      rw [sumL_one] at hsum' hload
      have hll := length_le_bulks p.l
      have hyl : (ps.map (·.2)).length = p.l.length := by rw [← hps1]; simp
      have hfr2 := hfr.trans hfr1
      have HE := Lib.hid fun w' (h1 : Stk w' (fun k => k < g + 1) b (st'.map Pl.pr)) (h2 : Fr (fun k => k < g + 1) w2 w') =>
        enter_any (fun k => k < g + 1) b (st'.map Pl.pr) p.A (ps.map (·.2)) p.c p.d w' (fun k hk => Nat.lt_of_lt_of_le (HF.out k hk) h2.size) h1 (hps2.fr (fun _ h => h) h2) (by
          rw [hyl]
          have h1 := rows_len (st := st' ++ [p]) hrows.out
          have h2 := rows_len (st := st') fun q hq => hrows.out q (by simp [hq])
          simp
          omega) (by omega) (by omega)
      rw [hyl] at HE
      have HKP := Lib.hid (kidsP_pr p.d ps hps3)
      have HR' : Hid (Rows w2 (g + 1) (st' ++ kidsP p.d ps)) := by
        intro q hq
        rcases List.mem_append.1 hq with hq | hq
        · exact hrows.out q (by simp [hq])
        · exact kidsP_rows p.d ps hps3 q hq
      have HD' : Hid (∀ x ∈ st' ++ kidsP p.d ps, x.d + (gk - 1) ≤ 4194305) := by
        intro x hx
        rcases List.mem_append.1 hx with hx | hx
        · have := hdep.out x (by simp [hx])
          omega
        · unfold kidsP at hx
          obtain ⟨y, _, rfl⟩ := List.mem_map.1 hx
          show p.d + 1 + _ ≤ _
          omega
      have HS' : Hid (m + p.l.length + sumL V.sizes (st' ++ kidsP p.d ps) = v.size) := by
        show m + p.l.length + _ = _
        rw [sumL_append, hk1]
        omega
      have hload' : sumL V.bulks (st' ++ kidsP p.d ps) ≤ gk - 1 := by
        rw [sumL_append, hk2]
        omega
      have hmb : m + p.l.length ≤ 4194304 := by omega
      generalize hpl : p.l.length = pn at *
      generalize kidsP p.d ps = kp at *
      unfold Pl.pr Pr.v
      simp only [hpl]
      have hgk : 1 ≤ gk := by omega
      clear hp hps1 hps2 hps3 hd hsl hsb hk1 hk2 hsum' hsum hll hyl hfr hfr1 hdep hrows hload hpl
      go_wp2_with fail
      refine (HE.out _ (hstk.alloc _) (hfr2.alloc HF.out _)).mono ?_
      rintro e we ⟨rfl, hstk2, hfr3⟩
      have hfr4 := (hfr2.alloc HF.out _).trans hfr3
      rw [← HKP.out, ← List.map_append] at hstk2
      obtain ⟨A2, c2, hc2⟩ := hstk2.open
      have hml : (List.map Pl.pr (st' ++ kp)).length = st'.length + kp.length := by simp
      have hmv := Lib.hid (hstk2.move (fun k hk => Nat.lt_of_lt_of_le (HF.out k hk) hfr4.size) hc2)
      rw [hml] at hmv hc2
      clear hstk hfr2 hfr3 hstk2 hml
      go_wp2_with fail
      go_roundg (gk - 1)
      case measure => omega
      case rel => exact ⟨m + pn, we.heap.size, st' ++ kp, by go_num, rfl, hmv.out, hfr4.alloc HF.out _, HR'.out, HS'.out, hload', by omega, HD'.out⟩
end Go.Proofs.YtnjcofjphneccaaDoor
