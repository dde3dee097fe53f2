/-
  append, by contract. (gen_rd.py)
-/
import Derived.Test.YtcahijpbkjplmaaGreatDoorMRc
import Derived.Test.YtcahijpbkjplmaaGreatDoorMQf
import Derived.Great.Walk
namespace Go.Proofs.YtcahijpbkjplmaaGreatDoor.G
open Go.RowKit Go.Shelf Go.Maps Go.Proofs.YtcahijpbkjplmaaGreatDoor

theorem infoPp : (Tryz.prog.info? 79).map (fun i => (i.zero, i.size, i.bytes)) = some (some (.pointer none), 1, 8) := by kernel_rfl
theorem cell_far (w : World) {g b : Nat} (h : g ≠ b) (o j : Nat) (u : Value) : (w.setCell ⟨g, o, none⟩ u).cell? ⟨b, j, none⟩ = w.cell? ⟨b, j, none⟩ := World.cell?_setCell_other _ _ _ _ (by intro e; injection e with e _; exact h e)
theorem sel_len (o : Ob) (pb : List Nat) (y : Nat) : (sel o pb y).length ≤ pb.length := by
  rw [sel_eq]
  unfold selG
  rw [List.length_map]
  exact Nat.le_trans (List.length_filter_le _ _) (by rw [List.length_zip]; exact Nat.min_le_left _ _)
def AppR (w : World) (ow : Nat → Option Nat) (i n : Nat) (pp : Value) (b : Nat) (o' : Ob) (e : Ending) (w' : World) : Prop := e = .returned (.tuple #[]) ∧ ∃ ow' x', Chg w ow i n pp b o' w' ow' x'
theorem step_mapU {ops : Array Oper} {o : Oper} {a : Act} {w : World} {K : Act → World → Prop} {Q : Exit → Act → World → Prop} {E : Prop} (hgd : o.guard = none) (m x v : Operand) (t : TypeId) (ho : o.op = .mapUpdate t m x v) (w' : World)
    (hr : (Instr.mapUpdate t (a.eval m) (a.eval x) (a.eval v)).run Tryz.prog w = .ok () w') (h : K (a.put o.dst undef) w') : if Region.wanted o (yielded ops a.tmps) = true then Oper.wp Tryz.prog o a w K Q else E := by
  have hw : Region.wanted o (yielded ops a.tmps) = true := by simp [Region.wanted, hgd]
  rw [if_pos hw]
  unfold Oper.wp execOp
  simp [ho, hr, Result.andThen]
  exact h
section
variable {w : World} {ow : Nat → Option Nat} {i n : Nat} {pp : Value} {x : OL} {o : Ob}
set_option linter.unusedSimpArgs false in
set_option maxRecDepth 20000 in
set_option maxHeartbeats 1000000 in
theorem append_any (h : ObjAt w ow i n pp x o) (hl : ∀ k, ow k ≠ none → k < w.heap.size) (p : Pr) (hs : Sp p) (hk : o.ps.findIdx? (has p.key) = none) (hn : n ≤ 100000) (hps : o.ps.length ≤ 100000) (hix : ∀ y, o.ixA ix AR p.key = some y → y < 1000) :
    Calls Tryz.prog 86 #[pv x.b, p.v'] w (AppR w ow i (n + 1) pp x.b (o.more ix AR p)) := by
  have HC := Lib.hid (fun w => copyProp_any p w (by have := hs.1; omega) (by have := hs.2; unfold Sv at this; omega))
  have h0 := h.low hl (below_new w (.cells (Pr.cs p).toArray 31))
  have hB0 := Blk.new w 31 (Pr.cs p)
  have hb0 := below_new w (.cells (Pr.cs p).toArray 31)
  have HH := Lib.hid h
  have HL := Lib.hid hl
  have HKO := Lib.hid (key_out hk)
  have HN := Lib.hid hn
  have HPS := Lib.hid hps
  have HIX := Lib.hid hix
  have HKS : Hid (p.key.size ≤ maxLen) := by have := hs.1; show p.key.size ≤ maxLen; unfold maxLen; omega
  have H0 := Lib.hid h0
  have HB0 := Lib.hid hB0
  have HBL := Lib.hid hb0
  obtain ⟨pk, ⟨pvk, pvn, pvs⟩, pw, pe, pf⟩ := p
  simp only [Pr.v', Pr.cs] at HC H0 HB0 HBL ⊢
  dsimp only at HKS HKO
  clear h hl hs hk hn hps hix h0 hB0 hb0
  go_enter Tryz.func86, Tryz.ntmps86
  go_wp2_with fail
  generalize w.alloc (.cells #[.string pk, .int .i64 pvk, .int .i64 pvn, .string pvs, .bool pw, .bool pe, .bool pf] 31) = W0 at *
  have hx : ObjAt W0.drew ow i n pp x o ∧ Blk W0.drew w.heap.size 31 (Pr.cs ⟨pk, ⟨pvk, pvn, pvs⟩, pw, pe, pf⟩) ∧ Below w.heap.size w W0.drew := ⟨H0.out.low (fun k hk => Nat.lt_of_lt_of_le (HL.out k hk) HBL.out.size) (below_draw _), HB0.out.fr rfl, HBL.out.drew⟩
  refine wp_region_held_drew (S := fun w' => ObjAt w' ow i n pp x o ∧ Blk w' w.heap.size 31 (Pr.cs ⟨pk, ⟨pvk, pvn, pvs⟩, pw, pe, pf⟩)) (by kernel_rfl) (⟨hx.1, hx.2.1⟩) (fun hHeld0 => ?_)
  generalize W0.drew = v0 at *
  clear H0 HB0 HBL
  (refine wpAnyH_take (i := 0) (v := ?_) rfl (by kernel_rfl) (by decide +kernel) (by decide +kernel) (fun _ _ _ h => h) (Or.inl ⟨by rfl, ?_⟩) (by assumption) ?_; rotate_left; (focus (intro w0 hSw; obtain ⟨c0, c1, c2, c3, c4, c5, c6⟩ := Blk.seven hSw.2; dsimp only at c0 c1 c2 c3 c4 c5 c6; go_simp; (try with_reducible rfl); done)))
  (refine wpAnyH_take (i := 2) (v := ?_) rfl (by kernel_rfl) (by decide +kernel) (by decide +kernel) (fun _ _ _ h => h) (Or.inl ⟨by rfl, ?_⟩) (by assumption) ?_; rotate_left; (focus (intro w0 hSw; go_simp; (try with_reducible rfl); done)))
  (refine wpAnyH_take (i := 3) (v := ?_) rfl (by kernel_rfl) (by decide +kernel) (by decide +kernel) (fun _ _ _ h => h) (Or.inl ⟨by rfl, ?_⟩) (by assumption) ?_; rotate_left; (focus (intro w0 hSw; go_simp; (try with_reducible rfl); done)))
  (refine wpAnyH_take (i := 4) (v := ?_) rfl (by kernel_rfl) (by decide +kernel) (by decide +kernel) (fun _ _ _ h => h) (Or.inl ⟨by rfl, ?_⟩) (by assumption) ?_; rotate_left; (focus (intro w0 hSw; go_simp; (try with_reducible rfl); done)))
  (refine wpAnyH_take (i := 5) (v := ?_) rfl (by kernel_rfl) (by decide +kernel) (by decide +kernel) (fun _ _ _ h => h) (Or.inl ⟨by rfl, ?_⟩) (by assumption) ?_; rotate_left; (focus (intro w0 hSw; go_simp; (try with_reducible rfl); done)))
  (refine wpAnyH_take (i := 6) (v := ?_) rfl (by kernel_rfl) (by decide +kernel) (by decide +kernel) (fun _ _ _ h => h) (Or.inl ⟨by rfl, ?_⟩) (by assumption) ?_; rotate_left; (focus (intro w0 hSw; have c12 := hSw.1.ob.cell (k := 12) rfl; go_simp; (try with_reducible rfl); done)))
  (refine wpAnyH_take (i := 7) (v := ?_) rfl (by kernel_rfl) (by decide +kernel) (by decide +kernel) (fun _ _ _ h => h) (Or.inl ⟨by rfl, ?_⟩) (by assumption) ?_; rotate_left; (focus (intro w0 hSw; go_simp; (try with_reducible rfl); done)))
  (refine wpAnyH_take (i := 8) (v := ?_) rfl (by kernel_rfl) (by decide +kernel) (by decide +kernel) (fun _ _ _ h => h) (Or.inl ⟨by rfl, ?_⟩) (by assumption) ?_; rotate_left; (focus (intro w0 hSw; go_simp; (try with_reducible rfl); done)))
  (refine wpAnyH_take (i := 9) (v := ?_) rfl (by kernel_rfl) (by decide +kernel) (by decide +kernel) (fun _ _ _ h => h) (Or.inl ⟨by rfl, ?_⟩) (by assumption) ?_; rotate_left; (focus (intro w0 hSw; go_simp; (try with_reducible rfl); done)))
  try simp only [List.getElem_toArray, List.getElem_cons_zero, List.getElem_cons_succ, Act.put, List.setIfInBounds_toArray, List.set_cons_zero, List.set_cons_succ]
  refine wpAnyH_ready (rs := [1]) (by decide +kernel) (by simp) (AllReadyH.cons rfl (fun K hK => ?_) AllReadyH.nil)
  go_simp
  refine (HC.out _).mono ?_
  rintro e v1 ⟨rfl, hb⟩
  have hl0 : ∀ k, ow k ≠ none → k < v0.heap.size := fun k hk => Nat.lt_of_lt_of_le (HL.out k hk) hx.2.2.size
  have hy : ObjAt v1 ow i n pp x o ∧ Blk v1 w.heap.size 31 (Pr.cs ⟨pk, ⟨pvk, pvn, pvs⟩, pw, pe, pf⟩) ∧ Below w.heap.size w v1 := ⟨hx.1.low hl0 hb, hx.2.1.low hb, hx.2.2.trans (hb.mono hx.2.2.size)⟩
  clear hb hx hl0 HC
  refine hK.out _ _ ⟨hy.1, hy.2.1⟩ (fun hHeld1 => ?_)
  clear hK K hHeld0 
  try simp only [List.getElem_toArray, List.getElem_cons_zero, List.getElem_cons_succ, Act.put, List.setIfInBounds_toArray, List.set_cons_zero, List.set_cons_succ]
  (refine wpAnyH_take (i := 10) (v := ?_) rfl (by kernel_rfl) (by decide +kernel) (by decide +kernel) (fun _ _ _ h => h) (Or.inl ⟨by rfl, ?_⟩) (by assumption) ?_; rotate_left; (focus (intro w0 hSw; go_simp; (try with_reducible rfl); done)))
  try simp only [List.getElem_toArray, List.getElem_cons_zero, List.getElem_cons_succ, Act.put, List.setIfInBounds_toArray, List.set_cons_zero, List.set_cons_succ]
  refine wpAnyH_ready (rs := [11]) (by decide +kernel) (by simp) (AllReadyH.cons rfl (fun K hK => ?_) AllReadyH.nil)
  go_simp
  have hb := below_new v1 (.cells #[.string pk, .int .i64 pvk, .int .i64 pvn, .string pvs, .bool pw, .bool pe, .bool pf, av (nd x.b x.pb x.pb.length), av ⟨x.b, 5, none⟩] 81)
  have hbn : Blk (v1.alloc (.cells #[.string pk, .int .i64 pvk, .int .i64 pvn, .string pvs, .bool pw, .bool pe, .bool pf, av (nd x.b x.pb x.pb.length), av ⟨x.b, 5, none⟩] 81)) v1.heap.size 81 (propC ⟨pk, ⟨pvk, pvn, pvs⟩, pw, pe, pf⟩ (av (nd x.b x.pb x.pb.length)) (av ⟨x.b, 5, none⟩)) := Blk.new _ _ _
  have hl0 : ∀ k, ow k ≠ none → k < v1.heap.size := fun k hk => Nat.lt_of_lt_of_le (HL.out k hk) hy.2.2.size
  have hz : ObjAt (v1.alloc (.cells #[.string pk, .int .i64 pvk, .int .i64 pvn, .string pvs, .bool pw, .bool pe, .bool pf, av (nd x.b x.pb x.pb.length), av ⟨x.b, 5, none⟩] 81)) ow i n pp x o ∧ Blk (v1.alloc (.cells #[.string pk, .int .i64 pvk, .int .i64 pvn, .string pvs, .bool pw, .bool pe, .bool pf, av (nd x.b x.pb x.pb.length), av ⟨x.b, 5, none⟩] 81)) w.heap.size 31 (Pr.cs ⟨pk, ⟨pvk, pvn, pvs⟩, pw, pe, pf⟩) ∧ Below w.heap.size w (v1.alloc (.cells #[.string pk, .int .i64 pvk, .int .i64 pvn, .string pvs, .bool pw, .bool pe, .bool pf, av (nd x.b x.pb x.pb.length), av ⟨x.b, 5, none⟩] 81)) := ⟨hy.1.low hl0 hb, hy.2.1.low hb, hy.2.2.trans (hb.mono hy.2.2.size)⟩
  have hlo : w.heap.size ≤ v1.heap.size := hy.2.2.size
  clear hb hy
  refine hK.out _ _ ⟨hz.1, hz.2.1⟩ (fun hHeld2 => ?_)
  clear hK K hHeld1 
  try simp only [List.getElem_toArray, List.getElem_cons_zero, List.getElem_cons_succ, Act.put, List.setIfInBounds_toArray, List.set_cons_zero, List.set_cons_succ]
  (refine wpAnyH_take (i := 12) (v := ?_) rfl (by kernel_rfl) (by decide +kernel) (by decide +kernel) (fun _ _ _ h => h) (Or.inl ⟨by rfl, ?_⟩) (by assumption) ?_; rotate_left; (focus (intro w0 hSw; go_simp; (try with_reducible rfl); done)))
  try simp only [List.getElem_toArray, List.getElem_cons_zero, List.getElem_cons_succ, Act.put, List.setIfInBounds_toArray, List.set_cons_zero, List.set_cons_succ]
  refine wpAnyH_done (by kernel_rfl) ?_ _
  clear hHeld2
  generalize v1.alloc (.cells #[.string pk, .int .i64 pvk, .int .i64 pvn, .string pvs, .bool pw, .bool pe, .bool pf, av (nd x.b x.pb x.pb.length), av ⟨x.b, 5, none⟩] 81) = v2 at *
  generalize v1.heap.size = B at *
  have HZ : Hid (ObjAt v2.drew ow i n pp x o ∧ Blk v2.drew w.heap.size 31 (Pr.cs ⟨pk, ⟨pvk, pvn, pvs⟩, pw, pe, pf⟩) ∧ Below w.heap.size w v2.drew) := ⟨hz.1.low (fun k hk => Nat.lt_of_lt_of_le (HL.out k hk) hz.2.2.size) (below_draw _), hz.2.1.fr rfl, hz.2.2.drew⟩
  have HBN : Hid (Blk v2.drew B 81 (propC ⟨pk, ⟨pvk, pvn, pvs⟩, pw, pe, pf⟩ (av (nd x.b x.pb x.pb.length)) (av ⟨x.b, 5, none⟩))) := hbn.fr rfl
  have HLO := Lib.hid hlo
  have HBX : Hid (B ∉ x.pb) := fun e => by
    have h1 := hz.1.wp B e
    have h2 := HL.out B (by rw [h1]; simp)
    omega
  clear hz hbn hlo hl0
  go_wp2_with fail
  obtain ⟨g, q, hgq, ⟨u8, hu8⟩, -, hfz, hgb⟩ := HZ.out.1.ring.place x.pb.length
  have hBN := HBN.out
  rw [hgq] at hBN ⊢
  have hgB : g ≠ B := by
    rcases hgb with rfl | hgb
    · exact Ne.symm (hBN.ne HZ.out.1.ob (by decide))
    · rintro rfl
      exact HBX.out hgb
  have HGB := Lib.hid hgB
  have HGQ := Lib.hid hgq
  have HBS : Hid (∃ u, (v2.drew.setCell ⟨g, q + 8, none⟩ (pv B)).cell? ⟨x.b, 12, none⟩ = some u) := by
    have hob := HZ.out.1.ob
    by_cases e : g = x.b
    · subst e
      have := (Blk.set (w := v2.drew) hob (q + 8) (pv B))
      exact ⟨_, this.cell (k := 12) (List.getElem?_eq_getElem (by rw [List.length_set]; show 12 < 17; omega))⟩
    · have := (Blk.other (w := v2.drew) hob (p := ⟨g, q + 8, none⟩) (Ne.symm e) (pv B))
      exact ⟨_, this.cell (k := 12) rfl⟩
  have HFZ2 : Hid (∀ k, v2.frozen? ⟨x.b, k, none⟩ = false) := HZ.out.1.ob.fz
  have hs0 : v2.drew.cell? ⟨B, 7, none⟩ = some (av ⟨g, q, none⟩) ∧ v2.drew.cell? ⟨B, 8, none⟩ = some (av ⟨x.b, 5, none⟩) := ⟨hBN.cell (k := 7) rfl, hBN.cell (k := 8) rfl⟩
  clear hBN hgb hgq hgB
  refine wp_region_held_drew (S := fun w' => w'.cell? ⟨B, 7, none⟩ = some (av ⟨g, q, none⟩) ∧ w'.cell? ⟨B, 8, none⟩ = some (av ⟨x.b, 5, none⟩)) (by kernel_rfl) (hs0) (fun hHeld0 => ?_)
  generalize v2.drew = v3 at *
  (refine wpAnyH_take (i := 0) (v := ?_) rfl (by kernel_rfl) (by decide +kernel) (by decide +kernel) (fun _ _ _ h => h) (Or.inl ⟨by rfl, ?_⟩) (by assumption) ?_; rotate_left; (focus (intro w0 hSw; go_simp; (try with_reducible rfl); done)))
  (refine wpAnyH_take (i := 1) (v := ?_) rfl (by kernel_rfl) (by decide +kernel) (by decide +kernel) (fun _ _ _ h => h) (Or.inl ⟨by rfl, ?_⟩) (by assumption) ?_; rotate_left; (focus (intro w0 hSw; go_simp; (try with_reducible rfl); done)))
  (refine wpAnyH_take (i := 2) (v := ?_) rfl (by kernel_rfl) (by decide +kernel) (by decide +kernel) (fun _ _ _ h => h) (Or.inl ⟨by rfl, ?_⟩) (by assumption) ?_; rotate_left; (focus (intro w0 hSw; go_simp; (try with_reducible rfl); done)))
  (refine wpAnyH_take (i := 3) (v := ?_) rfl (by kernel_rfl) (by decide +kernel) (by decide +kernel) (fun _ _ _ h => h) (Or.inl ⟨by rfl, ?_⟩) (by assumption) ?_; rotate_left; (focus (intro w0 hSw; obtain ⟨c7, c8⟩ := hSw; go_simp; (try with_reducible rfl); done)))
  (refine wpAnyH_take (i := 4) (v := ?_) rfl (by kernel_rfl) (by decide +kernel) (by decide +kernel) (fun _ _ _ h => h) (Or.inl ⟨by rfl, ?_⟩) (by assumption) ?_; rotate_left; (focus (intro w0 hSw; go_simp; (try with_reducible rfl); done)))
  (refine wpAnyH_take (i := 5) (v := ?_) rfl (by kernel_rfl) (by decide +kernel) (by decide +kernel) (fun _ _ _ h => h) (Or.inl ⟨by rfl, ?_⟩) (by assumption) ?_; rotate_left; (focus (intro w0 hSw; go_simp; (try with_reducible rfl); done)))
  (refine wpAnyH_take (i := 6) (v := ?_) rfl (by kernel_rfl) (by decide +kernel) (by decide +kernel) (fun _ _ _ h => h) (Or.inl ⟨by rfl, ?_⟩) (by assumption) ?_; rotate_left; (focus (intro w0 hSw; go_simp; (try with_reducible rfl); done)))
  (refine wpAnyH_take (i := 7) (v := ?_) rfl (by kernel_rfl) (by decide +kernel) (by decide +kernel) (fun _ _ _ h => h) (Or.inl ⟨by rfl, ?_⟩) (by assumption) ?_; rotate_left; (focus (intro w0 hSw; obtain ⟨c7, c8⟩ := hSw; go_simp; (try with_reducible rfl); done)))
  (refine wpAnyH_take (i := 8) (v := ?_) rfl (by kernel_rfl) (by decide +kernel) (by decide +kernel) (fun _ _ _ h => h) (Or.inl ⟨by rfl, ?_⟩) (by assumption) ?_; rotate_left; (focus (intro w0 hSw; go_simp; (try with_reducible rfl); done)))
  (refine wpAnyH_take (i := 9) (v := ?_) rfl (by kernel_rfl) (by decide +kernel) (by decide +kernel) (fun _ _ _ h => h) (Or.inl ⟨by rfl, ?_⟩) (by assumption) ?_; rotate_left; (focus (intro w0 hSw; go_simp; (try with_reducible rfl); done)))
  (refine wpAnyH_take (i := 10) (v := ?_) rfl (by kernel_rfl) (by decide +kernel) (by decide +kernel) (fun _ _ _ h => h) (Or.inl ⟨by rfl, ?_⟩) (by assumption) ?_; rotate_left; (focus (intro w0 hSw; go_simp; (try with_reducible rfl); done)))
  (refine wpAnyH_take (i := 11) (v := ?_) rfl (by kernel_rfl) (by decide +kernel) (by decide +kernel) (fun _ _ _ h => h) (Or.inl ⟨by rfl, ?_⟩) (by assumption) ?_; rotate_left; (focus (intro w0 hSw; go_simp; (try with_reducible rfl); done)))
  try simp only [List.getElem_toArray, List.getElem_cons_zero, List.getElem_cons_succ, Act.put, List.setIfInBounds_toArray, List.set_cons_zero, List.set_cons_succ]
  refine wpAnyH_ready (rs := [12]) (by decide +kernel) (by simp) (AllReadyH.cons rfl (fun K hK => ?_) AllReadyH.nil)
  have hu8' : v3.cell? ⟨g, q + 8, none⟩ = some u8 := hu8
  have hfz' : v3.frozen? ⟨g, q + 8, none⟩ = false := hfz _
  go_simp
  clear hu8' hfz'
  refine hK.out _ _ ⟨(cell_far _ HGB.out _ _ _).trans hs0.1, (cell_far _ HGB.out _ _ _).trans hs0.2⟩ (fun hHeld1 => ?_)
  clear hK K hHeld0 
  try simp only [List.getElem_toArray, List.getElem_cons_zero, List.getElem_cons_succ, Act.put, List.setIfInBounds_toArray, List.set_cons_zero, List.set_cons_succ]
  (refine wpAnyH_take (i := 13) (v := ?_) rfl (by kernel_rfl) (by decide +kernel) (by decide +kernel) (fun _ _ _ h => h) (Or.inl ⟨by rfl, ?_⟩) (by assumption) ?_; rotate_left; (focus (intro w0 hSw; go_simp; (try with_reducible rfl); done)))
  (refine wpAnyH_take (i := 14) (v := ?_) rfl (by kernel_rfl) (by decide +kernel) (by decide +kernel) (fun _ _ _ h => h) (Or.inl ⟨by rfl, ?_⟩) (by assumption) ?_; rotate_left; (focus (intro w0 hSw; go_simp; (try with_reducible rfl); done)))
  try simp only [List.getElem_toArray, List.getElem_cons_zero, List.getElem_cons_succ, Act.put, List.setIfInBounds_toArray, List.set_cons_zero, List.set_cons_succ]
  refine wpAnyH_ready (rs := [15]) (by decide +kernel) (by simp) (AllReadyH.cons rfl (fun K hK => ?_) AllReadyH.nil)
  obtain ⟨u12, hu12⟩ := HBS.out
  have hf12 : (v3.setCell ⟨g, q + 8, none⟩ (pv B)).frozen? ⟨x.b, 12, none⟩ = false := by
    rw [World.frozen?_setCell]
    exact HZ.out.1.ob.fz 12
  go_simp
  clear hu12 hf12
  have hxB : x.b ≠ B := Ne.symm (HBN.out.ne HZ.out.1.ob (by decide))
  refine hK.out _ _ ⟨(cell_far _ hxB _ _ _).trans ((cell_far _ HGB.out _ _ _).trans hs0.1), (cell_far _ hxB _ _ _).trans ((cell_far _ HGB.out _ _ _).trans hs0.2)⟩ (fun hHeld2 => ?_)
  clear hK K hHeld1 
  try simp only [List.getElem_toArray, List.getElem_cons_zero, List.getElem_cons_succ, Act.put, List.setIfInBounds_toArray, List.set_cons_zero, List.set_cons_succ]
  refine wpAnyH_done (by kernel_rfl) ?_ _
  have hring := Ring.snoc (w := v3) HZ.out.1.ring (B := B) (p := ⟨pk, ⟨pvk, pvn, pvs⟩, pw, pe, pf⟩) HBN.out HBX.out
  rw [HGQ.out] at hring
  have hbb : B ≠ x.b := HBN.out.ne HZ.out.1.ob (by decide)
  have hown : ∀ k, ow k ≠ some (i + 1) → k ≠ g ∧ k ≠ x.b := fun k hk => by
    obtain ⟨g', q', e1, -, -, -, e2⟩ := HZ.out.1.ring.place x.pb.length
    rw [HGQ.out] at e1
    injection e1 with e1 _
    subst e1
    refine ⟨?_, ?_⟩
    · rintro rfl
      rcases e2 with rfl | e2
      · exact hk HZ.out.1.wb
      · exact hk (HZ.out.1.wp _ e2)
    · rintro rfl
      exact hk HZ.out.1.wb
  have hmap : ∀ (m : Nat) (es : Array MapEntry) (c : Nat), v3.heap[m]? = some (.map es c) → ((v3.setCell ⟨g, q + 8, none⟩ (pv B)).setCell ⟨x.b, 12, none⟩ (pv B)).heap[m]? = v3.heap[m]? := fun m es c hm => by
    obtain ⟨g', q', e1, -, -, -, e2⟩ := HZ.out.1.ring.place x.pb.length
    rw [HGQ.out] at e1
    injection e1 with e1 _
    subst e1
    rw [Below.heap_setCell _ _ _ _ (fun e => HZ.out.1.ob.ne_map hm e.symm), Below.heap_setCell _ _ _ _ (fun e => ?_)]
    rcases e2 with e2 | e2
    · exact HZ.out.1.ob.ne_map hm (e2.symm.trans e.symm)
    · exact HZ.out.1.ring.ne_map e2 hm e.symm
  have hrows : ∀ y k, (x.fi y).ownBlock = some k → ((v3.setCell ⟨g, q + 8, none⟩ (pv B)).setCell ⟨x.b, 12, none⟩ (pv B)).heap[k]? = v3.heap[k]? := fun y k hk => by
    obtain ⟨g', q', e1, -, -, -, e2⟩ := HZ.out.1.ring.place x.pb.length
    rw [HGQ.out] at e1
    injection e1 with e1 _
    subst e1
    rw [Below.heap_setCell _ _ _ _ (fun e => HZ.out.1.ob.ne_row (HZ.out.1.rw y) (by decide) k hk e.symm), Below.heap_setCell _ _ _ _ (fun e => ?_)]
    rcases e2 with e2 | e2
    · exact HZ.out.1.ob.ne_row (HZ.out.1.rw y) (by decide) k hk (e2.symm.trans e.symm)
    · exact HZ.out.1.ring.ne_row e2 (HZ.out.1.rw y) k hk e.symm
  have HMI : Hid (Ring ((v3.setCell ⟨g, q + 8, none⟩ (pv B)).setCell ⟨x.b, 12, none⟩ (pv B)) i pp { x with pb := x.pb ++ [B] } { o with ps := o.ps ++ [⟨pk, ⟨pvk, pvn, pvs⟩, pw, pe, pf⟩] } ∧
      MapS ((v3.setCell ⟨g, q + 8, none⟩ (pv B)).setCell ⟨x.b, 12, none⟩ (pv B)) x.pm n (.pointer none) (fnd x.pb o.ps) ∧
      (∃ ni, ni + o.ps.length ≤ 2 * n ∧ MapI ((v3.setCell ⟨g, q + 8, none⟩ (pv B)).setCell ⟨x.b, 12, none⟩ (pv B)) x.im ni (.slice none 0 0) x.fi) ∧
      (∀ y, ((v3.setCell ⟨g, q + 8, none⟩ (pv B)).setCell ⟨x.b, 12, none⟩ (pv B)).ownsRow 0 79 1 (x.fi y) (sel o x.pb y).length ((sel o x.pb y).map pv)) ∧
      Fr (fun k => k < w.heap.size ∧ ow k ≠ some (i + 1)) w ((v3.setCell ⟨g, q + 8, none⟩ (pv B)).setCell ⟨x.b, 12, none⟩ (pv B)) ∧ w.heap.size ≤ B ∧ B < ((v3.setCell ⟨g, q + 8, none⟩ (pv B)).setCell ⟨x.b, 12, none⟩ (pv B)).heap.size ∧
      Blk ((v3.setCell ⟨g, q + 8, none⟩ (pv B)).setCell ⟨x.b, 12, none⟩ (pv B)) B 81 (propC ⟨pk, ⟨pvk, pvn, pvs⟩, pw, pe, pf⟩ (av ⟨g, q, none⟩) (av ⟨x.b, 5, none⟩))) := by
    obtain ⟨es, c, hes⟩ := HZ.out.1.mp.isMap
    obtain ⟨ni, hn1, hn2⟩ := HZ.out.1.mi
    obtain ⟨es2, c2, hes2⟩ := hn2.isMap
    refine ⟨hring, HZ.out.1.mp.fr (hmap _ _ _ hes), ⟨ni, hn1, hn2.fr (hmap _ _ _ hes2)⟩, fun y => row_same (HZ.out.1.rw y) (hrows y), ?_, HLO.out, ?_, ?_⟩
    · exact ((Fr.of HZ.out.2.2 fun k hk => hk.1).setCell (p := ⟨g, q + 8, none⟩) (fun hk => (hown _ hk.2).1 rfl) _).setCell (p := ⟨x.b, 12, none⟩) (fun hk => (hown _ hk.2).2 rfl) _
    · have := HBN.out.lt
      simpa [World.setCell] using this
    · have hBN := HBN.out
      rw [HGQ.out] at hBN
      exact (hBN.other (p := ⟨g, q + 8, none⟩) (Ne.symm HGB.out) _).other (p := ⟨x.b, 12, none⟩) hbb _
  clear hring hown hmap hrows hs0 hu8 hfz HZ HBN HFZ2 HBS hHeld2
  generalize (v3.setCell ⟨g, q + 8, none⟩ (pv B)).setCell ⟨x.b, 12, none⟩ (pv B) = v4 at *
  have HM4 : Hid (Ring v4.drew i pp { x with pb := x.pb ++ [B] } { o with ps := o.ps ++ [⟨pk, ⟨pvk, pvn, pvs⟩, pw, pe, pf⟩] } ∧ MapS v4.drew x.pm n (.pointer none) (fnd x.pb o.ps) ∧
      (∃ ni, ni + o.ps.length ≤ 2 * n ∧ MapI v4.drew x.im ni (.slice none 0 0) x.fi) ∧ (∀ y, v4.drew.ownsRow 0 79 1 (x.fi y) (sel o x.pb y).length ((sel o x.pb y).map pv)) ∧
      Fr (fun k => k < w.heap.size ∧ ow k ≠ some (i + 1)) w v4.drew ∧ w.heap.size ≤ B ∧ B < v4.drew.heap.size ∧ Blk v4.drew B 81 (propC ⟨pk, ⟨pvk, pvn, pvs⟩, pw, pe, pf⟩ (av ⟨g, q, none⟩) (av ⟨x.b, 5, none⟩))) := by
    obtain ⟨q1, q2, ⟨ni, q3, q4⟩, q5, q6, q7, q8, q9⟩ := HMI.out
    exact ⟨q1.fr rfl (fun _ _ => rfl), q2.fr rfl, ⟨ni, q3, q4.fr rfl⟩, fun y => row_same (q5 y) (fun _ _ => rfl), q6.drew, q7, q8, q9.fr rfl⟩
  have hs3 : v4.drew.cell? ⟨x.b, 4, none⟩ = some (.map (some x.pm)) ∧ v4.drew.cell? ⟨B, 0, none⟩ = some (.string pk) := ⟨HM4.out.1.ob.cell (k := 4) rfl, HM4.out.2.2.2.2.2.2.2.cell (k := 0) rfl⟩
  clear HMI
  go_wp2_with fail
  refine wp_region_held_drew (S := fun w' => w'.cell? ⟨x.b, 4, none⟩ = some (.map (some x.pm)) ∧ w'.cell? ⟨B, 0, none⟩ = some (.string pk)) (by kernel_rfl) (hs3) (fun hHeld0 => ?_)
  generalize v4.drew = v5 at *
  (refine wpAnyH_take (i := 0) (v := ?_) rfl (by kernel_rfl) (by decide +kernel) (by decide +kernel) (fun _ _ _ h => h) (Or.inl ⟨by rfl, ?_⟩) (by assumption) ?_; rotate_left; (focus (intro w0 hSw; go_simp; (try with_reducible rfl); done)))
  (refine wpAnyH_take (i := 1) (v := ?_) rfl (by kernel_rfl) (by decide +kernel) (by decide +kernel) (fun _ _ _ h => h) (Or.inl ⟨by rfl, ?_⟩) (by assumption) ?_; rotate_left; (focus (intro w0 hSw; go_simp; (try with_reducible rfl); done)))
  (refine wpAnyH_take (i := 2) (v := ?_) rfl (by kernel_rfl) (by decide +kernel) (by decide +kernel) (fun _ _ _ h => h) (Or.inl ⟨by rfl, ?_⟩) (by assumption) ?_; rotate_left; (focus (intro w0 hSw; go_simp; (try with_reducible rfl); done)))
  (refine wpAnyH_take (i := 3) (v := ?_) rfl (by kernel_rfl) (by decide +kernel) (by decide +kernel) (fun _ _ _ h => h) (Or.inl ⟨by rfl, ?_⟩) (by assumption) ?_; rotate_left; (focus (intro w0 hSw; obtain ⟨c4, c0⟩ := hSw; go_simp; (try with_reducible rfl); done)))
  (refine wpAnyH_take (i := 4) (v := ?_) rfl (by kernel_rfl) (by decide +kernel) (by decide +kernel) (fun _ _ _ h => h) (Or.inl ⟨by rfl, ?_⟩) (by assumption) ?_; rotate_left; (focus (intro w0 hSw; go_simp; (try with_reducible rfl); done)))
  (refine wpAnyH_take (i := 5) (v := ?_) rfl (by kernel_rfl) (by decide +kernel) (by decide +kernel) (fun _ _ _ h => h) (Or.inl ⟨by rfl, ?_⟩) (by assumption) ?_; rotate_left; (focus (intro w0 hSw; go_simp; (try with_reducible rfl); done)))
  (refine wpAnyH_take (i := 6) (v := ?_) rfl (by kernel_rfl) (by decide +kernel) (by decide +kernel) (fun _ _ _ h => h) (Or.inl ⟨by rfl, ?_⟩) (by assumption) ?_; rotate_left; (focus (intro w0 hSw; go_simp; (try with_reducible rfl); done)))
  (refine wpAnyH_take (i := 7) (v := ?_) rfl (by kernel_rfl) (by decide +kernel) (by decide +kernel) (fun _ _ _ h => h) (Or.inl ⟨by rfl, ?_⟩) (by assumption) ?_; rotate_left; (focus (intro w0 hSw; go_simp; (try with_reducible rfl); done)))
  (refine wpAnyH_take (i := 8) (v := ?_) rfl (by kernel_rfl) (by decide +kernel) (by decide +kernel) (fun _ _ _ h => h) (Or.inl ⟨by rfl, ?_⟩) (by assumption) ?_; rotate_left; (focus (intro w0 hSw; obtain ⟨c4, c0⟩ := hSw; go_simp; (try with_reducible rfl); done)))
  (refine wpAnyH_take (i := 9) (v := ?_) rfl (by kernel_rfl) (by decide +kernel) (by decide +kernel) (fun _ _ _ h => h) (Or.inl ⟨by rfl, ?_⟩) (by assumption) ?_; rotate_left; (focus (intro w0 hSw; go_simp; (try with_reducible rfl); done)))
  try simp only [List.getElem_toArray, List.getElem_cons_zero, List.getElem_cons_succ, Act.put, List.setIfInBounds_toArray, List.set_cons_zero, List.set_cons_succ]
  refine wpAnyH_ready (rs := [10]) (by decide +kernel) (by simp) (AllReadyH.cons rfl (fun K hK => ?_) AllReadyH.nil)
  obtain ⟨v6, hr6, hm6, ht6⟩ := HM4.out.2.1.store Tryz.underlying78 (by have := HN.out; unfold maxLen; omega) HKS.out (pv B)
  have hmid : Mid w ow i n pp x o B ⟨pk, ⟨pvk, pvn, pvs⟩, pw, pe, pf⟩ v6 := by
    obtain ⟨q1, q2, ⟨ni, q3, q4⟩, q5, q6, q7, q8, q9⟩ := HM4.out
    obtain ⟨es, c, hes⟩ := q2.isMap
    obtain ⟨es2, c2, hes2⟩ := q4.isMap
    have hk6 : ∀ k, k < v5.heap.size → k ≠ x.pm → v6.heap[k]? = v5.heap[k]? := fun k h1 h2 => ht6.grown.block k h1 (fun e => h2 (Option.some.inj e))
    refine ⟨q1.fr (hk6 _ q1.ob.lt (q1.ob.ne_map hes)) fun b hb => hk6 _ (q1.lt hb) (q1.ne_map hb hes), ?_, ⟨ni, q3, q4.fr (hk6 _ q4.lt (Ne.symm HH.out.mne))⟩, fun y => row_same (q5 y) fun k e => hk6 _ ((q5 y).lt k e).2 (fun e2 => row_ne_map (q5 y) hes (by rw [← e2]; exact e)), ?_, q7, Nat.lt_of_lt_of_le q8 ht6.grown.size⟩
    · have : (fun t => if t = pk then pv B else fnd x.pb o.ps t) = fnd (x.pb ++ [B]) (o.ps ++ [⟨pk, ⟨pvk, pvn, pvs⟩, pw, pe, pf⟩]) := funext fun s => (fnd_snoc (p := ⟨pk, ⟨pvk, pvn, pvs⟩, pw, pe, pf⟩) s HH.out.pl HKO.out).symm
      rw [← this]
      exact hm6
    · exact q6.turned (fun hk => hk.2 HH.out.wm) ht6 fun k hk => hk.1
  have hbk : Blk v6 B 81 (propC ⟨pk, ⟨pvk, pvn, pvs⟩, pw, pe, pf⟩ (av ⟨g, q, none⟩) (av ⟨x.b, 5, none⟩)) := by
    obtain ⟨es, c, hes⟩ := HM4.out.2.1.isMap
    have hbB := HM4.out.2.2.2.2.2.2.2
    exact hbB.fr (ht6.grown.block _ hbB.lt (fun e => hbB.ne_map hes (Option.some.inj e)))
  have hs6 : v6.cell? ⟨x.b, 4, none⟩ = some (.map (some x.pm)) ∧ v6.cell? ⟨B, 0, none⟩ = some (.string pk) := ⟨hmid.ring.ob.cell (k := 4) rfl, hbk.cell (k := 0) rfl⟩
  refine step_mapU rfl (.tmp 36) (.tmp 41) (.tmp 42) _ rfl v6 hr6 ?_
  clear hr6 hm6 ht6 HM4
  refine hK.out _ _ hs6 (fun hHeld1 => ?_)
  clear hK K hHeld0 
  try simp only [List.getElem_toArray, List.getElem_cons_zero, List.getElem_cons_succ, Act.put, List.setIfInBounds_toArray, List.set_cons_zero, List.set_cons_succ]
  refine wpAnyH_done (by kernel_rfl) ?_ _
  clear hHeld1 hs3 hs6
  have HMID := Lib.hid hmid
  have HBK := Lib.hid hbk
  clear hmid hbk
  have hI := index_cell (w := v6) (b := x.b) o (HMID.out.ring.ob.cell (k := 1) rfl) pk HKS.out
  have c0 := HBK.out.cell (k := 0) (v := .string pk) rfl
  have HI := Lib.hid hI
  clear hI
  go_wp2_with fail
  refine HI.out.mono ?_
  rintro e v7 ⟨rfl, hb⟩
  replace HMID := Lib.hid (HMID.out.low hb)
  clear HI c0 HBK
  cases hq : o.ixA ix AR pk with
  | none =>
    simp only [idxRes] at *
    go_wp2_with fail
    exact Go.Great.bodyPost_end0 rfl rfl ⟨rfl, HMID.out.whole HH.out HL.out hq⟩
  | some y =>
    have HY := Lib.hid (HIX.out y hq)
    have HQ := Lib.hid hq
    clear hq
    simp only [idxRes] at *
    have HM7 := Lib.hid (HMID.out.low (below_draw _))
    have hs7 : (fun w' : World => w'.cell? ⟨x.b, 16, none⟩ = some (.map (some x.im))) v7.drew := HM7.out.ring.ob.cell (k := 16) rfl
    clear HMID hb
    go_wp2_with fail
    refine wp_region_held_drew (S := (fun w' : World => w'.cell? ⟨x.b, 16, none⟩ = some (.map (some x.im)))) (by kernel_rfl) (hs7) (fun hHeld0 => ?_)
    generalize v7.drew = v8 at *
    (refine wpAnyH_take (i := 0) (v := ?_) rfl (by kernel_rfl) (by decide +kernel) (by decide +kernel) (fun _ _ _ h => h) (Or.inl ⟨by rfl, ?_⟩) (by assumption) ?_; rotate_left; (focus (intro w0 hSw; go_simp; (try with_reducible rfl); done)))
    (refine wpAnyH_take (i := 1) (v := ?_) rfl (by kernel_rfl) (by decide +kernel) (by decide +kernel) (fun _ _ _ h => h) (Or.inl ⟨by rfl, ?_⟩) (by assumption) ?_; rotate_left; (focus (intro w0 hSw; go_simp; (try with_reducible rfl); done)))
    (refine wpAnyH_take (i := 2) (v := ?_) rfl (by kernel_rfl) (by decide +kernel) (by decide +kernel) (fun _ _ _ h => h) (Or.inl ⟨by rfl, ?_⟩) (by assumption) ?_; rotate_left; (focus (intro w0 hSw; go_simp; (try with_reducible rfl); done)))
    (refine wpAnyH_take (i := 3) (v := ?_) rfl (by kernel_rfl) (by decide +kernel) (by decide +kernel) (fun _ _ _ h => h) (Or.inl ⟨by rfl, ?_⟩) (by assumption) ?_; rotate_left; (focus (intro w0 hSw; have c16 := hSw; go_simp; (try with_reducible rfl); done)))
    (refine wpAnyH_take (i := 4) (v := ?_) rfl (by kernel_rfl) (by decide +kernel) (by decide +kernel) (fun _ _ _ h => h) (Or.inl ⟨by rfl, ?_⟩) (by assumption) ?_; rotate_left; (focus (intro w0 hSw; go_simp; (try with_reducible rfl); done)))
    (refine wpAnyH_take (i := 5) (v := ?_) rfl (by kernel_rfl) (by decide +kernel) (by decide +kernel) (fun _ _ _ h => h) (Or.inl ⟨by rfl, ?_⟩) (by assumption) ?_; rotate_left; (focus (intro w0 hSw; go_simp; (try with_reducible rfl); done)))
    (refine wpAnyH_take (i := 6) (v := ?_) rfl (by kernel_rfl) (by decide +kernel) (by decide +kernel) (fun _ _ _ h => h) (Or.inl ⟨by rfl, ?_⟩) (by assumption) ?_; rotate_left; (focus (intro w0 hSw; go_simp; (try with_reducible rfl); done)))
    (refine wpAnyH_take (i := 7) (v := ?_) rfl (by kernel_rfl) (by decide +kernel) (by decide +kernel) (fun _ _ _ h => h) (Or.inl ⟨by rfl, ?_⟩) (by assumption) ?_; rotate_left; (focus (intro w0 hSw; go_simp; (try with_reducible rfl); done)))
    (refine wpAnyH_take (i := 8) (v := ?_) rfl (by kernel_rfl) (by decide +kernel) (by decide +kernel) (fun _ _ _ h => h) (Or.inl ⟨by rfl, ?_⟩) (by assumption) ?_; rotate_left; (focus (intro w0 hSw; have c16 := hSw; go_simp; (try with_reducible rfl); done)))
    (refine wpAnyH_take (i := 9) (v := ?_) rfl (by kernel_rfl) (by decide +kernel) (by decide +kernel) (fun _ _ _ h => h) (Or.inl ⟨by rfl, ?_⟩) (by assumption) ?_; rotate_left; (focus (intro w0 hSw; go_simp; (try with_reducible rfl); done)))
    (refine wpAnyH_take (i := 11) (v := ?_) rfl (by kernel_rfl) (by decide +kernel) (by decide +kernel) (fun _ _ _ h => h) (Or.inl ⟨by rfl, ?_⟩) (by assumption) ?_; rotate_left; (focus (intro w0 hSw; go_simp; (try with_reducible rfl); done)))
    try simp only [List.getElem_toArray, List.getElem_cons_zero, List.getElem_cons_succ, Act.put, List.setIfInBounds_toArray, List.set_cons_zero, List.set_cons_succ]
    refine wpAnyH_ready (rs := [10, 12]) (by decide +kernel) (by simp) (AllReadyH.cons rfl (fun K hK => ?_) (AllReadyH.cons rfl (fun K hK => ?_) AllReadyH.nil))
    · obtain ⟨ni, -, hmi⟩ := HM7.out.mi
      have hlk := hmi.look Tryz.underlying82 (zeroR _) (y := y) (by have := HY.out; omega)
      go_simp
      clear hlk hmi
      refine hK.out _ _ hs7 (fun hHeld1 => ?_)
      clear hK K hHeld0 
      try simp only [List.getElem_toArray, List.getElem_cons_zero, List.getElem_cons_succ, Act.put, List.setIfInBounds_toArray, List.set_cons_zero, List.set_cons_succ]
      refine wpAnyH_ready (rs := [12]) (by decide +kernel) (by simp) (AllReadyH.cons rfl (fun K hK => ?_) AllReadyH.nil)
      have hbl := below_new v8 (.cells #[pv B] 79)
      have hcc : Blk (v8.alloc (.cells #[pv B] 79)) v8.heap.size 79 [pv B] := Blk.new _ _ _
      have HM9 := Lib.hid (HM7.out.low hbl)
      have hs9 : (fun w' : World => w'.cell? ⟨x.b, 16, none⟩ = some (.map (some x.im))) (v8.alloc (.cells #[pv B] 79)) := HM9.out.ring.ob.cell (k := 16) rfl
      have HB9 := Lib.hid hbl
      have HCC := Lib.hid hcc
      clear hbl hcc
      go_simp
      refine hK.out _ _ hs9 (fun hHeld2 => ?_)
      clear hK K hHeld1 
      try simp only [List.getElem_toArray, List.getElem_cons_zero, List.getElem_cons_succ, Act.put, List.setIfInBounds_toArray, List.set_cons_zero, List.set_cons_succ]
      generalize (v8.alloc (.cells #[pv B] 79)) = v9 at *
      refine wpAnyH_ready (rs := [13]) (by decide +kernel) (by simp) (AllReadyH.cons rfl (fun K hK => ?_) AllReadyH.nil)
      refine step_app1 rfl (.tmp 64) (.tmp 66) 121 79 _ 8 Tryz.underlying121 infoPp rfl (by decide) (by rfl) 0 _ _ _ (by rfl) (HM9.out.rw y) _ (pv B) (by rfl) (HCC.out.cell rfl) rfl (by have := HPS.out; have := sel_len o x.pb y; have := HH.out.pl; omega) (by omega) ?_
      intro nv v10 h1 h2 h3
      have hk10 : ∀ k, k < v9.heap.size → (x.fi y).ownBlock ≠ some k → v10.heap[k]? = v9.heap[k]? := fun k a b => h2.block k a (Ne.symm b)
      have hoX : Blk v10 x.b 84 (objC i { o with ps := o.ps ++ [⟨pk, ⟨pvk, pvn, pvs⟩, pw, pe, pf⟩] } pp { x with pb := x.pb ++ [B] }) := HM9.out.ring.ob.fr (hk10 _ HM9.out.ring.ob.lt fun e => HM9.out.ring.ob.ne_row (HM9.out.rw y) (by decide) _ e rfl)
      have hmX : ∃ ni, ni + o.ps.length ≤ 2 * n ∧ MapI v10 x.im ni (.slice none 0 0) x.fi := by
        obtain ⟨ni, e1, e2⟩ := HM9.out.mi
        obtain ⟨es, c, hes⟩ := e2.isMap
        exact ⟨ni, e1, e2.fr (hk10 _ e2.lt (row_ne_map (HM9.out.rw y) hes))⟩
      have hs10 : (fun w' : World => w'.cell? ⟨x.b, 16, none⟩ = some (.map (some x.im))) v10 := hoX.cell (k := 16) rfl
      have HR10 := Lib.hid h1
      have HG10 := Lib.hid h2
      have HV10 := Lib.hid h3
      have HOX := Lib.hid hoX
      have HMX := Lib.hid hmX
      clear h1 h2 h3 hk10 hoX hmX
      refine hK.out _ _ hs10 (fun hHeld3 => ?_)
      clear hK K hHeld2 
      try simp only [List.getElem_toArray, List.getElem_cons_zero, List.getElem_cons_succ, Act.put, List.setIfInBounds_toArray, List.set_cons_zero, List.set_cons_succ]
      refine wpAnyH_ready (rs := [14]) (by decide +kernel) (by simp) (AllReadyH.cons rfl (fun K hK => ?_) AllReadyH.nil)
      obtain ⟨ni, hn1, hn2⟩ := HMX.out
      obtain ⟨es, ce, hes⟩ := hn2.isMap
      obtain ⟨v11, hr11, hm11, ht11⟩ := hn2.store Tryz.underlying82 (by have := HN.out; unfold maxLen; omega) (y := y) (by have := HY.out; omega) nv
      have HO11 : Hid (Blk v11 x.b 84 (objC i { o with ps := o.ps ++ [⟨pk, ⟨pvk, pvn, pvs⟩, pw, pe, pf⟩] } pp { x with pb := x.pb ++ [B] })) := HOX.out.fr (ht11.grown.block _ HOX.out.lt fun e => HOX.out.ne_map hes (Option.some.inj e))
      have HM11 : Hid (∃ ni, ni + o.ps.length ≤ 2 * n + 1 ∧ MapI v11 x.im ni (.slice none 0 0) (fun t => if t = y then nv else x.fi t)) := ⟨_, by omega, hm11⟩
      have HR11 : Hid (v11.ownsRow 0 79 1 nv ((sel o x.pb y).length + 1) ((sel o x.pb y).map pv ++ [pv B])) := row_same HR10.out fun k e => ht11.grown.block _ (HR10.out.lt k e).2 (fun e2 => row_ne_map HR10.out hes (by rw [← Option.some.inj e2]; exact e))
      have HF11 : Hid (Fr (fun k => k < v8.heap.size ∧ k ≠ x.b ∧ k ≠ x.im ∧ (x.fi y).ownBlock ≠ some k) v8 v11) := (((Fr.of HB9.out fun k hk => hk.1).grown (fun k hk => hk.1) HG10.out fun k e hk => hk.2.2.2 e)).turned (fun hk => hk.2.2.1 rfl) ht11 fun k hk => hk.1
      refine step_mapU rfl (.tmp 57) (.tmp 58) (.tmp 67) _ rfl v11 hr11 ?_
      clear hr11 hm11 ht11 hn1 hn2 hes HR10 HG10 HOX HMX
      refine hK.out _ _ (HO11.out.cell (k := 16) rfl) (fun hHeld4 => ?_)
      clear hK K hHeld3 
      try simp only [List.getElem_toArray, List.getElem_cons_zero, List.getElem_cons_succ, Act.put, List.setIfInBounds_toArray, List.set_cons_zero, List.set_cons_succ]
      refine wpAnyH_done (by kernel_rfl) ?_ _
      clear hHeld4 hs7 hs9 hs10
      obtain ⟨c14, z14⟩ : v11.cell? ⟨x.b, 14, none⟩ = some (.int .i64 (o.len : Int)) ∧ v11.frozen? ⟨x.b, 14, none⟩ = false := ⟨HO11.out.cell (k := 14) rfl, HO11.out.fz 14⟩
      go_wp2_with fail
      refine Go.Great.bodyPost_end0 rfl rfl ⟨rfl, ?_⟩
      rw [show wrap64 ((y : Int) + 1) = (y : Int) + 1 from by have := HY.out; unfold wrap64; omega]
      have e14 : (max (o.len : Int) ((y : Int) + 1)) = ((max o.len (y + 1) : Nat) : Int) := by omega
      rw [e14]
      refine HM7.out.indexed HH.out HL.out HQ.out (v' := nv) ?_ ?_ ?_ ?_ ?_
      · have hset := HO11.out.set 14 (.int .i64 ((max o.len (y + 1) : Nat) : Int))
        have el : (o.more ix AR ⟨pk, ⟨pvk, pvn, pvs⟩, pw, pe, pf⟩).len = max o.len (y + 1) := by
          unfold Ob.more
          dsimp only
          rw [HQ.out]
        have ec : objC i (o.more ix AR ⟨pk, ⟨pvk, pvn, pvs⟩, pw, pe, pf⟩) pp { x with pb := x.pb ++ [B] } = (objC i { o with ps := o.ps ++ [⟨pk, ⟨pvk, pvn, pvs⟩, pw, pe, pf⟩] } pp { x with pb := x.pb ++ [B] }).set 14 (.int .i64 ((max o.len (y + 1) : Nat) : Int)) := by
          unfold objC
          rw [el]
          rfl
        rw [ec]
        exact hset
      · obtain ⟨ni, e1, e2⟩ := HM11.out
        obtain ⟨es, c, hes⟩ := e2.isMap
        exact ⟨ni, e1, e2.fr (Below.heap_setCell _ _ _ _ (fun e => HO11.out.ne_map hes e.symm))⟩
      · exact row_same HR11.out fun k e => Below.heap_setCell _ _ _ _ (fun e2 => HO11.out.ne_row HR11.out (by decide) k e e2.symm)
      · exact HV10.out.imp id fun e => ⟨_, e, HB9.out.size⟩
      · exact HF11.out.setCell (p := ⟨x.b, 14, none⟩) (fun hk => hk.2.1 rfl) _
    · have hbl := below_new v8 (.cells #[pv B] 79)
      have hcc : Blk (v8.alloc (.cells #[pv B] 79)) v8.heap.size 79 [pv B] := Blk.new _ _ _
      have HM9 := Lib.hid (HM7.out.low hbl)
      have hs9 : (fun w' : World => w'.cell? ⟨x.b, 16, none⟩ = some (.map (some x.im))) (v8.alloc (.cells #[pv B] 79)) := HM9.out.ring.ob.cell (k := 16) rfl
      have HB9 := Lib.hid hbl
      have HCC := Lib.hid hcc
      clear hbl hcc
      go_simp
      refine hK.out _ _ hs9 (fun hHeld1 => ?_)
      clear hK K hHeld0 
      try simp only [List.getElem_toArray, List.getElem_cons_zero, List.getElem_cons_succ, Act.put, List.setIfInBounds_toArray, List.set_cons_zero, List.set_cons_succ]
      generalize (v8.alloc (.cells #[pv B] 79)) = v9 at *
      refine wpAnyH_ready (rs := [10]) (by decide +kernel) (by simp) (AllReadyH.cons rfl (fun K hK => ?_) AllReadyH.nil)
      obtain ⟨ni, -, hmi⟩ := HM9.out.mi
      have hlk := hmi.look Tryz.underlying82 (zeroR _) (y := y) (by have := HY.out; omega)
      go_simp
      clear hlk hmi
      refine hK.out _ _ hs9 (fun hHeld2 => ?_)
      clear hK K hHeld1 
      try simp only [List.getElem_toArray, List.getElem_cons_zero, List.getElem_cons_succ, Act.put, List.setIfInBounds_toArray, List.set_cons_zero, List.set_cons_succ]
      refine wpAnyH_ready (rs := [13]) (by decide +kernel) (by simp) (AllReadyH.cons rfl (fun K hK => ?_) AllReadyH.nil)
      refine step_app1 rfl (.tmp 64) (.tmp 66) 121 79 _ 8 Tryz.underlying121 infoPp rfl (by decide) (by rfl) 0 _ _ _ (by rfl) (HM9.out.rw y) _ (pv B) (by rfl) (HCC.out.cell rfl) rfl (by have := HPS.out; have := sel_len o x.pb y; have := HH.out.pl; omega) (by omega) ?_
      intro nv v10 h1 h2 h3
      have hk10 : ∀ k, k < v9.heap.size → (x.fi y).ownBlock ≠ some k → v10.heap[k]? = v9.heap[k]? := fun k a b => h2.block k a (Ne.symm b)
      have hoX : Blk v10 x.b 84 (objC i { o with ps := o.ps ++ [⟨pk, ⟨pvk, pvn, pvs⟩, pw, pe, pf⟩] } pp { x with pb := x.pb ++ [B] }) := HM9.out.ring.ob.fr (hk10 _ HM9.out.ring.ob.lt fun e => HM9.out.ring.ob.ne_row (HM9.out.rw y) (by decide) _ e rfl)
      have hmX : ∃ ni, ni + o.ps.length ≤ 2 * n ∧ MapI v10 x.im ni (.slice none 0 0) x.fi := by
        obtain ⟨ni, e1, e2⟩ := HM9.out.mi
        obtain ⟨es, c, hes⟩ := e2.isMap
        exact ⟨ni, e1, e2.fr (hk10 _ e2.lt (row_ne_map (HM9.out.rw y) hes))⟩
      have hs10 : (fun w' : World => w'.cell? ⟨x.b, 16, none⟩ = some (.map (some x.im))) v10 := hoX.cell (k := 16) rfl
      have HR10 := Lib.hid h1
      have HG10 := Lib.hid h2
      have HV10 := Lib.hid h3
      have HOX := Lib.hid hoX
      have HMX := Lib.hid hmX
      clear h1 h2 h3 hk10 hoX hmX
      refine hK.out _ _ hs10 (fun hHeld3 => ?_)
      clear hK K hHeld2 
      try simp only [List.getElem_toArray, List.getElem_cons_zero, List.getElem_cons_succ, Act.put, List.setIfInBounds_toArray, List.set_cons_zero, List.set_cons_succ]
      refine wpAnyH_ready (rs := [14]) (by decide +kernel) (by simp) (AllReadyH.cons rfl (fun K hK => ?_) AllReadyH.nil)
      obtain ⟨ni, hn1, hn2⟩ := HMX.out
      obtain ⟨es, ce, hes⟩ := hn2.isMap
      obtain ⟨v11, hr11, hm11, ht11⟩ := hn2.store Tryz.underlying82 (by have := HN.out; unfold maxLen; omega) (y := y) (by have := HY.out; omega) nv
      have HO11 : Hid (Blk v11 x.b 84 (objC i { o with ps := o.ps ++ [⟨pk, ⟨pvk, pvn, pvs⟩, pw, pe, pf⟩] } pp { x with pb := x.pb ++ [B] })) := HOX.out.fr (ht11.grown.block _ HOX.out.lt fun e => HOX.out.ne_map hes (Option.some.inj e))
      have HM11 : Hid (∃ ni, ni + o.ps.length ≤ 2 * n + 1 ∧ MapI v11 x.im ni (.slice none 0 0) (fun t => if t = y then nv else x.fi t)) := ⟨_, by omega, hm11⟩
      have HR11 : Hid (v11.ownsRow 0 79 1 nv ((sel o x.pb y).length + 1) ((sel o x.pb y).map pv ++ [pv B])) := row_same HR10.out fun k e => ht11.grown.block _ (HR10.out.lt k e).2 (fun e2 => row_ne_map HR10.out hes (by rw [← Option.some.inj e2]; exact e))
      have HF11 : Hid (Fr (fun k => k < v8.heap.size ∧ k ≠ x.b ∧ k ≠ x.im ∧ (x.fi y).ownBlock ≠ some k) v8 v11) := (((Fr.of HB9.out fun k hk => hk.1).grown (fun k hk => hk.1) HG10.out fun k e hk => hk.2.2.2 e)).turned (fun hk => hk.2.2.1 rfl) ht11 fun k hk => hk.1
      refine step_mapU rfl (.tmp 57) (.tmp 58) (.tmp 67) _ rfl v11 hr11 ?_
      clear hr11 hm11 ht11 hn1 hn2 hes HR10 HG10 HOX HMX
      refine hK.out _ _ (HO11.out.cell (k := 16) rfl) (fun hHeld4 => ?_)
      clear hK K hHeld3 
      try simp only [List.getElem_toArray, List.getElem_cons_zero, List.getElem_cons_succ, Act.put, List.setIfInBounds_toArray, List.set_cons_zero, List.set_cons_succ]
      refine wpAnyH_done (by kernel_rfl) ?_ _
      clear hHeld4 hs7 hs9 hs10
      obtain ⟨c14, z14⟩ : v11.cell? ⟨x.b, 14, none⟩ = some (.int .i64 (o.len : Int)) ∧ v11.frozen? ⟨x.b, 14, none⟩ = false := ⟨HO11.out.cell (k := 14) rfl, HO11.out.fz 14⟩
      go_wp2_with fail
      refine Go.Great.bodyPost_end0 rfl rfl ⟨rfl, ?_⟩
      rw [show wrap64 ((y : Int) + 1) = (y : Int) + 1 from by have := HY.out; unfold wrap64; omega]
      have e14 : (max (o.len : Int) ((y : Int) + 1)) = ((max o.len (y + 1) : Nat) : Int) := by omega
      rw [e14]
      refine HM7.out.indexed HH.out HL.out HQ.out (v' := nv) ?_ ?_ ?_ ?_ ?_
      · have hset := HO11.out.set 14 (.int .i64 ((max o.len (y + 1) : Nat) : Int))
        have el : (o.more ix AR ⟨pk, ⟨pvk, pvn, pvs⟩, pw, pe, pf⟩).len = max o.len (y + 1) := by
          unfold Ob.more
          dsimp only
          rw [HQ.out]
        have ec : objC i (o.more ix AR ⟨pk, ⟨pvk, pvn, pvs⟩, pw, pe, pf⟩) pp { x with pb := x.pb ++ [B] } = (objC i { o with ps := o.ps ++ [⟨pk, ⟨pvk, pvn, pvs⟩, pw, pe, pf⟩] } pp { x with pb := x.pb ++ [B] }).set 14 (.int .i64 ((max o.len (y + 1) : Nat) : Int)) := by
          unfold objC
          rw [el]
          rfl
        rw [ec]
        exact hset
      · obtain ⟨ni, e1, e2⟩ := HM11.out
        obtain ⟨es, c, hes⟩ := e2.isMap
        exact ⟨ni, e1, e2.fr (Below.heap_setCell _ _ _ _ (fun e => HO11.out.ne_map hes e.symm))⟩
      · exact row_same HR11.out fun k e => Below.heap_setCell _ _ _ _ (fun e2 => HO11.out.ne_row HR11.out (by decide) k e e2.symm)
      · exact HV10.out.imp id fun e => ⟨_, e, HB9.out.size⟩
      · exact HF11.out.setCell (p := ⟨x.b, 14, none⟩) (fun hk => hk.2.1 rfl) _
end
end Go.Proofs.YtcahijpbkjplmaaGreatDoor.G
