/-
  A row of ops in memory; made, by contract. (gen_gc.py)
-/
import Derived.Test.YtcahijpbkjplmaaGreatDoorMGb
import Derived.Test.YtcahijpbkjplmaaGreatDoorMFm
namespace Go.Proofs.YtcahijpbkjplmaaGreatDoor.G
open Go.RowKit Go.Shelf Go.Maps Go.Lib Go.Proofs.YtcahijpbkjplmaaGreatDoor

/-- an op's cells from place p of block g on -/
def OpRow (w : World) (g p : Nat) (o : Op) (sl : Value) : Prop := ∀ i v, (opC o sl)[i]? = some v → w.cell? ⟨g, p + i, none⟩ = some v
/-- a row of ops, its blocks below B -/
def OpsB (w : World) (B : Nat) (sl : Value) (l : List Op) : Prop := ∃ A c g, sl = .slice A l.length c ∧ g < B ∧ ∀ j o, l[j]? = some o → ∃ q slo bk, A = some ⟨g, q, none⟩ ∧ bk < B ∧ Vls w slo o.l bk ∧ OpRow w g (q + j * 16) o slo
theorem OpRow.fr {w w' : World} {g p : Nat} {o : Op} {sl : Value} (h : OpRow w g p o sl) (hb : w'.heap[g]? = w.heap[g]?) : OpRow w' g p o sl :=
  fun i v hi => (World.cell?_of_block (w := w) (a := ⟨g, p + i, none⟩) hb).trans (h i v hi)
theorem OpsB.low {w w' : World} {B : Nat} {sl : Value} {l : List Op} (h : OpsB w B sl l) (hb : Below B w w') : OpsB w' B sl l := by
  obtain ⟨A, c, g, h1, h2, h3⟩ := h
  refine ⟨A, c, g, h1, h2, fun j o ho => ?_⟩
  obtain ⟨q, slo, bk, h4, h5, h6, h7⟩ := h3 j o ho
  exact ⟨q, slo, bk, h4, h5, h6.fr (hb.block bk h5), h7.fr (hb.block g h2)⟩
theorem OpRow.all {w : World} {g p : Nat} {o : Op} {sl : Value} (h : OpRow w g p o sl) : w.cell? ⟨g, p, none⟩ = some (.int .i64 o.d) ∧ w.cell? ⟨g, p + 1, none⟩ = some (.int .i64 o.v.k) ∧ w.cell? ⟨g, p + 2, none⟩ = some (.int .i64 o.v.n) ∧ w.cell? ⟨g, p + 3, none⟩ = some (.string o.v.s) ∧ w.cell? ⟨g, p + 4, none⟩ = some (.int .i64 o.x.k) ∧ w.cell? ⟨g, p + 5, none⟩ = some (.int .i64 o.x.n) ∧ w.cell? ⟨g, p + 6, none⟩ = some (.string o.x.s) ∧ w.cell? ⟨g, p + 7, none⟩ = some (.string o.key) ∧ w.cell? ⟨g, p + 8, none⟩ = some (.string o.p.key) ∧ w.cell? ⟨g, p + 9, none⟩ = some (.int .i64 o.p.v.k) ∧ w.cell? ⟨g, p + 10, none⟩ = some (.int .i64 o.p.v.n) ∧ w.cell? ⟨g, p + 11, none⟩ = some (.string o.p.v.s) ∧ w.cell? ⟨g, p + 12, none⟩ = some (.bool o.p.w) ∧ w.cell? ⟨g, p + 13, none⟩ = some (.bool o.p.e) ∧ w.cell? ⟨g, p + 14, none⟩ = some (.bool o.p.f) ∧ w.cell? ⟨g, p + 15, none⟩ = some sl :=
  ⟨h 0 _ rfl, h 1 _ rfl, h 2 _ rfl, h 3 _ rfl, h 4 _ rfl, h 5 _ rfl, h 6 _ rfl, h 7 _ rfl, h 8 _ rfl, h 9 _ rfl, h 10 _ rfl, h 11 _ rfl, h 12 _ rfl, h 13 _ rfl, h 14 _ rfl, h 15 _ rfl⟩
theorem blk_all {w : World} {g : Nat} {o : Op} {sl : Value} (h : Blk w g 34 (opC o sl)) : w.cell? ⟨g, 0, none⟩ = some (.int .i64 o.d) ∧ w.cell? ⟨g, 1, none⟩ = some (.int .i64 o.v.k) ∧ w.cell? ⟨g, 2, none⟩ = some (.int .i64 o.v.n) ∧ w.cell? ⟨g, 3, none⟩ = some (.string o.v.s) ∧ w.cell? ⟨g, 4, none⟩ = some (.int .i64 o.x.k) ∧ w.cell? ⟨g, 5, none⟩ = some (.int .i64 o.x.n) ∧ w.cell? ⟨g, 6, none⟩ = some (.string o.x.s) ∧ w.cell? ⟨g, 7, none⟩ = some (.string o.key) ∧ w.cell? ⟨g, 8, none⟩ = some (.string o.p.key) ∧ w.cell? ⟨g, 9, none⟩ = some (.int .i64 o.p.v.k) ∧ w.cell? ⟨g, 10, none⟩ = some (.int .i64 o.p.v.n) ∧ w.cell? ⟨g, 11, none⟩ = some (.string o.p.v.s) ∧ w.cell? ⟨g, 12, none⟩ = some (.bool o.p.w) ∧ w.cell? ⟨g, 13, none⟩ = some (.bool o.p.e) ∧ w.cell? ⟨g, 14, none⟩ = some (.bool o.p.f) ∧ w.cell? ⟨g, 15, none⟩ = some sl :=
  ⟨h.cell rfl, h.cell rfl, h.cell rfl, h.cell rfl, h.cell rfl, h.cell rfl, h.cell rfl, h.cell rfl, h.cell rfl, h.cell rfl, h.cell rfl, h.cell rfl, h.cell rfl, h.cell rfl, h.cell rfl, h.cell rfl⟩
/-- an op whose texts are short -/
structure Sm (o : Op) : Prop where
  so : So o
  l : o.l.length ≤ 4194304
abbrev Hs.run' (h : Hs) (l : List Op) : Hs := h.run ix dx LK AR l
theorem run_next {h : Hs} {l : List Op} {k : Nat} {o : Op} (ho : l[k]? = some o) : h.run' (l.take (k + 1)) = (h.run' (l.take k)).step ix dx LK AR o := by
  rw [List.take_add_one, ho]
  exact run_snoc ix dx LK AR (l.take k) o h
theorem gd_runs {h : Hs} (g : Gd h) {l : List Op} (hl : ∀ o ∈ l, Sm o) (k : Nat) : Gd (h.run' (l.take k)) := gd_run _ h g fun o ho => (hl o (List.mem_of_mem_take ho)).so
/-- a reference just made does nothing to a heap -/
theorem dr_new {w w1 : World} {b X : Nat} {H : Hs} {ow owx : Nat → Option Nat} {L : List OL} (h : PH w b H ow L) (hr : RH w1 X (Hs.new 0) owx []) (hx : ∀ k, owx k ≠ none → w.heap.size ≤ k) : Dr w1 X ow := by
  refine ⟨owx, [], hr, fun k hk => ?_⟩
  cases e : ow k with
  | none => rfl
  | some r =>
    have h1 := h.lt k (by rw [e]; simp)
    have h2 := hx k hk
    omega
/-- one call, and a reference of its own -/
theorem LvS.done {w w1 w2 : World} {b : Nat} {H H' : Hs} {ow : Nat → Option Nat} {L : List OL} {e : Ending} (h : LvS w b H w1 ow L) (hd : DoR w1 b ow L H' e w2) : ∃ c, e = .returned (.bool c) ∧ ∃ ow' L', LvS w b H' w2 ow' L' ∧ ∀ k, k < w1.heap.size → ow k = none → ow' k = none ∧ w2.heap[k]? = w1.heap[k]? := by
  obtain ⟨c, e1, ow', L', hch⟩ := hd
  exact ⟨c, e1, ow', L', h.next hch, fun k h1 h2 => ⟨hch.out h1 h2, hch.kept h1 h2⟩⟩
def MadeR (w : World) (m : Int) (l : List Op) (e : Ending) (w' : World) : Prop :=
  (200 < l.length ∧ e = .returned (.pointer none) ∧ Below w.heap.size w w') ∨ (l.length ≤ 200 ∧ ∃ b ow L, e = .returned (pv b) ∧ LvS w b ((Hs.new m).run' l) w' ow L)
set_option linter.unusedSimpArgs false in
set_option maxRecDepth 20000 in
set_option maxHeartbeats 4000000 in
theorem made_any (m : Int) (l : List Op) (sl : Value) (w : World) (hT : Tab w) (hl : OpsB w w.heap.size sl l) (hsm : ∀ o ∈ l, Sm o) :
    Calls Tryz.prog 17 #[.int .i64 m, sl] w (MadeR w m l) := by
  obtain ⟨A, sc, bg, rfl, hbg, hops⟩ := id hl
  have HT := Lib.hid hT
  have HSM := Lib.hid hsm
  have HOPS := Lib.hid hops
  have HBG := Lib.hid hbg
  clear hT hsm hops hbg hl
  go_enter Tryz.func17, Tryz.ntmps17
  go_wp2_with fail
  refine (new_any m _).mono ?_
  rintro e wn ⟨b, ow, rfl, hp, hown, hb⟩
  have S1 : Hid (LvS w b (Hs.new m) wn ow []) := ⟨hp, hown, hb⟩
  clear hp hown hb
  by_cases h2 : 200 < l.length
  · have h2' : (200 : Int) < (l.length : Int) := by omega
    have HL := Lib.hid h2
    clear h2
    go_wp2_with fail
    go_ret
    exact .inl ⟨HL.out, rfl, S1.out.bel⟩
  · have h2' : ¬ (200 : Int) < (l.length : Int) := by omega
    have h3 : l.length ≤ 200 := by omega
    clear h2
    go_wp2_with fail
    go_loopw [19] (fun i wr => ∃ k : Nat, k ≤ l.length ∧ i = .int .i64 k ∧ Hid (∃ ow L, LvS w b ((Hs.new m).run' (l.take k)) wr ow L)) (fun i _ => l.length - (intOf i).toNat)
    case atStart => exact ⟨0, Nat.zero_le _, rfl, ow, [], S1.out⟩
    case round =>
      obtain ⟨k, hk, rfl, HSE⟩ := hrel
      by_cases hlt : k < l.length
      · obtain ⟨owr, Lr, hs⟩ := HSE.out
        have HS := Lib.hid hs
        have HWB : Hid (owr wr.heap.size = none) := HS.out.fresh
        clear hs HSE
        obtain ⟨o, HO⟩ : ∃ o, Hid (l[k]? = some o) := ⟨_, List.getElem?_eq_getElem hlt⟩
        have HSO := Lib.hid (HSM.out o (List.mem_of_getElem? HO.out))
        obtain ⟨q, slo, bk, rfl, hbk, hvl, hrow⟩ := HOPS.out k o HO.out
        obtain ⟨zA, zc, rfl, -⟩ := id hvl
        have hrw := hrow.fr (HS.out.bel.block _ HBG.out)
        have HVL := Lib.hid (hvl.fr (HS.out.bel.block _ hbk))
        have HBK := Lib.hid hbk
        obtain ⟨c0, c1, c2, c3, c4, c5, c6, c7, c8, c9, c10, c11, c12, c13, c14, c15⟩ := hrw.all
        clear hrow hrw hvl hbk
        have hb0 := (below_new wr (.cells (opC o (.slice zA o.l.length zc)).toArray 34)).drew
        have S0 := Lib.hid (HS.out.low hb0)
        have hs0 : Blk (wr.alloc (.cells (opC o (.slice zA o.l.length zc)).toArray 34)).drew wr.heap.size 34 (opC o (.slice zA o.l.length zc)) := (Blk.new wr 34 (opC o (.slice zA o.l.length zc))).fr rfl
        have HBW0 := Lib.hid hb0
        clear hb0
        go_wp2_with fail
        refine wp_region_held_drew (S := (fun w' : World => Blk w' wr.heap.size 34 (opC o (.slice zA o.l.length zc)))) (by kernel_rfl) (hs0) (fun hHeld0 => ?_)
        generalize World.drew _ = w0 at *
        (refine wpAnyH_take (i := 0) (v := ?_) rfl (by kernel_rfl) (by decide +kernel) (by decide +kernel) (fun _ _ _ h => h) (Or.inl ⟨by rfl, ?_⟩) (by assumption) ?_; rotate_left; (focus (intro w0 hSw; obtain ⟨e0, e1, e2, e3, e4, e5, e6, e7, e8, e9, e10, e11, e12, e13, e14, e15⟩ := blk_all hSw; go_simp; (try with_reducible rfl); done)))
        (refine wpAnyH_take (i := 2) (v := ?_) rfl (by kernel_rfl) (by decide +kernel) (by decide +kernel) (fun _ _ _ h => h) (Or.inl ⟨by rfl, ?_⟩) (by assumption) ?_; rotate_left; (focus (intro w0 hSw; obtain ⟨e0, e1, e2, e3, e4, e5, e6, e7, e8, e9, e10, e11, e12, e13, e14, e15⟩ := blk_all hSw; go_simp; (try with_reducible rfl); done)))
        try simp only [List.getElem_toArray, List.getElem_cons_zero, List.getElem_cons_succ, Act.put, List.setIfInBounds_toArray, List.set_cons_zero, List.set_cons_succ]
        refine wpAnyH_ready (rs := [1]) (by decide +kernel) (by simp) (AllReadyH.cons rfl (fun K hK => ?_) AllReadyH.nil)
        go_simp
        refine (rnew_any 0 _).mono ?_
        rintro e w1 ⟨X, owx, rfl, hrh, hfr, hb⟩
        have S1 := Lib.hid (S0.out.low hb)
        have hs1 := hs0.low hb
        have HDR := Lib.hid (dr_new S0.out.ph hrh hfr)
        have HBW1 := Lib.hid (HBW0.out.trans (hb.mono HBW0.out.size))
        clear hrh hfr hb hs0 S0 HBW0
        refine hK.out _ _ hs1 (fun hHeld1 => ?_)
        clear hK K hHeld0 c0 c1 c2 c3 c4 c5 c6 c7 c8 c9 c10 c11 c12 c13 c14 c15 
        try simp only [List.getElem_toArray, List.getElem_cons_zero, List.getElem_cons_succ, Act.put, List.setIfInBounds_toArray, List.set_cons_zero, List.set_cons_succ]
        refine wpAnyH_ready (rs := [3]) (by decide +kernel) (by simp) (AllReadyH.cons rfl (fun K hK => ?_) AllReadyH.nil)
        have HDO := do_any S1.out.ph (gd_runs (gd_new m) HSM.out k) HDR.out o HSO.out.so (HVL.out.fr ((S1.out.bel.block _ HBK.out).trans (HS.out.bel.block _ HBK.out).symm)) ⟨Nat.lt_of_lt_of_le HBK.out S1.out.bel.size, S1.out.off HBK.out⟩ (HT.out.below S1.out.bel) (S1.out.off HT.out.lt) HSO.out.l
        simp only [opV] at HDO
        go_simp
        refine HDO.mono ?_
        intro e w2 hdo
        obtain ⟨c, rfl, ow2, L2, hs2, hkp⟩ := S1.out.done hdo
        have HKP := Lib.hid hkp
        have HS2 := Lib.hid hs2
        have hsb : Blk w2 wr.heap.size 34 (opC o (.slice zA o.l.length zc)) := hs1.fr (hkp _ hs1.lt HWB.out).2
        clear hs2 hkp HDO hdo hs1 S1 HDR
        refine hK.out _ _ hsb (fun hHeld2 => ?_)
        clear hK K hHeld1 
        try simp only [List.getElem_toArray, List.getElem_cons_zero, List.getElem_cons_succ, Act.put, List.setIfInBounds_toArray, List.set_cons_zero, List.set_cons_succ]
        refine wpAnyH_done (by kernel_rfl) ?_ _
        clear hHeld2 hsb
        go_wp2_with fail
        go_roundw
        case rel => exact ⟨k + 1, hlt, by go_num, ow2, L2, by rw [run_next HO.out]; exact HS2.out⟩
        case measure => simp [intOf]; omega
      · obtain rfl : k = l.length := by omega
        obtain ⟨owr, Lr, hs⟩ := HSE.out
        have HS := Lib.hid hs
        clear hs HSE
        go_wp2_with fail
        go_ret
        exact .inr ⟨h3, b, owr, Lr, rfl, by have := HS.out; rw [List.take_length] at this; exact this⟩
end Go.Proofs.YtcahijpbkjplmaaGreatDoor.G
