/-
  The reader's list, by contract.
-/
import Derived.Test.YtnkknlhdbhfjlaaRa
import Derived.Test.YtnkknlhdbhfjlaaAc
namespace Go.Proofs.Ytnkknlhdbhfjlaa
open Go.RowKit

section
variable {B : Nat}
/-- what a call that takes a value off leaves -/
def Post (B R : Nat) (l : Bs) (w : World) : Dec → Ending → World → Prop
  | .bad q, e, w' => e = pan q ∧ Kp R w w'
  | .good v n, e, w' => ∃ y : X, e = .returned y.v ∧ IsP w' (fun g => w.heap.size ≤ g ∧ g < w'.heap.size) v y ∧ Rd w' B R (l.drop n) ∧ Kp R w w'
/-- value, where so many may still be nested -/
def AtV (d : Nat) : Prop := ∀ (B R : Nat) (l : Bs) (w : World) (within : Nat), Rd w B R l → B ≤ w.heap.size → within + d = 20 → Calls Try.prog 22 #[.pointer (some ⟨R, 0, none⟩), .int .i64 within] w (Post B R l w (dec d l))
theorem Kp.block {R : Nat} {w w' : World} (h : Kp R w w') {k : Nat} (h1 : k < w.heap.size) (h2 : k ≠ R) : w'.heap[k]? = w.heap[k]? := Fr.block h k ⟨h1, h2⟩
theorem Kp.size {R : Nat} {w w' : World} (h : Kp R w w') : w.heap.size ≤ w'.heap.size := Fr.size h
theorem below2d (w : World) (a b : Obj) : Below w.heap.size w ((w.alloc a).alloc b) := (below_alloc w _).trans ((below_alloc _ _).mono (by simp))
theorem heap2d_at (w : World) (a b : Obj) : ((w.alloc a).alloc b).heap[w.heap.size + 1]? = some b := by
  show ((w.heap.push a).push b)[w.heap.size + 1]? = some b
  rw [Array.getElem?_push, if_pos (by simp)]
theorem two_data (w : World) (k : Int) : ((w.alloc (.cells #[.int .i64 0, .int .i64 0, .string ⟨#[]⟩, .slice none 0 0, .slice none 0 0] 25)).alloc (.cells #[.int .i64 k, .int .i64 0, .string ⟨#[]⟩, .slice none 0 0, .slice none 0 0] 25)).heap[w.heap.size]? = some zrow := by
  rw [Below.heap_alloc _ _ _ (by simp)]
  exact hp_new rfl

set_option maxRecDepth 8000 in
set_option maxHeartbeats 2000000 in
theorem list_bad0 (R q : Nat) (l : Bs) (w : World) (within : Nat) (h : Rd w B R l) (hr : O.rd 0 0 l = (0, 0, q)) (hq : q = 20 ∨ q = 22) :
    Calls Try.prog 39 #[.pointer (some ⟨R, 0, none⟩), .int .i64 within] w fun e w' => e = pan q ∧ Kp R w w' := by
  have HN := Lib.hid fun w' (hb : Below w.heap.size w w') => num_bad R q l w' (h.below hb) hr hq
  clear h hr hq
  go_enter Try.func39, Try.ntmps39
  go_wp2_with fail
  refine (HN.out _ (below2d _ _ _)).mono ?_
  rintro e w1 ⟨rfl, hk⟩
  go_wp2_with fail
  exact ⟨rfl, rfl, Kp.trans (Kp.of (below2d _ _ _)) hk⟩
theorem right_good {d : Nat} {b : Bs} {v : V} {n : Nat} (h : dec d b = .good v n) : 1 ≤ n ∧ n ≤ b.length := by
  have := dec_right d b
  rw [h] at this
  exact ⟨this.1, this.2.1⟩
theorem decMany_5_bad {f : Bs → Dec} {b : Bs} {c m q : Nat} {l : List V} (h : f (b.drop m) = .bad q) : decMany f 5 b (c + 1) m [] l = .bad q := by
  rw [decMany, if_neg (by decide), h]
theorem decMany_5_good {f : Bs → Dec} {b : Bs} {c m n : Nat} {v : V} {l : List V} (h : f (b.drop m) = .good v n) : decMany f 5 b (c + 1) m [] l = decMany f 5 b c (m + n) [] (l ++ [v]) := by
  rw [decMany, if_neg (by decide), h]

theorem u64_step {j n : Nat} (h : j < n) (hn : n < 18446744073709551616) : IntKind.u64.wrap ((j : Int) + 1) = (j : Int) + 1 := by
  rw [IntKind.wrap_u64]
  omega
theorem Acc.kp {w w1 wr : World} {M : Nat → Prop} {nu R : Nat} {k : Int} {ks : List ByteArray} {l : List V} {kA lA : Option Addr} {kC lC : Nat} {ys : List X} (h : Acc w1 M nu k ks l wr kA kC lA lC ys) (hk : Kp R w w1) (hM : ∀ g, M g → g = R ∨ w.heap.size ≤ g) : Kp R w wr :=
  Fr.trans hk (h.fr.mono fun g hg => ⟨Nat.lt_of_lt_of_le hg.1 hk.size, fun hm => by
    rcases hM g hm with e | e
    · exact hg.2 e
    · have := hg.1
      omega⟩)

set_option maxRecDepth 8000 in
set_option maxHeartbeats 4000000 in
theorem list_any (d : Nat) (ih : AtV d) (R : Nat) (l : Bs) (w : World) (within : Nat) (h : Rd w B R l) (hB : B ≤ w.heap.size) (hw : within + (d + 1) = 20) :
    Calls Try.prog 39 #[.pointer (some ⟨R, 0, none⟩), .int .i64 within] w (Post B R l w (decAll (dec d) 5 l)) := by
  obtain ⟨i5, hi5, hz5, hs5, hb5⟩ := info_parts infoData
  by_cases he : (O.rd 0 0 l).2.2 = 0
  · obtain ⟨n, k0, hr⟩ : ∃ n k0, O.rd 0 0 l = (n, k0, 0) := ⟨_, _, Prod.ext rfl (Prod.ext rfl he)⟩
    have hD : decAll (dec d) 5 l = decMany (dec d) 5 l n k0 [] [] := by
      unfold decAll
      rw [hr, if_neg (by simp)]
    obtain ⟨_, hk1, hk2, hn64⟩ := rd_take hr
    have hRw := h.lt
    have hle := h.le
    have HN := Lib.hid fun w' (hb : Below w.heap.size w w') => num_good R n k0 l w' (h.below hb) hr
    rw [hD]
    have e1 : IntKind.i64.wrap ((within : Int) + 1) = (within : Int) + 1 := IntWalk.i64_in _ (by omega)
    have HIH : Hid (∀ w' m, Rd w' B R (l.drop m) → B ≤ w'.heap.size → Calls Try.prog 22 #[.pointer (some ⟨R, 0, none⟩), .int .i64 ((within : Int) + 1)] w' (Post B R (l.drop m) w' (dec d (l.drop m)))) := fun w' m h' hB' => by
      have := ih B R (l.drop m) w' (within + 1) h' hB' (by omega)
      rw [show ((within + 1 : Nat) : Int) = (within : Int) + 1 by omega] at this
      exact this
    clear h he hr hD ih
    go_enter Try.func39, Try.ntmps39
    go_wp2_with fail
    refine (HN.out _ (below2d _ _ _)).mono ?_
    rintro e w1 ⟨rfl, hrd, hk⟩
    have HK0 := Lib.hid (Kp.trans (Kp.of (R := R) (below2d w (.cells #[.int .i64 0, .int .i64 0, .string ⟨#[]⟩, .slice none 0 0, .slice none 0 0] 25) (.cells #[.int .i64 5, .int .i64 0, .string ⟨#[]⟩, .slice none 0 0, .slice none 0 0] 25))) hk)
    have HNU : Hid (w1.heap[w.heap.size + 1]? = some (.cells #[.int .i64 5, .int .i64 0, .string ⟨#[]⟩, .slice none 0 0, .slice none 0 0] 25 (0, 0))) := (hk.block (by simp) (by omega)).trans (heap2d_at _ _ _)
    have HRO : Hid (w1.heap[w.heap.size]? = some zrow) := (hk.block (by simp; omega) (by omega)).trans (two_data _ _)
    have HRD := Lib.hid hrd
    have HZ1 : Hid (w.heap.size + 2 ≤ w1.heap.size) := by have := hk.size; simp at this; exact Lib.hid (by omega)
    have HAC : Hid (Acc w1 (fun g => g = R ∨ g = w.heap.size + 1) (w.heap.size + 1) 5 [] [] w1 none 0 none 0 []) := Acc.start (.inr rfl) HNU.out
    clear hk hrd HN
    go_wp2_with fail
    go_loopw [9] (fun i wr => ∃ j m : Nat, ∃ vs : List V, j ≤ n ∧ i = .int .u64 j ∧ vs.length ≤ m ∧ m ≤ l.length ∧ Hid (decMany (dec d) 5 l n k0 [] [] = decMany (dec d) 5 l (n - j) m [] vs) ∧ Hid (Rd wr B R (l.drop m)) ∧ ∃ lA lC ys, Hid (Acc w1 (fun g => g = R ∨ g = w.heap.size + 1) (w.heap.size + 1) 5 [] vs wr none 0 lA lC ys))
      (fun i _ => n - (intOf i).toNat)
    case atStart => exact ⟨0, k0, [], Nat.zero_le _, rfl, Nat.zero_le _, hk2, rfl, HRD, none, 0, [], HAC⟩
    case round =>
      obtain ⟨j, m, vs, hj, rfl, hvm, hml, hdm, hrd, lA, lC, ys, hac⟩ := hrel
      have HKR : Hid (Kp R w wr) := hac.out.kp HK0.out fun g hg => by
        rcases hg with e | e
        · exact .inl e
        · exact .inr (by omega)
      by_cases hlt : j < n
      · obtain ⟨c, hc⟩ : ∃ c, n - j = c + 1 := ⟨n - j - 1, by omega⟩
        have hc2 : c = n - (j + 1) := by omega
        have hju := u64_step hlt hn64
        have hbw : B ≤ wr.drew.heap.size := Nat.le_trans hB HKR.out.size
        have hcell := hac.out.cells
        simp only [List.length_nil] at hcell
        obtain ⟨s0, s1, s2, s3, s4, sf⟩ := hcell
        have sf4 := sf 4
        have HV : Hid (Calls Try.prog 22 #[.pointer (some ⟨R, 0, none⟩), .int .i64 ((within : Int) + 1)] wr.drew fun e w' =>
            (∃ q, e = pan q ∧ dec d (l.drop m) = .bad q ∧ Kp R wr w') ∨ ∃ (v : V) (nn : Nat) (y : X), e = .returned y.v ∧ dec d (l.drop m) = .good v nn ∧ IsP w' (fun g => wr.heap.size ≤ g ∧ g < w'.heap.size) v y ∧ Rd w' B R (l.drop (m + nn)) ∧ Kp R wr w') := by
          have := HIH.out wr.drew m (hrd.out.below (Below.refl _ _).drew) hbw
          refine Lib.hid (this.mono fun e w' h => ?_)
          cases hx : dec d (l.drop m) with
          | bad q =>
            rw [hx] at h
            exact .inl ⟨q, h.1, rfl, (Kp.of (Below.refl _ _).drew).trans h.2⟩
          | good v nn =>
            rw [hx] at h
            obtain ⟨y, h1, h2, h3, h4⟩ := h
            rw [List.drop_drop] at h3
            exact .inr ⟨v, nn, y, h1, rfl, h2, h3, (Kp.of (Below.refl _ _).drew).trans h4⟩
        have HPB : Hid (∀ q w2, dec d (l.drop m) = .bad q → Kp R wr w2 → Post B R l w (decMany (dec d) 5 l n k0 [] []) (pan q) w2) := fun q w2 hx hk => by
          rw [hdm.out, hc, decMany_5_bad hx]
          exact ⟨rfl, HKR.out.trans hk⟩
        have hvl : vs.length ≤ 4194304 := by omega
        have hwr1 := hac.out.fr.size
        have HRR : Hid (R < w1.heap.size ∧ R ≠ w.heap.size + 1 ∧ w1.heap.size ≤ wr.heap.size) := Lib.hid ⟨by have := HZ1.out; omega, by omega, hwr1⟩
        have HKEEP : Hid (∀ w2, Kp R wr w2 → Acc w1 (fun g => g = R ∨ g = w.heap.size + 1) (w.heap.size + 1) 5 [] vs w2 none 0 lA lC ys) := fun w2 hk => hac.out.keep (N := (· = R)) hk fun g e => ⟨.inl e, by have := HRR.out; omega, by have := HRR.out; omega⟩
        have HOB : Hid (∀ b, (Value.slice lA vs.length lC).ownBlock = some b → w1.heap.size ≤ b ∧ b < wr.heap.size) := fun b hb => hac.out.lown.lt b hb
        have HCL : Hid (∀ w2 w' : World, Kp R wr w2 → (∀ k, k < w2.heap.size → some k ≠ (Value.slice lA vs.length lC).ownBlock → w'.heap[k]? = w2.heap[k]?) → w'.cell? ⟨w.heap.size + 1, 4, none⟩ = some (.slice lA vs.length lC) ∧ w'.frozen? ⟨w.heap.size + 1, 4, none⟩ = false) := fun w2 w' hk hw => by
          have ha := HKEEP.out w2 hk
          have h1 := (hw _ (Array.getElem?_eq_some_iff.1 ha.row).1 (fun e => by have := (HOB.out _ e.symm).1; have := HZ1.out; omega)).trans ha.row
          exact ⟨by rw [cell_of_row w' _ 4 _ _ _ h1]; rfl, by simp [World.frozen?, h1]⟩
        have HST : Hid (∀ (w2 w3 : World) (v : V) (z : X) (g cap : Nat), Kp R wr w2 → IsP w2 (fun g => wr.heap.size ≤ g ∧ g < w2.heap.size) v z → w3.ownsRow w1.heap.size 25 5 (.slice (some ⟨g, 0, none⟩) (vs.length + 1) cap) (vs.length + 1) (flat5 ys ++ z.cells.toList) →
            (w2.alloc (.cells z.cells 25)).grownBy w3 (Value.slice lA vs.length lC).ownBlock → ((Value.slice lA vs.length lC).ownBlock = some g ∨ g = w2.heap.size + 1) →
            Acc w1 (fun g => g = R ∨ g = w.heap.size + 1) (w.heap.size + 1) 5 [] (vs ++ [v]) (w3.setCell ⟨w.heap.size + 1, 4, none⟩ (.slice (some ⟨g, 0, none⟩) (vs.length + 1) cap)) none 0 (some ⟨g, 0, none⟩) cap (ys ++ [z])) := fun w2 w3 v z g cap hk hz h3 hg hat =>
          (HKEEP.out w2 hk).push HRR.out.2.2 (fun b hb => by simp [Value.ownBlock] at hb) (fun b hb => (HOB.out b hb).2) hz h3 hg hat
        have HRW : Hid (∀ (w2 w3 : World) (L : Bs) (u : Value), Rd w2 B R L → Kp R wr w2 → w2.heap.size ≤ w3.heap.size → (∀ k, k < w2.heap.size → some k ≠ (Value.slice lA vs.length lC).ownBlock → w3.heap[k]? = w2.heap[k]?) → w3.os = w2.os ∧ w3.tape = w2.tape ∧ w3.output = w2.output → Rd (w3.setCell ⟨w.heap.size + 1, 4, none⟩ u) B R L) := fun w2 w3 L u hr hk hs hw ho => by
          refine hr.fr (F := fun k => k < w1.heap.size ∧ k ≠ w.heap.size + 1) ⟨ho.1, ho.2.1, ho.2.2, by simpa [World.setCell] using hs, fun k hk2 => ?_⟩ ⟨HRR.out.1, HRR.out.2.1⟩ fun g hg => ⟨by have := HZ1.out; omega, by omega⟩
          rw [Below.heap_setCell _ _ _ _ hk2.2]
          refine hw k (by have := hk.size; have := HRR.out; omega) fun e => ?_
          have := (HOB.out k e.symm).1
          omega
        have HOW := Lib.hid fun w2 (hk : Kp R wr w2) => (HKEEP.out w2 hk).lown
        clear s0 s1 s2 s3 sf hac hrd hwr1 hbw
        go_wp2_with fail
        go_region_law
          ((first
            | (go_simp; go_at_call 22; refine HV.out.mono ?_; rintro e w2 (⟨q, rfl, hx, hkp⟩ | ⟨v, nn, ⟨zk, zn, zs, zka, zkn, zkc, zla, zln, zlc⟩, rfl, hx, hz, hr2, hkp⟩); (exact ⟨rfl, HPB.out _ _ hx hkp⟩); (simp only [X.v]);
               obtain ⟨s42, sf42⟩ := HCL.out w2 w2 hkp (fun _ _ _ => rfl); have s43 : (w2.alloc (.cells #[.int .i64 zk, .int .i64 zn, .string zs, .slice zka zkn zkc, .slice zla zln zlc] 25)).cell? ⟨w.heap.size + 1, 4, none⟩ = some (.slice lA vs.length lC) := old_alloc s42; have HHK := Lib.hid hkp; have HHX := Lib.hid hx; have HHR := Lib.hid hr2; have HZZ := Lib.hid hz; clear hz hr2 hx hkp)
            | (refine step_push5 rfl _ _ (by rfl) i5 hi5 hz5 hs5 hb5 w2 w1.heap.size lA vs.length lC _ (by rfl) (HOW.out _ HHK.out) ?b1 ?b2 w2.heap.size ⟨zk, zn, zs, zka, zkn, zkc, zla, zln, zlc⟩ (by rfl) ?b3 hvl (w2.heap.size + 1) ?b4 _ (fun w' hw => HCL.out w2 w' HHK.out hw) ?_ ?b5; (case b1 => have := HHK.out.size; have := HRR.out; simp; omega); (case b2 => intro k hk; rw [Below.heap_alloc _ _ _ hk]); (case b3 => exact hp_new rfl); (case b4 => simp); (case b5 => simp); rintro g' cap' w3 ⟨f1, f2⟩ hown3 hgrow hat hlt3)))
        all_goals
          have hgd := right_good HHX.out
          have HN := Lib.hid (HST.out _ _ v _ _ _ HHK.out HZZ.out hown3 hgrow hat)
          have HR3 := Lib.hid (HRW.out w2 w3 _ (.slice (some ⟨g', 0, none⟩) (vs.length + 1) cap') HHR.out HHK.out (by have := hgrow.size; simp at this; omega) (fun k hk hne => (hgrow.block k (by simp; omega) hne).trans (Below.heap_alloc _ _ _ hk)) ⟨hgrow.os, hgrow.tape, hgrow.output⟩)
          have HDM : Hid (decMany (dec d) 5 l n k0 [] [] = decMany (dec d) 5 l (n - (j + 1)) (m + nn) [] (vs ++ [v])) := by
            rw [hdm.out, hc, decMany_5_good HHX.out, hc2]
            exact Lib.hid rfl
          rw [List.length_drop] at hgd
          clear hown3 hgrow hat hlt3 f1 f2 HST HRW HOW HCL HKEEP HHK HZZ HHR HHX s42 s43 sf42 s4 sf4 HV HPB hdm
          generalize w3.setCell ⟨w.heap.size + 1, 4, none⟩ (.slice (some ⟨g', 0, none⟩) (vs.length + 1) cap') = w4 at *
          go_wp2_with fail
          go_roundw
          case rel => exact ⟨j + 1, m + nn, vs ++ [v], by omega, by go_num, by simp; omega, by omega, HDM, HR3, _, _, _, HN⟩
          case measure => simp [intOf]; omega
      · obtain rfl : j = n := by omega
        have HDM : Hid (decMany (dec d) 5 l j k0 [] [] = .good (.mk 5 0 ⟨#[]⟩ [] vs) m) := by
          rw [hdm.out, Nat.sub_self]
          exact Lib.hid rfl
        have hcell := hac.out.cells
        simp only [List.length_nil] at hcell
        obtain ⟨s0, s1, s2, s3, s4, -⟩ := hcell
        have hzr : wr.heap[w.heap.size]? = some zrow := (hac.out.fr.block _ ⟨by have := HZ1.out; omega, fun e => by rcases e with e | e <;> omega⟩).trans HRO.out
        obtain ⟨t0, t1, t2, t3, t4, t5⟩ := zrow_cells hzr
        have f0 := t5 0
        have f1 := t5 1
        have f2 := t5 2
        have f3 := t5 3
        have f4 := t5 4
        have HDN := Lib.hid hac.out.done
        have hzr' := Lib.hid hzr
        have HS1 := Lib.hid hac.out.fr.size
        clear t5 hzr hac hdm
        go_wp2_with fail
        have hfr := put5_fr wr w.heap.size 0 ⟨5, 0, ⟨#[]⟩, none, 0, 0, lA, vs.length, lC⟩
        have hrow : (put5 wr w.heap.size 0 ⟨5, 0, ⟨#[]⟩, none, 0, 0, lA, vs.length, lC⟩).heap[w.heap.size]? = some (.cells #[.int .i64 5, .int .i64 0, .string ⟨#[]⟩, .slice none 0 0, .slice lA vs.length lC] 25 (0, 0)) := put5_row hzr'.out _
        rw [← put5_lit]
        refine bodyPost_ret (results_cell_row rfl _ _ w.heap.size 25 _ (0, 0) _ rfl hrow Try.underlying25 rfl (by rw [hi5]; simp [hs5])) rfl ?_
        rw [HDM.out]
        refine ⟨⟨5, 0, ⟨#[]⟩, none, 0, 0, lA, vs.length, lC⟩, rfl, IsP.fr (hfr.mono fun q hq => by have := HZ1.out; show q ≠ w.heap.size; omega) (fun q hq => ⟨by have := HZ1.out; omega, Nat.lt_of_lt_of_le hq.2 hfr.size⟩) _ _ HDN.out, hrd.out.fr hfr (by show R ≠ w.heap.size; omega) (fun g hg => by show g ≠ w.heap.size; omega), Fr.trans HKR.out (hfr.mono fun q hq => by have := hq.1; show q ≠ w.heap.size; omega)⟩
  · have hbad := rd_bad0 he
    have hr : O.rd 0 0 l = (0, 0, (O.rd 0 0 l).2.2) := Prod.ext hbad.1 (Prod.ext hbad.2 rfl)
    have hD : decAll (dec d) 5 l = .bad (O.rd 0 0 l).2.2 := by
      unfold decAll
      rw [if_pos he]
    rw [hD]
    exact list_bad0 R _ l w within h hr ((rd_err l).resolve_left he)
end
end Go.Proofs.Ytnkknlhdbhfjlaa
