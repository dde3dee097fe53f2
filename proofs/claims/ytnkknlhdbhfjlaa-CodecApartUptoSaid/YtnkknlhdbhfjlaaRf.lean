/-
  Read and Decode, by contract.
-/
import Derived.Test.YtnkknlhdbhfjlaaRe
namespace Go.Proofs.Ytnkknlhdbhfjlaa
open Go.RowKit

set_option maxRecDepth 8000 in
set_option maxHeartbeats 2000000 in
theorem read_good (A : Option Addr) (l : Bs) (c n : Nat) (v : V) (w : World) (hB : O.Byt w A l) (hl : l.length ≤ 4194304) (hlc : l.length ≤ c) (hx : dec 20 l = .good v n) :
    Calls Try.prog 13 #[.slice A l.length c] w (PostR w (.good v n)) := by
  obtain ⟨i5, hi5, hz5, hs5, hb5⟩ := info_parts infoData
  have hmf : ∀ (fn : Fn) (first cap : Array Value) (w : World), (Instr.makeFunc fn first cap).run Try.prog w = .ok (.func fn first cap) w := fun _ _ _ _ => rfl
  have hn := right_good hx
  have HV : Hid (∀ w3, Below w.heap.size w w3 → w3.heap[w.heap.size + 2]? = some (.cells #[.slice A l.length c] 44 (0, 0)) → Calls Try.prog 22 #[.pointer (some ⟨w.heap.size + 2, 0, none⟩), .int .i64 0] w3 (Post w.heap.size (w.heap.size + 2) l w3 (.good v n))) := fun w3 hb hr => by
    have := value_any 20 w.heap.size (w.heap.size + 2) l w3 0 (rd_new hB hl hlc hb hr) hb.size rfl
    rw [hx] at this
    exact this
  have hsub : IntKind.i64.wrap ((l.length : Int) - ((l.drop n).length : Int)) = (n : Int) := by
    rw [List.length_drop]
    rw [show (l.length : Int) - ((l.length - n : Nat) : Int) = (n : Int) by omega]
    exact IntWalk.i64_in _ (by omega)
  clear hB hlc hx
  go_enter_defers Try.func13, Try.ntmps13
  go_wp2_with fail
  refine (HV.out _ (below3d _ _ _ _) (heap3_at _ _ _ _)).mono ?_
  rintro e w4 ⟨⟨zk, zn, zs, zka, zkn, zkc, zla, zln, zlc⟩, rfl, hy, hrd, hk⟩
  have hb4 := kp_below (below3d w _ _ _) hk (by omega)
  have hr4 : w4.heap[w.heap.size]? = some zrow := (hk.block (k := w.heap.size) (by simp; omega) (by omega)).trans (heap3_0 w _ _ _)
  have he4 := (hk.block (k := w.heap.size + 1) (by simp) (by omega)).trans (heap3_1 w _ _ _)
  have hz4 := hk.size
  simp at hz4
  obtain ⟨t0, t1, t2, t3, t4, t5⟩ := zrow_cells hr4
  have f0 := t5 0
  have f1 := t5 1
  have f2 := t5 2
  have f3 := t5 3
  have f4 := t5 4
  have HR4 := Lib.hid hr4
  have HE4 := Lib.hid he4
  have HY := Lib.hid (IsP.fr (P' := fun g => w.heap.size + 3 ≤ g ∧ g < w4.heap.size) (Fr.refl _ _) (fun q hq => ⟨by have := hq.1; simp at this; omega, hq.2⟩) _ _ hy)
  have HB4 := Lib.hid hb4
  have HRD := Lib.hid hrd
  simp only [X.v]
  clear t5 HV hk hr4 he4 hy hb4 hrd
  go_wp2_with fail
  rw [← put5_lit]
  have hfr := put5_fr w4 w.heap.size 0 ⟨zk, zn, zs, zka, zkn, zkc, zla, zln, zlc⟩
  have hr5 := put5_row (y := ⟨zk, zn, zs, zka, zkn, zkc, zla, zln, zlc⟩) HR4.out
  have he5 := (hfr.block (w.heap.size + 1) (by show w.heap.size + 1 ≠ w.heap.size; omega)).trans HE4.out
  obtain ⟨A', c', hc5, -, -, -, -⟩ := (HRD.out.fr hfr (by show w.heap.size + 2 ≠ w.heap.size; omega) (fun g hg => by show g ≠ w.heap.size; omega)).cells
  have HY5 := Lib.hid (IsP.fr (P' := fun g => w.heap.size ≤ g ∧ g < (put5 w4 w.heap.size 0 ⟨zk, zn, zs, zka, zkn, zkc, zla, zln, zlc⟩).heap.size ∧ g ≠ w.heap.size ∧ g ≠ w.heap.size + 1) (hfr.mono fun q hq => by show q ≠ w.heap.size; omega) (fun q hq => ⟨by omega, Nat.lt_of_lt_of_le hq.2 hfr.size, by omega, by omega⟩) _ _ HY.out)
  have HB5 := Lib.hid (HB4.out.trans (hfr.mono fun q (hq : q < w.heap.size) => by show q ≠ w.heap.size; omega).below)
  have HR5 := Lib.hid hr5
  have HE5 := Lib.hid he5
  have c0 : (put5 w4 w.heap.size 0 ⟨zk, zn, zs, zka, zkn, zkc, zla, zln, zlc⟩).cell? ⟨w.heap.size, 0, none⟩ = some (.int .i64 zk) := by rw [cell_of_row _ _ 0 _ _ _ hr5]; rfl
  have c1 : (put5 w4 w.heap.size 0 ⟨zk, zn, zs, zka, zkn, zkc, zla, zln, zlc⟩).cell? ⟨w.heap.size, 1, none⟩ = some (.int .i64 zn) := by rw [cell_of_row _ _ 1 _ _ _ hr5]; rfl
  have c2 : (put5 w4 w.heap.size 0 ⟨zk, zn, zs, zka, zkn, zkc, zla, zln, zlc⟩).cell? ⟨w.heap.size, 2, none⟩ = some (.string zs) := by rw [cell_of_row _ _ 2 _ _ _ hr5]; rfl
  have c3 : (put5 w4 w.heap.size 0 ⟨zk, zn, zs, zka, zkn, zkc, zla, zln, zlc⟩).cell? ⟨w.heap.size, 3, none⟩ = some (.slice zka zkn zkc) := by rw [cell_of_row _ _ 3 _ _ _ hr5]; rfl
  have c4 : (put5 w4 w.heap.size 0 ⟨zk, zn, zs, zka, zkn, zkc, zla, zln, zlc⟩).cell? ⟨w.heap.size, 4, none⟩ = some (.slice zla zln zlc) := by rw [cell_of_row _ _ 4 _ _ _ hr5]; rfl
  have g0 : ∀ o, (put5 w4 w.heap.size 0 ⟨zk, zn, zs, zka, zkn, zkc, zla, zln, zlc⟩).frozen? ⟨w.heap.size, o, none⟩ = false := fun o => by simp [World.frozen?, hr5]
  have g1 := g0 1
  have g2 := g0 2
  have g3 := g0 3
  have g4 := g0 4
  have g0 := g0 0
  have e0 : (put5 w4 w.heap.size 0 ⟨zk, zn, zs, zka, zkn, zkc, zla, zln, zlc⟩).cell? ⟨w.heap.size + 1, 0, none⟩ = some (.int .i64 0) := by rw [cell_of_row _ _ 0 _ _ _ he5]; rfl
  have e1 : (put5 w4 w.heap.size 0 ⟨zk, zn, zs, zka, zkn, zkc, zla, zln, zlc⟩).frozen? ⟨w.heap.size + 1, 0, none⟩ = false := by simp [World.frozen?, he5]
  clear t0 t1 t2 t3 t4 f0 f1 f2 f3 f4 hfr hr5 he5 HR4 HE4 HY HB4 HRD hz4
  generalize put5 w4 w.heap.size 0 ⟨zk, zn, zs, zka, zkn, zkc, zla, zln, zlc⟩ = w5 at *
  generalize (l.drop n).length = L2 at *
  go_region
  rw [← put5_lit]
  have hfr6 := put5_fr w5 w.heap.size 0 ⟨zk, zn, zs, zka, zkn, zkc, zla, zln, zlc⟩
  have hr6 := put5_row (y := ⟨zk, zn, zs, zka, zkn, zkc, zla, zln, zlc⟩) HR5.out
  have he6 := (hfr6.block (w.heap.size + 1) (by show w.heap.size + 1 ≠ w.heap.size; omega)).trans HE5.out
  generalize put5 w5 w.heap.size 0 ⟨zk, zn, zs, zka, zkn, zkc, zla, zln, zlc⟩ = w6 at *
  have hset := Below.heap_setCell w6 ⟨w.heap.size + 1, 0, none⟩ (.int .i64 0)
  have HR7 := Lib.hid ((hset w.heap.size (by simp)).trans hr6)
  have HE7 := Lib.hid (hp_row_set (i := 0) he6 (.int .i64 0))
  have HFR7 : Hid (Fr (fun k => k ≠ w.heap.size ∧ k ≠ w.heap.size + 1) w5 (w6.setCell ⟨w.heap.size + 1, 0, none⟩ (.int .i64 0))) := Lib.hid ((hfr6.mono fun k hk => hk.1).trans ((Fr.refl _ w6).setCell (fun hk => hk.2 rfl) _))
  clear hset hr6 he6 hfr6 c0 c1 c2 c3 c4 g0 g1 g2 g3 g4 e0 e1 hc5
  generalize w6.setCell ⟨w.heap.size + 1, 0, none⟩ (.int .i64 0) = w7 at *
  go_wp2_with fail
  refine leaves_cons (f := 21) (args := #[.pointer (some ⟨w.heap.size + 1, 0, none⟩)]) (by simp) (by simp [go_sem]) ?_
  refine (catch_idle ⟨w.heap.size + 1, 0, none⟩ _).mono ?_
  rintro e u' w8 ⟨rfl, rfl, rfl⟩
  have hr7 : w7.drew.heap[w.heap.size]? = some (.cells #[.int .i64 zk, .int .i64 zn, .string zs, .slice zka zkn zkc, .slice zla zln zlc] 25 (0, 0)) := HR7.out
  refine ⟨_, res_ctc rfl _ _ w.heap.size 25 _ (0, 0) _ rfl hr7 Try.underlying25 rfl (by rw [hi5]; simp [hs5]) ⟨w.heap.size + 1, 0, none⟩ (.int .i64 0) rfl ?_, ?_⟩
  rotate_left
  · exact ⟨⟨zk, zn, zs, zka, zkn, zkc, zla, zln, zlc⟩, rfl, IsP.fr (HFR7.out.drew.mono fun q hq => ⟨hq.2.2.1, hq.2.2.2⟩) (fun q hq => ⟨hq.1, Nat.lt_of_lt_of_le hq.2.1 HFR7.out.size⟩) _ _ HY5.out, HB5.out.trans (HFR7.out.drew.mono fun q (hq : q < w.heap.size) => ⟨by omega, by omega⟩).below⟩
  · refine load_errno _ _ _ ?_
    have he7 : w7.drew.heap[w.heap.size + 1]? = _ := HE7.out
    rw [cell_of_row _ _ 0 _ _ _ he7]
    rfl
theorem read_any (A : Option Addr) (l : Bs) (c : Nat) (w : World) (hB : O.Byt w A l) (hl : l.length ≤ 4194304) (hlc : l.length ≤ c) : Calls Try.prog 13 #[.slice A l.length c] w (PostR w (dec 20 l)) := by
  cases hx : dec 20 l with
  | bad q => exact read_bad A l c q w hB hl hlc hx
  | good v n => exact read_good A l c n v w hB hl hlc hx

/-- what Decode answers: a value, an error -/
def decO (l : Bs) : V × Int := match dec 20 l with
  | .bad q => (.mk 0 0 ⟨#[]⟩ [] [], q)
  | .good v n => if n < l.length then (.mk 0 0 ⟨#[]⟩ [] [], 22) else (v, 0)
def PostD (w : World) (l : Bs) (e : Ending) (w' : World) : Prop := ∃ y : X, e = .returned (.tuple #[y.v, .int .i64 (decO l).2]) ∧ IsP w' (fun g => w.heap.size ≤ g ∧ g < w'.heap.size) (decO l).1 y ∧ Below w.heap.size w w'
/-- the zero struct in a block of the call's own, and what keeps it -/
theorem z_cells {w w' : World} {g : Nat} (h : w.heap[g]? = some zrow) (hb : Below (g + 1) w w') : w'.heap[g]? = some zrow := (hb.block g (by omega)).trans h

set_option maxRecDepth 8000 in
set_option maxHeartbeats 1000000 in
theorem decode_any (A : Option Addr) (l : Bs) (c : Nat) (w : World) (hB : O.Byt w A l) (hl : l.length ≤ 4194304) (hlc : l.length ≤ c) : Calls Try.prog 15 #[.slice A l.length c] w (PostD w l) := by
  obtain ⟨i5, hi5, hz5, hs5, hb5⟩ := info_parts infoData
  have HR := Lib.hid fun w' (hb : Below w.heap.size w w') => read_any A l c w' (hB.below hb) hl hlc
  cases hx : dec 20 l with
  | bad q =>
    have hq := dec_right 20 l
    rw [hx] at hq HR
    have HO : Hid (decO l = (.mk 0 0 ⟨#[]⟩ [] [], (q : Int))) := by
      unfold decO
      rw [hx]
      exact Lib.hid rfl
    have hq0 : ((q : Int) != 0) = true := by
      have : q = 20 ∨ q = 22 ∨ q = 31 := hq
      simp
      omega
    clear hB hx hq
    go_enter Try.func15, Try.ntmps15
    go_wp2_with fail
    refine (HR.out _ (below_alloc _ _)).mono ?_
    rintro e w1 ⟨rfl, hb⟩
    have hz1 := hb.size
    simp at hz1
    have hzr : (w1.alloc (.cells #[.int .i64 0, .int .i64 0, .string ⟨#[]⟩, .slice none 0 0, .slice none 0 0] 25)).heap[w.heap.size]? = some zrow := (Below.heap_alloc _ _ _ (by omega)).trans ((hb.block _ (by simp)).trans (hp_new rfl))
    obtain ⟨t0, t1, t2, t3, t4, t5⟩ := zrow_cells hzr
    have f0 := t5 0
    have f1 := t5 1
    have f2 := t5 2
    have f3 := t5 3
    have f4 := t5 4
    have hne : ¬ w.heap.size = w1.heap.size := by omega
    have HB := Lib.hid ((below_alloc w (.cells #[.int .i64 0, .int .i64 0, .string ⟨#[]⟩, .slice none 0 0, .slice none 0 0] 25)).trans (hb.mono (by simp)))
    have HZ := Lib.hid hzr
    clear t5 hb hzr HR
    go_wp2_with fail
    rw [← put5_lit]
    refine bodyPost_ret (res_ct rfl _ _ w.heap.size 25 _ (0, 0) _ rfl (put5_row HZ.out _) Try.underlying25 rfl (by rw [hi5]; simp [hs5, X.cells])) rfl ?_
    refine ⟨⟨0, 0, ⟨#[]⟩, none, 0, 0, none, 0, 0⟩, by rw [HO.out]; rfl, by rw [HO.out]; exact isP_plain _ _ _ _ _, ?_⟩
    exact (HB.out.trans ((below_alloc _ _).mono (by omega))).trans ((put5_fr _ _ _ _).mono fun q (hq : q < w.heap.size) => by show q ≠ w.heap.size; omega).below
  | good v n =>
    have hn := right_good hx
    rw [hx] at HR
    by_cases hnl : n < l.length
    · have HO : Hid (decO l = (.mk 0 0 ⟨#[]⟩ [] [], 22)) := by
        unfold decO
        rw [hx]
        simp only
        rw [if_pos hnl]
        exact Lib.hid rfl
      clear hB hx hn
      go_enter Try.func15, Try.ntmps15
      go_wp2_with fail
      refine (HR.out _ (below_alloc _ _)).mono ?_
      rintro e w1 ⟨⟨zk, zn, zs, zka, zkn, zkc, zla, zln, zlc⟩, rfl, hy, hb⟩
      have hz1 := hb.size
      simp at hz1
      have hzr : (w1.alloc (.cells #[.int .i64 zk, .int .i64 zn, .string zs, .slice zka zkn zkc, .slice zla zln zlc] 25)).heap[w.heap.size]? = some zrow := (Below.heap_alloc _ _ _ (by omega)).trans ((hb.block _ (by simp)).trans (hp_new rfl))
      obtain ⟨t0, t1, t2, t3, t4, t5⟩ := zrow_cells hzr
      have f0 := t5 0
      have f1 := t5 1
      have f2 := t5 2
      have f3 := t5 3
      have f4 := t5 4
      have hne : ¬ w.heap.size = w1.heap.size := by omega
      have HB := Lib.hid ((below_alloc w (.cells #[.int .i64 0, .int .i64 0, .string ⟨#[]⟩, .slice none 0 0, .slice none 0 0] 25)).trans (hb.mono (by simp)))
      have HZ := Lib.hid hzr
      clear t5 hb hzr HR hy
      simp only [X.v]
      go_wp2_with fail
      rw [← put5_lit]
      refine bodyPost_ret (res_ct rfl _ _ w.heap.size 25 _ (0, 0) _ rfl (put5_row HZ.out _) Try.underlying25 rfl (by rw [hi5]; simp [hs5, X.cells])) rfl ?_
      refine ⟨⟨0, 0, ⟨#[]⟩, none, 0, 0, none, 0, 0⟩, by rw [HO.out]; rfl, by rw [HO.out]; exact isP_plain _ _ _ _ _, ?_⟩
      exact (HB.out.trans ((below_alloc _ _).mono (by omega))).trans ((put5_fr _ _ _ _).mono fun q (hq : q < w.heap.size) => by show q ≠ w.heap.size; omega).below
    · have HO : Hid (decO l = (v, 0)) := by
        unfold decO
        rw [hx]
        simp only
        rw [if_neg hnl]
        exact Lib.hid rfl
      obtain rfl : n = l.length := by omega
      clear hB hx hn hnl
      go_enter Try.func15, Try.ntmps15
      go_wp2_with fail
      refine (HR.out _ (below_alloc _ _)).mono ?_
      rintro e w1 ⟨⟨zk, zn, zs, zka, zkn, zkc, zla, zln, zlc⟩, rfl, hy, hb⟩
      have hz1 := hb.size
      simp at hz1
      have hzr : (w1.alloc (.cells #[.int .i64 zk, .int .i64 zn, .string zs, .slice zka zkn zkc, .slice zla zln zlc] 25)).heap[w.heap.size]? = some zrow := (Below.heap_alloc _ _ _ (by omega)).trans ((hb.block _ (by simp)).trans (hp_new rfl))
      obtain ⟨t0, t1, t2, t3, t4, t5⟩ := zrow_cells hzr
      have f0 := t5 0
      have f1 := t5 1
      have f2 := t5 2
      have f3 := t5 3
      have f4 := t5 4
      have hne : ¬ w.heap.size = w1.heap.size := by omega
      have HB := Lib.hid ((below_alloc w (.cells #[.int .i64 0, .int .i64 0, .string ⟨#[]⟩, .slice none 0 0, .slice none 0 0] 25)).trans (hb.mono (by simp)))
      have HZ := Lib.hid hzr
      have HY := Lib.hid hy
      clear t5 hb hzr HR hy
      simp only [X.v]
      go_wp2_with fail
      rw [← put5_lit]
      have hfr := put5_fr (w1.alloc (.cells #[.int .i64 zk, .int .i64 zn, .string zs, .slice zka zkn zkc, .slice zla zln zlc] 25)) w.heap.size 0 ⟨zk, zn, zs, zka, zkn, zkc, zla, zln, zlc⟩
      refine bodyPost_ret (res_ct rfl _ _ w.heap.size 25 _ (0, 0) _ rfl (put5_row HZ.out _) Try.underlying25 rfl (by rw [hi5]; simp [hs5, X.cells])) rfl ?_
      refine ⟨⟨zk, zn, zs, zka, zkn, zkc, zla, zln, zlc⟩, by rw [HO.out]; rfl, ?_, ?_⟩
      · rw [HO.out]
        refine IsP.fr (hfr.mono fun q hq => ?_) (fun q hq => ⟨?_, Nat.lt_of_lt_of_le hq.2 hfr.size⟩) _ _ (IsP.fr (P' := fun g => w.heap.size + 1 ≤ g ∧ g < (w1.alloc (.cells #[.int .i64 zk, .int .i64 zn, .string zs, .slice zka zkn zkc, .slice zla zln zlc] 25)).heap.size) (Fr.of (below_alloc w1 (.cells #[.int .i64 zk, .int .i64 zn, .string zs, .slice zka zkn zkc, .slice zla zln zlc] 25)) fun q hq => hq.2) (fun q hq => ⟨by have := hq.1; simpa using this, by have := hq.2; simp; omega⟩) _ _ HY.out)
        · have := hq.1
          show q ≠ w.heap.size
          omega
        · have := hq.1
          omega
      · exact (HB.out.trans ((below_alloc _ _).mono (by omega))).trans (hfr.mono fun q (hq : q < w.heap.size) => by show q ≠ w.heap.size; omega).below
end Go.Proofs.Ytnkknlhdbhfjlaa
