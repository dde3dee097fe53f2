/-

-/
import Derived.Test.YtllpgoaanbiodaaGreatDoorMWo
import Derived.Lib.MinMax
set_option maxRecDepth 8000
namespace Go.Proofs.YtllpgoaanbiodaaGreatDoor.R
open Go.RowKit Go.Shelf Go.Proofs.YtllpgoaanbiodaaGreatDoor Go.Proofs.YtllpgoaanbiodaaGreatDoor.T
attribute [local go_sem] Oper.semAt_some
theorem lists_any (x : X) (w : World) :
  Calls Tryz.prog 25 #[x.v] w fun e w' => e = .returned (.func (.func 35) #[] #[.pointer (some ⟨w.heap.size, 0, none⟩)]) ∧ w' = w.alloc (.cells x.cells 25) := by
 obtain ⟨xk, xnm, xn, xs, xka, xkn, xkc, xla, xln, xlc⟩ := x
 simp only [X.v, X.cells]
 go_enter Tryz.func25, Tryz.ntmps25
 go_wp2_with fail
 go_ret
 exact ⟨rfl, rfl⟩
theorem Gx.kept {n0 B M : Nat} (x : El) (A C : World) (h : Gx n0 B M x A) (hk : Kp n0 B A C) : Gx n0 B M x C := by
 obtain ⟨h1, ⟨c, hc, h2⟩, h3, h4⟩ := h
 exact ⟨Nat.le_trans h1 hk.below.size, ⟨c, Nat.le_trans hc hk.below.size, h2.to hk⟩, h3, h4⟩
structure Num (w W : World) (B : Nat) (m : Int) : Prop where
 c : W.cell? ⟨B, 0, none⟩ = some (.int .i64 m)
 f : W.frozen? ⟨B, 0, none⟩ = false
 b : Below w.heap.size w W
theorem Num.low {w A C : World} {n B : Nat} {m : Int} (h : Num w A B m) (hb : Below n A C) (hB : B < n) (hw : w.heap.size ≤ n) : Num w C B m :=
 ⟨(hb.cell (p := ⟨B, 0, none⟩) hB).trans h.c, (hb.frozen (p := ⟨B, 0, none⟩) hB).trans h.f, h.b.trans (hb.mono hw)⟩
theorem Num.set {w W : World} {B : Nat} {m : Int} (h : Num w W B m) (hB : w.heap.size ≤ B) (k : Int) : Num w (W.setCell ⟨B, 0, none⟩ (.int .i64 k)) B k :=
 ⟨World.cell?_setCell_same _ _ _ h.c, by simp [h.f], h.b.setCell (p := ⟨B, 0, none⟩) hB _⟩
theorem three_num (w : World) (x : X) (T : TypeId) : ∃ W0, ((w.alloc (.cells x.cells 25)).alloc (.cells #[.int .i64 0] T)).alloc (.cells x.cells 25) = W0 ∧ W0.heap.size = w.heap.size + 3 ∧ Num w W0 (w.heap.size + 1) 0 ∧ At W0 (w.heap.size + 2) 0 x ∧ At W0 w.heap.size 0 x := by
 obtain ⟨W0, hW0⟩ : ∃ W0, ((w.alloc (.cells x.cells 25)).alloc (.cells #[.int .i64 0] T)).alloc (.cells x.cells 25) = W0 := ⟨_, rfl⟩
 have h1 : W0.heap[w.heap.size + 1]? = some (.cells #[.int .i64 0] T) := by
  rw [← hW0]
  show (((w.heap.push _).push _).push _)[w.heap.size + 1]? = _
  rw [Array.getElem?_push, if_neg (by simp), Array.getElem?_push, if_pos (by simp)]
 have h2 : W0.heap[w.heap.size + 2]? = some (.cells x.cells 25) := by
  rw [← hW0]
  show (((w.heap.push _).push _).push _)[w.heap.size + 2]? = _
  rw [Array.getElem?_push, if_pos (by simp)]
 have h0 : W0.heap[w.heap.size]? = some (.cells x.cells 25) := by
  rw [← hW0]
  show (((w.heap.push _).push _).push _)[w.heap.size]? = _
  rw [Array.getElem?_push, if_neg (by simp; omega), Array.getElem?_push, if_neg (by simp), Array.getElem?_push, if_pos rfl]
 refine ⟨W0, hW0, by rw [← hW0]; simp, ⟨by simp [World.cell?, h1], by simp [World.frozen?, h1], by rw [← hW0]; exact ((below_alloc w _).alloc (by simp) _).alloc (by simp; omega) _⟩, ?_, ?_⟩
 ·constructor <;> simp [World.cell?, h2, X.cells]
 ·constructor <;> simp [World.cell?, h0, X.cells]
theorem deep_any (v : V) (x : X) (w : World) (hx : Is w v x) (hb : v.bulk ≤ 4194304) :
  Calls Tryz.prog 13 #[x.v] w fun e w' => e = .returned (.int .i64 v.deep) ∧ Below w.heap.size w w' := by
 have HL := Lib.hid (lists_any x)
 have HI := Lib.hid hx
 have HT := Lib.hid (three_num w x 3)
 obtain ⟨xk, xnm, xn, xs, xka, xkn, xkc, xla, xln, xlc⟩ := x
 simp only [X.v, X.cells] at HL HT
 clear hx
 refine (callsIn_wide (n := 9)).1 ?_
 refine callsIn_of_wp_marks Tryz.func13 rfl trivial ?_ rfl
 simp only [X.v, Tryz.ntmps13, List.size_toArray, List.length_cons, List.length_nil, Nat.reduceAdd, Nat.reduceSub, Array.replicate_succ, Array.replicate_zero, List.push_toArray, List.append_toArray, List.nil_append, List.cons_append]
 gi_wp2_with fail
 refine ⟨trivial, (callsIn_wide.2 (HL.out _)).mono ?_⟩
 rintro e w1 ⟨rfl, rfl⟩
 gi_wp2_with fail
 obtain ⟨W0, hW0, hz, hnum, hat, -⟩ := HT.out
 rw [hW0]
 have hb0 := hnum.b
 refine range_low rfl (by omega) (gf := 35) (lb := #[.pointer (some ⟨w.heap.size + 2, 0, none⟩)]) rfl trivial (enters_of Tryz.func35 (by kernel_rfl) rfl)
  (lists_seq Fence.wide 8 trivial rfl (by omega) (w.heap.size + 2) w.heap.size (w.heap.size + 1) v _ W0 (by omega) (by omega) (by omega) (IsB.to hb0 (Nat.le_refl _) _ _ HI.out) hat hb)
  (fun x A C h k => h.kept x A C k) (fun h k => h.trans k) (fun W l o o' hl h hc hw => Kp.turn (by omega) W l o o' hl h hc hw) (Below.refl _ _) (fun _ => rfl)
  (fun (pre : List El) W => Num w W (w.heap.size + 1) (maxP (pre.map (·.2)) : Nat))
  (fun _ _ _ => False)
  (fun _ _ _ h k => Num.low h k (by omega) (by omega)) (fun _ _ _ _ h _ => h) hnum
  (fun x => { tmps := #[.agg #[.int .i64 xk, .string xnm, .int .i64 xn, .string xs, .slice xka xkn xkc, .slice xla xln xlc], .pointer (some ⟨w.heap.size, 0, none⟩), .int .i64 0, .pointer (some ⟨w.heap.size + 1, 0, none⟩), .int .i64 x.1.d,
   .agg #[.int .i64 xk, .string xnm, .int .i64 xn, .string xs, .slice xka xkn xkc, .slice xla xln xlc], .func (.func 35) #[] #[.pointer (some ⟨w.heap.size + 1 + 1, 0, none⟩)], .int .i64 x.1.d, .slice x.1.A x.1.n x.1.c, undef, undef, undef, undef], defers := [] }) ?assign ?body ?done ?stop
 case assign =>
  intro l x W C hC
  gi_wp2
  exact hC
 case body =>
  rintro l pre x W ⟨hc, hf, hB⟩ ⟨hg1, ⟨c, hc2, hp⟩, hg3, hg4⟩ hlt
  have HB := Lib.hid hB
  have hpd := hp.d
  clear hp hg4 hc2 hB hz hat hnum HI
  gi_wp2
  refine ⟨(KeepsOthers.setCell _ _ _).from _, Kp.set (by omega) _, ?_⟩
  have h := Num.set (w := w) (W := W) (B := w.heap.size + 1) ⟨hc, hf, HB.out⟩ (by omega) (max ((maxP (pre.map (·.2)) : Nat) : Int) (x.2.1 : Int))
  show Num w _ (w.heap.size + 1) ((maxP ((pre ++ [x]).map (·.2)) : Nat) : Int)
  rw [List.map_append, List.map_singleton, maxP_snoc]
  have e : ((max (maxP (pre.map (·.2))) x.2.1 : Nat) : Int) = max ((maxP (pre.map (·.2)) : Nat) : Int) (x.2.1 : Int) := by omega
  rw [e]
  exact h
 case done =>
  rintro D xs W hD hS ⟨hc, hf, hB⟩ hK
  have hk := hS.kept
  have hdv : (maxP (xs.map (·.2)) : Nat) = v.deep := by
   have := hk.deep
   simp only [deepP] at this
   omega
  rw [hdv] at hc
  have HB := Lib.hid hB
  have hwd : w.heap.size ≤ D := by omega
  clear hk hdv hS hB hz hat hnum HI
  gi_wp2
  refine ⟨by simp, .inl ⟨_, _, rfl, run_takeDeferred hK, ?_⟩⟩
  refine ⟨.int .i64 v.deep, by simp [results, Tryz.f13, go_sem], rfl, HB.out.trans (below_put W D _ _ hwd hK)⟩
 case stop =>
  rintro D c pre W _ _ h _
  exact h.elim
theorem size_any (v : V) (x : X) (w : World) (hx : Is w v x) (hb : v.bulk ≤ 4194304) :
  Calls Tryz.prog 15 #[x.v] w fun e w' => e = .returned (.int .i64 v.size) ∧ Below w.heap.size w w' := by
 have HL := Lib.hid (lists_any x)
 have HI := Lib.hid hx
 have HT := Lib.hid (three_num w x 3)
 obtain ⟨xk, xnm, xn, xs, xka, xkn, xkc, xla, xln, xlc⟩ := x
 simp only [X.v, X.cells] at HL HT
 clear hx
 refine (callsIn_wide (n := 9)).1 ?_
 refine callsIn_of_wp_marks Tryz.func15 rfl trivial ?_ rfl
 simp only [X.v, Tryz.ntmps15, List.size_toArray, List.length_cons, List.length_nil, Nat.reduceAdd, Nat.reduceSub, Array.replicate_succ, Array.replicate_zero, List.push_toArray, List.append_toArray, List.nil_append, List.cons_append]
 gi_wp2_with fail
 refine ⟨trivial, (callsIn_wide.2 (HL.out _)).mono ?_⟩
 rintro e w1 ⟨rfl, rfl⟩
 gi_wp2_with fail
 obtain ⟨W0, hW0, hz, hnum, hat, -⟩ := HT.out
 rw [hW0]
 have hb0 := hnum.b
 refine range_low rfl (by omega) (gf := 35) (lb := #[.pointer (some ⟨w.heap.size + 2, 0, none⟩)]) rfl trivial (enters_of Tryz.func35 (by kernel_rfl) rfl)
  (lists_seq Fence.wide 8 trivial rfl (by omega) (w.heap.size + 2) w.heap.size (w.heap.size + 1) v _ W0 (by omega) (by omega) (by omega) (IsB.to hb0 (Nat.le_refl _) _ _ HI.out) hat hb)
  (fun x A C h k => h.kept x A C k) (fun h k => h.trans k) (fun W l o o' hl h hc hw => Kp.turn (by omega) W l o o' hl h hc hw) (Below.refl _ _) (fun _ => rfl)
  (fun (pre : List El) W => Num w W (w.heap.size + 1) (lenP (pre.map (·.2)) : Nat) ∧ lenP (pre.map (·.2)) ≤ pre.length * 4194304)
  (fun _ _ _ => False)
  (fun _ _ _ h k => ⟨Num.low h.1 k (by omega) (by omega), h.2⟩) (fun _ _ _ _ h _ => h) ⟨hnum, Nat.zero_le _⟩
  (fun x => { tmps := #[.agg #[.int .i64 xk, .string xnm, .int .i64 xn, .string xs, .slice xka xkn xkc, .slice xla xln xlc], .pointer (some ⟨w.heap.size, 0, none⟩), .int .i64 0, .pointer (some ⟨w.heap.size + 1, 0, none⟩), undef, .slice x.1.A x.1.n x.1.c,
   .agg #[.int .i64 xk, .string xnm, .int .i64 xn, .string xs, .slice xka xkn xkc, .slice xla xln xlc], .func (.func 35) #[] #[.pointer (some ⟨w.heap.size + 1 + 1, 0, none⟩)], .int .i64 x.1.d, .slice x.1.A x.1.n x.1.c, undef, undef, undef, undef, undef], defers := [] }) ?assign ?body ?done ?stop
 case assign =>
  intro l x W C hC
  gi_wp2
  exact hC
 case body =>
  rintro l pre x W ⟨⟨hc, hf, hB⟩, hle⟩ ⟨hg1, ⟨c, hc2, hp⟩, hg3, hg4⟩ hlt
  have HB := Lib.hid hB
  have hpn : x.1.n = x.2.2.length := hp.n
  have hxl : x.2.2.length ≤ 4194304 := by have := length_le_bulks x.2.2; omega
  have hlp : ((lenP (pre.map (·.2)) : Nat) : Int) ≤ 17592190238720 := by omega
  have hxi : (x.2.2.length : Int) ≤ 4194304 := by omega
  have HLE := Lib.hid hle
  clear hp hg4 hc2 hB hz hat hnum HI hle hlt hg1 hg3
  gi_wp2
  refine ⟨(KeepsOthers.setCell _ _ _).from _, Kp.set (by omega) _, ?_⟩
  have h := Num.set (w := w) (W := W) (B := w.heap.size + 1) ⟨hc, hf, HB.out⟩ (by omega) (((lenP (pre.map (·.2)) : Nat) : Int) + (x.2.2.length : Int))
  show Num w _ (w.heap.size + 1) ((lenP ((pre ++ [x]).map (·.2)) : Nat) : Int) ∧ lenP ((pre ++ [x]).map (·.2)) ≤ (pre ++ [x]).length * 4194304
  rw [List.map_append, List.map_singleton, lenP_snoc, List.length_append, List.length_singleton]
  have hle := HLE.out
  refine ⟨?_, by omega⟩
  rw [show ((lenP (pre.map (·.2)) + x.2.2.length : Nat) : Int) = ((lenP (pre.map (·.2)) : Nat) : Int) + (x.2.2.length : Int) by omega]
  exact h
 case done =>
  rintro D xs W hD hS ⟨⟨hc, hf, hB⟩, _⟩ hK
  have hk := hS.kept
  have hdv : (lenP (xs.map (·.2)) : Nat) = v.size := by
   have := hk.len
   simp only [sizeP, List.map_nil, List.sum_nil] at this
   omega
  rw [hdv] at hc
  have HB := Lib.hid hB
  have hwd : w.heap.size ≤ D := by omega
  clear hk hdv hS hB hz hat hnum HI
  gi_wp2
  refine ⟨by simp, .inl ⟨_, _, rfl, run_takeDeferred hK, ?_⟩⟩
  refine ⟨.int .i64 v.size, by simp [results, Tryz.f15, go_sem], rfl, HB.out.trans (below_put W D _ _ hwd hK)⟩
 case stop =>
  rintro D c pre W _ _ h _
  exact h.elim
end Go.Proofs.YtllpgoaanbiodaaGreatDoor.R
