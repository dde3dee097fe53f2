/-
 Laid by wip/prune.py out of wip/units: F H.
 Laid by wip/prune.py out of wip/units: D I J K L M.
 Laid by wip/prune.py out of wip/units: N Q.
-/
import Derived.Test.YtllpgoaanbiodaaGreatDoorMUC
import Derived.Test.YtllpgoaanbiodaaGreatDoorShelf
import Derived.Lib.ConvBytes
import Derived.Lib.Walk
import Derived.Lib.AtoiAllMem
import Derived.Laws.Strings3
import Derived.Laws.Closers25
import Derived.Laws.Closers25b
import Derived.Laws.AppendOwnNone
set_option maxHeartbeats 1000000
set_option maxRecDepth 8000
namespace Go.Proofs.YtllpgoaanbiodaaGreatDoor
open Go.RowKit
theorem own_below {w w' : World} {B : Nat} {e : TypeId} {size n : Nat} {v : Value} {xs : List Value} (h : w.ownsRow B e size v n xs) (hb : Below w.heap.size w w') : w'.ownsRow B e size v n xs :=
 h.kept (row := none) ⟨hb.os, hb.tape, hb.output, hb.size, fun k hk _ => hb.block k hk⟩ (by cases v.ownBlock <;> simp)
theorem appQ_any (B : Nat) (v : Value) (n : Nat) (xs : List Value) (u : Nat) (w : World) (hown : w.ownsRow B 5 1 v n xs) (hu : u < 65536) (hn : n ≤ 140737488355320) (hB : B ≤ w.heap.size) :
  Calls Tryz.prog 167 #[v, .int .i64 u] w fun e w' => ∃ v', e = .returned v' ∧ w'.ownsRow B 5 1 v' (n + (quoted u).length) (xs ++ (quoted u).map bv) ∧ Below B w w' := by
 by_cases h1 : u = 34 ∨ u = 92 ∨ u = 8 ∨ u = 9 ∨ u = 10 ∨ u = 12 ∨ u = 13
 ·have e : (quoted u).length = 2 := by rcases h1 with rfl | rfl | rfl | rfl | rfl | rfl | rfl <;> rfl
  rw [e]
  exact appQ_two B v n xs u w hown hn hB h1
 ·by_cases h2 : u < 32 ∨ 126 < u
  ·have e : (quoted u).length = 6 := by
    unfold quoted
    rw [if_neg (by omega), if_neg (by omega), if_neg (by omega), if_neg (by omega), if_neg (by omega), if_neg (by omega), if_neg (by omega), if_pos (by omega)]
    rfl
   rw [e]
   exact appQ_hex B v n xs u w hown hu hn hB (by omega)
  ·have e : (quoted u).length = 1 := by
    unfold quoted
    rw [if_neg (by omega), if_neg (by omega), if_neg (by omega), if_neg (by omega), if_neg (by omega), if_neg (by omega), if_neg (by omega), if_neg (by omega)]
    rfl
   rw [e]
   exact appQ_one B v n xs u w hown hn hB (by omega) (by omega) (by omega) (by omega)
theorem quote_any (s : ByteArray) (w : World) (hs : s.size ≤ 4194304) :
  Calls Tryz.prog 157 #[.string s] w fun e w' => e = .returned (quoteRes s.data.toList) ∧ Below w.heap.size w w' := by
 have hul : (us s.data.toList).length = s.size / 2 := by rw [us_length, size_list]
 have h16 : ∀ k (h : k < (us s.data.toList).length), (us s.data.toList)[k] < 65536 := fun k h => us_lt s.data.toList _ (List.getElem_mem h)
 have hm : s.size ≤ maxLen := by unfold maxLen; omega
 have HLen := Lib.hid fun w => len_any s w hm
 have HAt := Lib.hid fun i w => at_any s i w hm
 have hat : ∀ k (h : k < (us s.data.toList).length), atOf s k = ((us s.data.toList)[k] : Nat) := fun k h => atI_in h
 obtain ⟨i0, hi, hz0, hz1, hz2⟩ := info_parts info5
 by_cases heven : s.size % 2 = 0
 ·have HC : Hid (∀ w, Calls Tryz.prog 51 #[.string s] w fun e w' => e = .returned (.bool true) ∧ w = w') := fun w => (check_any s w hm).mono fun e w' ⟨h1, h2⟩ => ⟨by rw [h1, decide_eq_true heven], h2⟩
  have HR0 := Lib.hid (quoteRes_even (l := s.data.toList) (by rw [size_list]; exact heven))
  generalize us s.data.toList = u at *
  have H16 := Lib.hid h16
  have HA := Lib.hid hat
  obtain ⟨m, hmm⟩ : ∃ m, m = s.size / 2 := ⟨_, rfl⟩
  rw [← hmm] at hul HLen
  have hm2 : m ≤ 2097152 := by omega
  have e1 : IntKind.i64.wrap ((m : Int) + 2) = (m : Int) + 2 := IntWalk.i64_in _ (by omega)
  clear h16 hat heven hmm hs hm
  obtain ⟨B0, hB0⟩ : ∃ B0, B0 = w.heap.size := ⟨_, rfl⟩
  rw [← hB0]
  have HB0 := Lib.hid hB0
  clear hB0
  go_enter Tryz.func157, Tryz.ntmps157
  go_wp2_with (first
   | (go_at_call 51; refine (HC.out _).mono ?_; rintro e w' ⟨rfl, rfl⟩)
   | (go_at_call 166; refine (HLen.out _).mono ?_; rintro e w' ⟨rfl, rfl⟩)
   | (at_make; refine wpList_make_own _ rfl _ _ 60 (by rfl) B0 5 i0 _ 1 Tryz.underlying60 hi hz0 hz1 .i64 .i64 _ (m + 2) (by rfl) (by rfl) ?c1 ?c2 ?c3 (by rw [HB0.out]; exact Nat.le_refl _) ?_))
  case c1 => omega
  case c2 => rw [hz2]; omega
  case c3 => unfold maxLen; omega
  intro w1 hown1 hg1
  have hb1 : Below B0 w w1 := (Below.refl _ _).grown hg1 (by rw [HB0.out]; exact Nat.le_refl _) (by intro k hk; cases hk)
  have hz1' : B0 ≤ w1.heap.size := by rw [HB0.out]; exact hb1.size
  clear hg1
  obtain ⟨v1, hv1⟩ : ∃ v1, v1 = Value.slice (some ⟨w.heap.size, 0, none⟩) 0 (m + 2) := ⟨_, rfl⟩
  rw [← hv1] at hown1 ⊢
  clear hv1
  go_wp2_with (first
   | (go_at_call 166; refine (HLen.out _).mono ?_; rintro e w' ⟨rfl, rfl⟩)
   | (at_builtin; refine app_lit _ rfl _ _ 60 (by rfl) B0 5 i0 _ 1 Tryz.underlying60 hi hz0 hz1 hz2 rfl _ _ _ (by rfl) hown1 _ 1 (by rfl) rfl ?c1 ?c2 ?c3 hz1' ?_))
  case c1 => rfl
  case c2 => unfold maxLen; omega
  case c3 => omega
  intro v2 w2 hown2 hb2
  have hb3 := hb1.trans hb2
  clear hown1 hb1 hz1' hb2
  go_wp2_with (go_at_call 166; refine (HLen.out _).mono ?_; rintro e w' ⟨rfl, rfl⟩)
  go_loopw [4, 17] (fun v x wr => ∃ (k n : Nat) (t : Bs), k ≤ m ∧ x = .int .i64 k ∧ wr.ownsRow B0 5 1 v n (t.map bv) ∧ n ≤ 1 + 6 * k ∧ Hid (t = 34 :: (u.take k).flatMap quoted) ∧ Below B0 w wr)
   (fun _ x _ => m - (intOf x).toNat)
  case atStart => exact ⟨0, 1, [34], by omega, rfl, hown2, by decide, rfl, hb3⟩
  case round =>
   obtain ⟨k, n, t, hk, rfl, hown, hn, hq, hb⟩ := hrel
   clear hown2 hb3
   by_cases hlt : k < m
   ·have h16 := H16.out k (by omega)
    have hak := Lib.hid (HA.out k (by omega))
    have hql := quoted_length (u[k]'(by omega))
    have HF := Lib.hid (flat_snoc u k (by omega))
    have HQ : Hid (∀ v n xs w, w.ownsRow B0 5 1 v n xs → n ≤ 140737488355320 → B0 ≤ w.heap.size → Calls Tryz.prog 167 #[v, .int .i64 ((u[k]'(by omega) : Nat) : Int)] w fun e w' => ∃ v', e = .returned v' ∧ w'.ownsRow B0 5 1 v' (n + (quoted (u[k]'(by omega))).length) (xs ++ (quoted (u[k]'(by omega))).map bv) ∧ Below B0 w w') :=
     fun v n xs w h1 h2 h3 => appQ_any B0 v n xs _ w h1 h16 h2 h3
    generalize quoted (u[k]'(by omega)) = qt at *
    clear h16
    go_wp2_with fail
    refine (HAt.out _ _).mono ?_
    rintro e w3 ⟨rfl, hb3⟩
    rw [hak.out]
    have hown3 := own_below hown hb3
    have hb4 := hb.trans (hb3.mono (by rw [HB0.out]; exact hb.size))
    clear hown hb hb3
    go_wp2_with fail
    refine (HQ.out _ _ _ _ hown3 (by omega) (by rw [HB0.out]; exact hb4.size)).mono ?_
    rintro e w4 ⟨v4, rfl, hown4, hb5⟩
    have H : Hid (w4.ownsRow B0 5 1 v4 (n + qt.length) ((t ++ qt).map bv) ∧ Below B0 w w4) := ⟨by rw [List.map_append]; exact hown4, hb4.trans hb5⟩
    clear hown4 hb5 hb4 hown3
    go_wp2
    go_roundw
    case rel => exact ⟨k + 1, n + qt.length, t ++ qt, by omega, by go_num, H.out.1, by omega, by rw [HF.out, ← hq.out]; rfl, H.out.2⟩
    case measure => simp [intOf]; omega
   ·have HE : Hid (u.take k = u) := Lib.hid (List.take_of_length_le (by omega))
    rw [HE.out] at hq
    have hbz : B0 ≤ wr.heap.size := by rw [HB0.out]; exact hb.size
    go_wp2_with (at_builtin; refine app_lit _ rfl _ _ 60 (by rfl) B0 5 i0 _ 1 Tryz.underlying60 hi hz0 hz1 hz2 rfl _ _ _ (by rfl) hown _ 1 (by rfl) rfl ?c1 ?c2 ?c3 hbz ?_)
    case c1 => rfl
    case c2 => unfold maxLen; omega
    case c3 => omega
    intro v4 w4 hown4 hb4
    have hb5 := hb.trans hb4
    have hcv := string_of_own (P := Tryz.prog) (l := t ++ [34]) w4 60 9 5 Tryz.underlying60 Tryz.underlying5 Tryz.underlying9 (by rw [List.map_append]; exact hown4)
    clear hown4 hb4 hb hown hbz
    go_wp2
    go_ret2
    refine ⟨?_, hb5⟩
    rw [HR0.out]
    unfold quote
    rw [← List.cons_append, ← hq.out]
    rfl
 ·have HC : Hid (∀ w, Calls Tryz.prog 51 #[.string s] w fun e w' => e = .returned (.bool false) ∧ w = w') := fun w => (check_any s w hm).mono fun e w' ⟨h1, h2⟩ => ⟨by rw [h1, decide_eq_false heven], h2⟩
  have HR0 := Lib.hid (quoteRes_odd (l := s.data.toList) (by rw [size_list]; exact heven))
  clear h16 heven hul hat
  go_enter Tryz.func157, Tryz.ntmps157
  go_wp2_with (go_at_call 51; refine (HC.out _).mono ?_; rintro e w' ⟨rfl, rfl⟩)
  go_ret2
  exact ⟨by rw [HR0.out]; rfl, Below.refl _ _⟩
theorem index_run (s : ByteArray) (k : Nat) (x : UInt8) (w : World) (hk : s.data.toList[k]? = some x) : (Instr.index 9 (.string s) (.int .i64 (k : Int))).run Tryz.prog w = .ok (.int .u8 ((x.toNat : Nat) : Int)) w := by
 have hk2 : k < s.size := by rw [← size_list]; exact (List.getElem?_eq_some_iff.1 hk).1
 rw [run_index_string w 9 s .i64 k Tryz.underlying9, dif_pos ⟨by omega, by omega⟩]
 congr 2
 rw [List.getElem?_eq_getElem (by rw [size_list]; exact hk2)] at hk
 have hk3 : s.data.toList[k]'(by rw [size_list]; exact hk2) = x := Option.some.inj hk
 rw [← hk3]
 rfl
theorem notEmpty {s : ByteArray} {c : UInt8} {r : Bs} (hl : s.data.toList = c :: r) : s.toList.isEmpty = false := by
 rw [← decide_eq_emptyBytes]
 exact decide_eq_false (fun h => by rw [h] at hl; cases hl)
theorem quote_length (u : List Nat) : (quote u).length ≤ 2 + 6 * u.length := by
 unfold quote
 have : (u.flatMap quoted).length ≤ 6 * u.length := by
  induction u with
  | nil => simp
  | cons n u ih =>
   have := quoted_length n
   rw [List.flatMap_cons, List.length_append, List.length_cons]
   omega
 simp only [List.length_cons, List.length_append, List.length_nil]
 omega
end Go.Proofs.YtllpgoaanbiodaaGreatDoor
