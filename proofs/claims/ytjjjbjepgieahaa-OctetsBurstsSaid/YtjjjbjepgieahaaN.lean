/-
  Frame, the package's and the reference's, by contract.
-/
import Derived.Test.YtjjjbjepgieahaaM
import Derived.Deep.RegionWith
namespace Go.Proofs.Ytjjjbjepgieahaa
open Go.RowKit

theorem putL3 (zs : List Value) (a b c : List Value) (ha : a.length = 4) (hb : b.length = 4) (hz : zs.length = 8 + c.length) : putL (putL (putL zs 0 a) 4 b) 8 c = a ++ (b ++ c) := by
  have e1 : putL zs 0 a = a ++ zs.drop 4 := by simp [putL, ha]
  have e2 : putL (a ++ zs.drop 4) 4 b = a ++ (b ++ zs.drop 8) := by
    unfold putL
    rw [List.take_append_of_le_length (by omega), List.take_of_length_le (by omega), hb, List.drop_append, List.drop_of_length_le (by omega), ha, List.nil_append, List.drop_drop]
  rw [e1, e2]
  have e3 : (a ++ (b ++ zs.drop 8)).take 8 = a ++ b := by
    rw [← List.append_assoc, List.take_append_of_le_length (by simp [ha, hb]), List.take_of_length_le (by simp [ha, hb])]
  have e4 : (a ++ (b ++ zs.drop 8)).drop (8 + c.length) = [] := List.drop_eq_nil_of_le (by simp [ha, hb]; omega)
  unfold putL
  rw [e3, e4, List.append_nil, List.append_assoc]
/-- the row's first bytes read as a list -/
theorem byt_row {w : World} {B g n cap : Nat} {l : Bs} {r : List Value} (h : w.ownsRow B 5 1 (.slice (some ⟨g, 0, none⟩) n cap) n (l.map bv ++ r)) : Byt w (some ⟨g, 0, none⟩) l := by
  have hlen := h.1
  simp only [List.length_append, List.length_map] at hlen
  have hg : g < w.heap.size := (h.lt g rfl).2
  refine .inr ⟨g, 0, rfl, hg, fun j hj => ?_⟩
  rw [Nat.zero_add, h.cellAt j (by omega), List.getElem?_append_left (by rw [List.length_map]; exact hj)]
  simp [hj]

set_option maxRecDepth 4000 in
set_option maxHeartbeats 1000000 in
theorem frame_any (A : Option Addr) (l : Bs) (c : Nat) (w : World) (h : Byt w A l) (hl : l.length ≤ 140737488351232) :
    Calls Try.prog 20 #[.slice A l.length c] w (GivesB w (frame l)) := by
  obtain ⟨i0, hi, hz0, hz1, hz2⟩ := info_parts info5
  have hsum : IntKind.i64.wrap (8 + (l.length : Int)) = 8 + (l.length : Int) := IntWalk.i64_in _ (by omega)
  go_enter Try.func20, Try.ntmps20
  go_wp2_with (at_make; refine wpList_make_full _ rfl _ _ 25 (by rfl) w.heap.size 5 i0 _ 1 Try.underlying25 hi hz0 hz1 .i64 .i64 _ _ (8 + l.length) (by rfl) (by rfl) ?c1 ?c1b ?c2 ?c3 (Nat.le_refl _) ?_)
  case c1 => omega
  case c1b => omega
  case c2 => rw [hz2]; omega
  case c3 => unfold maxLen; omega
  intro w2 hown2 hg2
  have hb2 : Below w.heap.size w w2 := (Below.refl _ _).grown hg2 (Nat.le_refl _) (by intro k hk; cases hk)
  clear hg2 hsum
  have hzl := hown2.1
  generalize (madeCells _ _).toList = zs at *
  have HZ := Lib.hid hzl
  have HY : Hid (∀ w', Below w.heap.size w w' → Byt w' A l) := fun w' hb => h.below hb
  have HG : Hid (w.heap.size ≤ w2.heap.size) := Lib.hid hb2.size
  generalize hgw : w.heap.size = g at *
  have HGw := Lib.hid hgw
  clear hzl h hgw
  have HP : Hid (∀ w' : World, w'.ownsRow g 5 1 (.slice (some ⟨g, 0, none⟩) (8 + l.length) (8 + l.length)) (8 + l.length) zs → Calls Try.prog 28 #[.slice (some ⟨g, 0, none⟩) (8 + l.length) (8 + l.length), .int .u32 ((l.length : Int) % 4294967296)] w' fun e w'' => e = .returned (.tuple #[]) ∧ w''.ownsRow g 5 1 (.slice (some ⟨g, 0, none⟩) (8 + l.length) (8 + l.length)) (8 + l.length) (putL zs 0 ((lenW l).map bv)) ∧ w'.grownBy w'' (some g)) := fun w' h' =>
    putWord_any g g 0 (8 + l.length) (8 + l.length) (l.length % 4294967296) zs w' h' (by omega)
  go_wp2_with fail
  refine (HP.out _ hown2).mono ?_
  rintro e w3 ⟨rfl, hown3, hg3⟩
  have hb3 : Below g w w3 := hb2.grown hg3 HG.out fun k hk => by injection hk with hk; omega
  have HG3 : Hid (g ≤ w3.heap.size) := Lib.hid (Nat.le_trans HG.out hg3.size)
  have hl4 : ((lenW l).map bv).length = 4 := by rw [List.length_map, lenW_length]
  have hrow : putL zs 0 ((lenW l).map bv) = (lenW l).map bv ++ zs.drop 4 := by simp [putL, hl4]
  have hB1 : Byt w3 (some ⟨g, 0, none⟩) (lenW l) := byt_row (by rw [← hrow]; exact hown3)
  have hB2 : Byt w3 A l := HY.out _ hb3
  have hB3 := hB2.below ((Below.refl w3.heap.size w3).alloc (Nat.le_refl _) (.cells #[.slice (some ⟨g, 0, none⟩) 4 (8 + l.length), .slice A l.length c] 25))
  have HPt : Hid (Parts ((w3.alloc (.cells #[.slice (some ⟨g, 0, none⟩) 4 (8 + l.length), .slice A l.length c] 25)).drew) w3.heap.size [⟨some ⟨g, 0, none⟩, 8 + l.length, lenW l⟩, ⟨A, c, l⟩]) :=
    parts_two (8 + l.length) c 25 hB1 (by rw [lenW_length]; omega) hB2 (by omega)
  have HS : Hid (∀ W, Parts W w3.heap.size [⟨some ⟨g, 0, none⟩, 8 + l.length, lenW l⟩, ⟨A, c, l⟩] → Calls Try.prog 29 #[.slice (some ⟨w3.heap.size, 0, none⟩) 2 2] W fun e w' => e = .returned (.int .u32 (sum (lenW l ++ l) : Nat)) ∧ W = w') := by
    intro W hp
    have := sumOf_any w3.heap.size _ W hp (by simp)
    simpa using this
  have HO3 : Hid (((w3.alloc (.cells #[.slice (some ⟨g, 0, none⟩) 4 (8 + l.length), .slice A l.length c] 25)).drew).ownsRow g 5 1 (.slice (some ⟨g, 0, none⟩) (8 + l.length) (8 + l.length)) (8 + l.length) (putL zs 0 ((lenW l).map bv))) :=
    own_below (w := w3) hown3 ((Below.refl w3.heap.size w3).alloc (Nat.le_refl _) _).drew
  have HP2 : Hid (∀ (W : World) xs, W.ownsRow g 5 1 (.slice (some ⟨g, 0, none⟩) (8 + l.length) (8 + l.length)) (8 + l.length) xs → Calls Try.prog 28 #[.slice (some ⟨g, 4, none⟩) (8 + l.length - 4) (8 + l.length - 4), .int .u32 (sum (lenW l ++ l) : Nat)] W fun e w'' => e = .returned (.tuple #[]) ∧ w''.ownsRow g 5 1 (.slice (some ⟨g, 0, none⟩) (8 + l.length) (8 + l.length)) (8 + l.length) (putL xs 4 ((four (sum (lenW l ++ l))).map bv)) ∧ W.grownBy w'' (some g)) := fun W xs h' =>
    putWord_any g g 4 (8 + l.length) (8 + l.length) (sum (lenW l ++ l)) xs W h' (by omega)
  have HF : Hid (frame l = lenW l ++ (four (sum (lenW l ++ l)) ++ l)) := Lib.hid rfl
  have HB3 : Hid (Byt (w3.alloc (.cells #[.slice (some ⟨g, 0, none⟩) 4 (8 + l.length), .slice A l.length c] 25)).drew A l) := hB3
  clear hB1 hB2 hB3 hrow hl4 hown2 hown3 hb2 hg3
  generalize sum (lenW l ++ l) = sm at *
  go_wp2_with fail
  go_region_with (first
    | (go_at_call 29; refine (HS.out _ HPt.out).mono ?_; rintro e w' ⟨rfl, rfl⟩)
    | (go_at_call 28; refine (HP2.out _ _ HO3.out).mono ?_; rintro e w4 ⟨rfl, hown4, hg4⟩))
  all_goals
    have hb4 : Below g w w4 := ((hb3.alloc HG3.out _).drew).grown hg4 (Nat.le_trans HG3.out (by simp)) fun k hk => by injection hk with hk; omega
    have HG4 : Hid (g ≤ w4.heap.size) := Lib.hid (Nat.le_trans HG3.out (Nat.le_trans (by simp) hg4.size))
    have hY4 := HY.out _ hb4
    clear hg4
    go_wp2_with (first
      | (refine cut_law rfl (.tmp 21) (.const (.int .i64 8)) (by rfl) (some ⟨g, 0, none⟩) _ _ (by rfl) 8 (by rfl) (by omega) ?_)
      | (refine copy_bytes rfl (.tmp 22) (.tmp 23) 25 25 (by rfl) 5 Try.underlying25 size_info g g _ _ _ hown4 8 _ _ _ (by rfl) (fun h => cutA_row (by omega)) A c l (by rfl) hY4 (by omega) (by omega) ?_; intro w5 hown5 hg5))
    have H : Hid (w5.ownsRow g 5 1 (.slice (some ⟨g, 0, none⟩) (8 + l.length) (8 + l.length)) (frame l).length ((frame l).map bv) ∧ Below g w w5) := by
      refine ⟨?_, hb4.grown hg5 HG4.out fun k hk => by injection hk with hk; omega⟩
      have e := putL3 zs ((lenW l).map bv) ((four sm).map bv) (l.map bv) (by rw [List.length_map, lenW_length]) (by rw [List.length_map, four_length]) (by rw [HZ.out, List.length_map]; omega)
      rw [frame_length, HF.out, List.map_append, List.map_append, ← e]
      have e2 : (l.map bv).length = l.length := List.length_map ..
      unfold putL at hown5 ⊢
      rw [e2]
      exact hown5
    clear hown4 hown5 hg5 hb4 hY4
    go_wp2
    go_ret
    exact ⟨_, rfl, by rw [HGw.out]; exact H.out.1, by rw [HGw.out]; exact H.out.2⟩
end Go.Proofs.Ytjjjbjepgieahaa
