/-
  Laid by wip/prune.py out of wip/units: C E3.
-/
import Derived.Test.YtjgafhodogbemaaDoorUA
namespace Go.Proofs.YtjgafhodogbemaaDoor
open Go.RowKit

/-- what Of answers -/
def ofRes (l : Bs) : Value := if l.all (fun b => decide (b.toNat ≤ 127)) then .tuple #[.string ⟨(bs (l.map (·.toNat))).toArray⟩, .int .i64 0] else .tuple #[.string ⟨#[]⟩, .int .i64 10]
def plainTo (s : ByteArray) (k : Nat) : Prop := (s.data.toList.take k).all (fun b => decide (b.toNat ≤ 127)) = true
def wideTo (s : ByteArray) (k : Nat) : List Nat := (s.data.toList.take k).map (·.toNat)
theorem plainTo_succ {s : ByteArray} {k : Nat} (hk : k < s.size) (h : plainTo s k) (hc : (s[k]).toNat ≤ 127) : plainTo s (k + 1) := by
  unfold plainTo at *
  rw [List.take_add_one, List.getElem?_eq_getElem (by rw [size_list]; exact hk), List.all_append, h]
  rw [get_list s k hk] at hc
  simp only [Option.toList_some, List.all_cons, List.all_nil, Bool.and_true, Bool.true_and, decide_eq_true_eq]
  exact hc
theorem wideTo_succ {s : ByteArray} {k : Nat} (hk : k < s.size) : wideTo s (k + 1) = wideTo s k ++ [(s[k]).toNat] := by
  unfold wideTo
  rw [List.take_add_one, List.getElem?_eq_getElem (by rw [size_list]; exact hk), List.map_append]
  rfl
theorem ofRes_bad {s : ByteArray} {k : Nat} (hk : k < s.size) (hc : 127 < (s[k]).toNat) : ofRes s.data.toList = .tuple #[.string ⟨#[]⟩, .int .i64 10] := by
  unfold ofRes
  rw [if_neg]
  intro h
  have := List.all_eq_true.1 h s[k] (by rw [get_list s k hk]; exact List.getElem_mem _)
  simp at this
  omega
theorem ofRes_good {s : ByteArray} (h : plainTo s s.size) : ofRes s.data.toList = .tuple #[.string ⟨(bs (wideTo s s.size)).toArray⟩, .int .i64 0] := by
  have e : s.data.toList.take s.size = s.data.toList := List.take_of_length_le (by rw [size_list]; exact Nat.le_refl _)
  unfold plainTo at h
  unfold ofRes wideTo
  rw [e] at h ⊢
  rw [if_pos h]
theorem wideTo_lt (s : ByteArray) (k : Nat) : ∀ n ∈ wideTo s k, n < 65536 := by
  intro n hn
  obtain ⟨b, _, rfl⟩ := List.mem_map.1 hn
  have := b.toNat_lt
  omega
theorem wideTo_length (s : ByteArray) (k : Nat) (h : k ≤ s.size) : (wideTo s k).length = k := by
  unfold wideTo
  rw [List.length_map, List.length_take, size_list]
  omega
set_option maxRecDepth 8000 in
set_option maxHeartbeats 400000 in
theorem of_any (s : ByteArray) (w : World) (hs : s.size ≤ 16777216) :
    Calls Tryd.prog 44 #[.string s] w fun e w' => e = .returned (ofRes s.data.toList) ∧ Below w.heap.size w w' := by
  obtain ⟨i0, hi, hz0, hz1, hz2⟩ := info_parts info5
  have e1 : IntKind.i64.wrap (2 * (s.size : Int)) = 2 * (s.size : Int) := IntWalk.i64_in _ (by omega)
  go_enter Tryd.func44, Tryd.ntmps44
  go_wp2_with (at_make; refine wpList_make_own _ rfl _ _ 57 (by rfl) w.heap.size 5 i0 _ 1 Tryd.underlying57 hi hz0 hz1 .i64 .i64 _ (2 * s.size) (by rfl) (by rfl) ?c1 ?c2 ?c3 (Nat.le_refl _) ?_)
  case c1 => omega
  case c2 => rw [hz2]; omega
  case c3 => unfold maxLen; omega
  intro w1 hown1 hg1
  have hb1 : Below w.heap.size w w1 := (Below.refl _ _).grown hg1 (Nat.le_refl _) (by intro k hk; cases hk)
  clear hg1 e1
  obtain ⟨v1, hv1⟩ : ∃ v1, v1 = Value.slice (some ⟨w.heap.size, 0, none⟩) 0 (2 * s.size) := ⟨_, rfl⟩
  rw [← hv1] at hown1 ⊢
  clear hv1
  go_wp2
  go_loopw [4, 12] (fun v i wr => ∃ k : Nat, k ≤ s.size ∧ i = .int .i64 k ∧ Hid (plainTo s k) ∧ wr.ownsRow w.heap.size 5 1 v (2 * k) ((bs (wideTo s k)).map bv) ∧ Below w.heap.size w wr)
    (fun _ i _ => s.size - (intOf i).toNat)
  case atStart => exact ⟨0, by omega, rfl, rfl, hown1, hb1⟩
  case round =>
    obtain ⟨k, hk, rfl, hp, hown, hb⟩ := hrel
    clear hown1 hb1
    by_cases hlt : k < s.size
    · by_cases hc : (s[k]).toNat ≤ 127
      · have hP := Lib.hid (plainTo_succ hlt hp.out hc)
        have hW := Lib.hid (wideTo_succ hlt)
        have hc2 : ((s[k]).toNat : Int) ≤ 127 := by omega
        go_wp2_with (go_at_call 52; refine (appendUnit_any w.heap.size _ _ _ (s[k]).toNat _ hown (by omega) (by omega) hb.size).mono ?_; rintro e w' ⟨v', rfl, hown', hb'⟩)
        have H : Hid (w'.ownsRow w.heap.size 5 1 v' (2 * (k + 1)) ((bs (wideTo s (k + 1))).map bv) ∧ Below w.heap.size w w') := by
          refine ⟨?_, hb.trans hb'⟩
          rw [hW.out, bs_append, List.map_append]
          exact hown'
        go_roundw
        case rel => exact ⟨k + 1, by omega, by go_num, hP, H.out.1, H.out.2⟩
        case measure => simp [intOf]; omega
      · have hc2 : 127 < ((s[k]).toNat : Int) := by omega
        have hR := Lib.hid (ofRes_bad hlt (by omega))
        go_wp2
        go_ret2
        exact ⟨by rw [hR.out]; rfl, hb⟩
    · obtain rfl : k = s.size := by omega
      have hR := Lib.hid (ofRes_good hp.out)
      have hcv := string_of_own (P := Tryd.prog) wr 57 9 5 Tryd.underlying57 Tryd.underlying5 Tryd.underlying9 hown
      go_wp2
      go_ret2
      exact ⟨by rw [hR.out]; rfl, hb⟩
theorem map_nv_snoc (l : List Nat) (n : Nat) : (l ++ [n]).map nv = l.map nv ++ [nv n] := by simp
set_option maxRecDepth 8000 in
set_option maxHeartbeats 400000 in
theorem refOf_any (s : ByteArray) (w : World) (hs : s.size ≤ 16777216) :
    Calls Tryd.prog 46 #[.string s] w fun e w' => e = .returned (ofRes s.data.toList) ∧ Below w.heap.size w w' := by
  obtain ⟨i0, hi, hz0, hz1, hz2⟩ := info_parts info3
  go_enter Tryd.func46, Tryd.ntmps46
  go_wp2
  go_loopw [4, 5] (fun v i wr => ∃ k : Nat, k ≤ s.size ∧ i = .int .i64 k ∧ Hid (plainTo s k) ∧ wr.ownsRow w.heap.size 3 1 v k ((wideTo s k).map nv) ∧ Below w.heap.size w wr)
    (fun _ i _ => s.size - (intOf i).toNat)
  case atStart => exact ⟨0, by omega, rfl, rfl, World.ownsRow_nil _ _ _ _, Below.refl _ _⟩
  case round =>
    obtain ⟨k, hk, rfl, hp, hown, hb⟩ := hrel
    by_cases hlt : k < s.size
    · by_cases hc : (s[k]).toNat ≤ 127
      · have hP := Lib.hid (plainTo_succ hlt hp.out hc)
        have hW := Lib.hid (wideTo_succ hlt)
        have hc2 : ((s[k]).toNat : Int) ≤ 127 := by omega
        go_wp2_with (at_builtin; refine app_lit _ rfl _ _ 44 (by rfl) w.heap.size 3 i0 _ 8 Tryd.underlying44 hi hz0 hz1 hz2 rfl _ _ _ (by rfl) hown _ 1 (by rfl) rfl ?c1 ?c2 ?c3 hb.size ?_)
        case c1 => rfl
        case c2 => unfold maxLen; omega
        case c3 => omega
        intro v' w' hown' hb'
        have H : Hid (w'.ownsRow w.heap.size 3 1 v' (k + 1) ((wideTo s (k + 1)).map nv) ∧ Below w.heap.size w w') := by
          refine ⟨?_, hb.trans hb'⟩
          rw [hW.out, map_nv_snoc]
          exact hown'
        clear hown' hb' hown hb
        go_wp2
        go_roundw
        case rel => exact ⟨k + 1, by omega, by go_num, hP, H.out.1, H.out.2⟩
        case measure => simp [intOf]; omega
      · have hc2 : 127 < ((s[k]).toNat : Int) := by omega
        have hR := Lib.hid (ofRes_bad hlt (by omega))
        go_wp2
        go_ret2
        exact ⟨by rw [hR.out]; rfl, hb⟩
    · obtain rfl : k = s.size := by omega
      have hR := Lib.hid (ofRes_good hp.out)
      have hwl := wideTo_length s s.size (Nat.le_refl _)
      obtain ⟨hn, A, c, rfl, hr⟩ := RowN.of_own hown
      have HN := Lib.hid hn
      clear hn hwl
      go_wp2_with fail
      rw [HN.out]
      refine (make_any c _ A _ _ hr (wideTo_lt s s.size) (by rw [← HN.out]; exact hs)).mono ?_
      rintro e w' ⟨rfl, hb'⟩
      go_wp2
      go_ret2
      exact ⟨by rw [hR.out]; rfl, hb.trans (hb'.mono hb.size)⟩
theorem atI_in {u : List Nat} {k : Nat} (h : k < u.length) : atI u k = (u[k] : Nat) := by
  unfold atI
  rw [if_pos ⟨by omega, by omega⟩, List.getD_eq_getElem?_getD, Int.toNat_natCast, List.getElem?_eq_getElem h]
  rfl
theorem atI_out {u : List Nat} {i : Int} (h : i < 0 ∨ (u.length : Int) ≤ i) : atI u i = -1 := by
  unfold atI
  rw [if_neg (by omega)]
/-- a literal's bytes as a string -/
theorem conv_new (w : World) (l : Bs) (arr : Array Value) (n : Nat) (h : arr = (l.map bv).toArray) (hn : n = l.length) :
    (convert 57 9 (.slice (some ⟨w.heap.size, 0, none⟩) n n)).run Tryd.prog (w.alloc (.cells arr 5)) = .ok (.string ⟨l.toArray⟩) (w.alloc (.cells arr 5)) := by
  subst hn
  refine run_convert_bytes_back _ _ _ 5 _ _ l Tryd.underlying57 Tryd.underlying5 Tryd.underlying9 fun j hj => ?_
  have hadd : (⟨w.heap.size, 0, none⟩ : Addr).add j = ⟨w.heap.size, j, none⟩ := by unfold Addr.add; split <;> simp_all
  rw [hadd]
  refine new_cells w arr _ j _ ?_
  rw [h]
  simp [bv, hj]
theorem mk_append (a b : Bs) : (ByteArray.mk a.toArray) ++ (ByteArray.mk b.toArray) = ByteArray.mk (a ++ b).toArray := by
  apply ByteArray.ext
  apply Array.toList_inj.1
  simp
end Go.Proofs.YtjgafhodogbemaaDoor
