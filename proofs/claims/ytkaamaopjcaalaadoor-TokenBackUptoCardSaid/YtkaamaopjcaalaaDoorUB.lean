/-
  Laid by wip/prune.py out of wip/units: C E3.
-/
import Derived.Test.YtkaamaopjcaalaaDoorUA
namespace Go.Proofs.YtkaamaopjcaalaaDoor
open Go.RowKit

/-- what Of answers -/
def ofRes (l : Bs) : Value := if l.all (fun b => decide (b.toNat ≤ 127)) then .tuple #[.string ⟨(bs (l.map (·.toNat))).toArray⟩, .int .i64 0] else .tuple #[.string ⟨#[]⟩, .int .i64 10]
theorem map_nv_snoc (l : List Nat) (n : Nat) : (l ++ [n]).map nv = l.map nv ++ [nv n] := by simp
theorem hex_int (i : Int) (n : Nat) (w : World) (hi : i = (n : Int)) (hn : n < 16) :
    Calls Tryd.prog 63 #[.int .i64 i] w fun e w' => e = .returned (.int .u8 (hexB n).toNat) ∧ w = w' := by
  subst hi
  exact hex_any n w hn
/-- a literal's bytes as a string -/
theorem conv_new (w : World) (l : Bs) (arr : Array Value) (n : Nat) (h : arr = (l.map bv).toArray) (hn : n = l.length) :
    (convert 57 9 (.slice (some ⟨w.heap.size, 0, none⟩) n n)).run Tryd.prog (w.alloc (.cells arr 5)) = .ok (.string ⟨l.toArray⟩) (w.alloc (.cells arr 5)) := by
  subst hn
  refine run_convert_bytes_back _ _ _ 5 _ _ l Tryd.underlying57 Tryd.underlying5 Tryd.underlying9 fun j hj => ?_
  have hadd : (⟨w.heap.size, 0, none⟩ : Addr).add j = ⟨w.heap.size, j, none⟩ := by unfold Addr.add; split <;> simp_all
  rw [hadd]
  refine new_cells w arr _ j _ ?_
  rw [h]
  simp [bv, hj]
set_option maxRecDepth 8000 in
theorem quoted_any (u : Nat) (hu : u < 65536) (w : World) :
    Calls Tryd.prog 46 #[.int .i64 u] w fun e w' => e = .returned (.string ⟨(quoted u).toArray⟩) ∧ Below w.heap.size w w' := by
  have h : u = 34 ∨ u = 92 ∨ u = 8 ∨ u = 9 ∨ u = 10 ∨ u = 12 ∨ u = 13 ∨ (¬ u = 34 ∧ ¬ u = 92 ∧ ¬ u = 8 ∧ ¬ u = 9 ∧ ¬ u = 10 ∧ ¬ u = 12 ∧ ¬ u = 13) := by omega
  rcases h with rfl | rfl | rfl | rfl | rfl | rfl | rfl | ⟨h1, h2, h3, h4, h5, h6, h7⟩
  iterate 7 (focus (go_enter Tryd.func46, Tryd.ntmps46; go_wp2; go_ret; exact ⟨rfl, Below.refl _ _⟩))
  · have b : ∀ m : Int, ¬ (u : Int) = m → ((u : Int) == m) = false := fun m hm => by rw [beq_eq_false_iff_ne]; exact hm
    have b1 := b 34 (by omega)
    have b2 := b 92 (by omega)
    have b3 := b 8 (by omega)
    have b4 := b 9 (by omega)
    have b5 := b 10 (by omega)
    have b6 := b 12 (by omega)
    have b7 := b 13 (by omega)
    clear b
    by_cases hr : u < 32 ∨ 126 < u
    · have HQ : Hid (quoted u = [92, 117, hexB (u / 4096), hexB (u / 256 % 16), hexB (u / 16 % 16), hexB (u % 16)]) := by
        show quoted u = _
        unfold quoted
        rw [if_neg (by omega), if_neg (by omega), if_neg (by omega), if_neg (by omega), if_neg (by omega), if_neg (by omega), if_neg (by omega), if_pos (by omega)]
      clear h1 h2 h3 h4 h5 h6 h7
      rcases hr with hr | hr
      all_goals
        go_enter Tryd.func46, Tryd.ntmps46
        go_wp2_with fail
        refine (hex_int _ (u / 4096) _ (by omega) (by omega)).mono ?_
        rintro e w' ⟨rfl, rfl⟩
        go_wp2_with fail
        refine (hex_int _ (u / 256 % 16) _ (by omega) (by omega)).mono ?_
        rintro e w' ⟨rfl, rfl⟩
        go_wp2_with fail
        refine (hex_int _ (u / 16 % 16) _ (by omega) (by omega)).mono ?_
        rintro e w' ⟨rfl, rfl⟩
        go_wp2_with fail
        refine (hex_int _ (u % 16) _ (by omega) (by omega)).mono ?_
        rintro e w' ⟨rfl, rfl⟩
        have hcv := conv_new w [92, 117, hexB (u / 4096), hexB (u / 256 % 16), hexB (u / 16 % 16), hexB (u % 16)] #[.int .u8 92, .int .u8 117, .int .u8 (hexB (u / 4096)).toNat, .int .u8 (hexB (u / 256 % 16)).toNat, .int .u8 (hexB (u / 16 % 16)).toNat, .int .u8 (hexB (u % 16)).toNat] 6 rfl rfl
        go_wp2
        go_ret
        exact ⟨by rw [HQ.out]; rfl, (Below.refl _ _).alloc (Nat.le_refl _) _⟩
    · have HQ : Hid (quoted u = [UInt8.ofNat u]) := by
        show quoted u = _
        unfold quoted
        rw [if_neg (by omega), if_neg (by omega), if_neg (by omega), if_neg (by omega), if_neg (by omega), if_neg (by omega), if_neg (by omega), if_neg (by omega)]
      obtain ⟨hr1, hr2⟩ : 32 ≤ u ∧ u ≤ 126 := by omega
      have E2 : Hid (((UInt8.ofNat u).toNat : Int) = (u : Int)) := (wrap_lo u).trans (by omega)
      have hcv := conv_new w [UInt8.ofNat u] #[.int .u8 u] 1 (by simp [bv]; omega) rfl
      clear h1 h2 h3 h4 h5 h6 h7 hr
      go_enter Tryd.func46, Tryd.ntmps46
      go_wp2
      go_ret
      exact ⟨by rw [HQ.out]; rfl, (Below.refl _ _).alloc (Nat.le_refl _) _⟩
theorem mk_append (a b : Bs) : (ByteArray.mk a.toArray) ++ (ByteArray.mk b.toArray) = ByteArray.mk (a ++ b).toArray := by
  apply ByteArray.ext
  apply Array.toList_inj.1
  simp
/-- what Quote answers -/
def quoteRes (l : Bs) : Value := if l.length % 2 = 0 then .tuple #[.string ⟨(quote (us l)).toArray⟩, .int .i64 0] else .tuple #[.string ⟨#[]⟩, .int .i64 10]
theorem quoteRes_odd {l : Bs} (h : ¬ l.length % 2 = 0) : quoteRes l = .tuple #[.string ⟨#[]⟩, .int .i64 10] := if_neg h
theorem quoteRes_even {l : Bs} (h : l.length % 2 = 0) : quoteRes l = .tuple #[.string ⟨(quote (us l)).toArray⟩, .int .i64 0] := if_pos h
theorem flat_snoc (u : List Nat) (k : Nat) (h : k < u.length) : 34 :: (u.take (k + 1)).flatMap quoted = (34 :: (u.take k).flatMap quoted) ++ quoted u[k] := by
  rw [List.take_succ_eq_append_getElem h, List.flatMap_append, List.flatMap_singleton, List.cons_append]
set_option maxRecDepth 8000 in
set_option maxHeartbeats 400000 in
theorem refQuote_any (s : ByteArray) (w : World) (hs : s.size ≤ 4194304) :
    Calls Tryd.prog 30 #[.string s] w fun e w' => e = .returned (quoteRes s.data.toList) ∧ Below w.heap.size w w' := by
  have hul : (us s.data.toList).length ≤ 2097152 := by rw [us_length, size_list]; omega
  have h16 : ∀ k (h : k < (us s.data.toList).length), (us s.data.toList)[k] < 65536 := fun k h => us_lt s.data.toList _ (List.getElem_mem h)
  have HL := Lib.hid (list_any s)
  by_cases heven : s.size % 2 = 0
  · have HC : Hid (∀ w, Calls Tryd.prog 44 #[.string s] w fun e w' => e = .returned (.bool true) ∧ w = w') := fun w => (refCheck_any s w (by unfold maxLen; omega)).mono fun e w' ⟨h1, h2⟩ => ⟨by rw [h1, decide_eq_true heven], h2⟩
    have HR0 := Lib.hid (quoteRes_even (l := s.data.toList) (by rw [size_list]; exact heven))
    generalize us s.data.toList = u at *
    have H16 := Lib.hid h16
    clear h16 heven
    go_enter Tryd.func30, Tryd.ntmps30
    go_wp2_with (go_at_call 44; refine (HC.out _).mono ?_; rintro e w' ⟨rfl, rfl⟩)
    refine (HL.out _ (by omega)).mono ?_
    rintro e w1 ⟨A, c, rfl, hr, hb1⟩
    have HR := Lib.hid hr
    clear hr HL HC
    go_wp2
    go_loopw [4, 13] (fun v x wr => ∃ (k : Nat) (t : Bs), k ≤ u.length ∧ x = .int .i64 k ∧ v = .string ⟨t.toArray⟩ ∧ t.length ≤ 1 + 6 * k ∧ Hid (t = 34 :: (u.take k).flatMap quoted) ∧ Below w1.heap.size w1 wr)
      (fun _ x _ => u.length - (intOf x).toNat)
    case atStart => exact ⟨0, [34], by omega, rfl, rfl, by decide, rfl, Below.refl _ _⟩
    case round =>
      obtain ⟨k, t, hk, rfl, rfl, ht, hq, hb⟩ := hrel
      by_cases hlt : k < u.length
      · rcases HR.out with hr | ⟨g, rfl, hg1, hg2, hg3⟩
        · subst hr; simp at hlt
        have hc : wr.cell? ⟨g, k, none⟩ = some (.int .i64 (u[k] : Nat)) := (hb.cell (p := ⟨g, k, none⟩) hg2).trans (hg3 k hlt)
        have h16 := H16.out k hlt
        have hql := quoted_length u[k]
        have HF := Lib.hid (flat_snoc u k hlt)
        have HQ := Lib.hid (quoted_any u[k] h16)
        generalize quoted u[k] = qt at *
        have HM := Lib.hid (mk_append t qt)
        clear hg3 h16
        go_wp2_with (go_at_call 46; refine (HQ.out _).mono ?_; rintro e w2 ⟨rfl, hb2⟩)
        rw [HM.out]
        have hb3 := hb.trans (hb2.mono hb.size)
        go_roundw
        case rel => exact ⟨k + 1, t ++ qt, by omega, by go_num, rfl, by rw [List.length_append]; omega, by rw [HF.out, ← hq.out]; rfl, hb3⟩
        case measure => simp [intOf]; omega
      · have HE : Hid (u.take k = u) := Lib.hid (List.take_of_length_le (by omega))
        rw [HE.out] at hq
        have HM := Lib.hid (mk_append t [34])
        go_wp2
        go_ret2
        refine ⟨?_, hb1.trans (hb.mono hb1.size)⟩
        rw [HR0.out]
        unfold quote
        rw [← List.cons_append, ← hq.out, ← HM.out]
        rfl
  · have HC : Hid (∀ w, Calls Tryd.prog 44 #[.string s] w fun e w' => e = .returned (.bool false) ∧ w = w') := fun w => (refCheck_any s w (by unfold maxLen; omega)).mono fun e w' ⟨h1, h2⟩ => ⟨by rw [h1, decide_eq_false heven], h2⟩
    have HR0 := Lib.hid (quoteRes_odd (l := s.data.toList) (by rw [size_list]; exact heven))
    clear h16 heven HL hul
    go_enter Tryd.func30, Tryd.ntmps30
    go_wp2_with (go_at_call 44; refine (HC.out _).mono ?_; rintro e w' ⟨rfl, rfl⟩)
    go_ret2
    exact ⟨by rw [HR0.out]; rfl, Below.refl _ _⟩
end Go.Proofs.YtkaamaopjcaalaaDoor
