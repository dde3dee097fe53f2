/-
 Laid by wip/prune.py out of wip/units: C E.
 Laid by wip/prune.py out of wip/units: E3.
-/
import Derived.Test.YtllpgoaanbiodaaGreatDoorMUA
import Derived.Deep.DeepCutAuto
set_option maxHeartbeats 1000000
set_option maxRecDepth 8000
namespace Go.Proofs.YtllpgoaanbiodaaGreatDoor
open Go.RowKit
theorem atI_in {u : List Nat} {k : Nat} (h : k < u.length) : atI u k = (u[k] : Nat) := by
 unfold atI
 rw [if_pos ⟨by omega, by omega⟩, List.getD_eq_getElem?_getD, Int.toNat_natCast, List.getElem?_eq_getElem h]
 rfl
theorem and15 (n : Nat) (h : n < 65536) : bits .and .i64 (n : Int) 15 = (n : Int) % 16 := by
 have hx : n &&& 15 = n % 16 := Nat.and_two_pow_sub_one_eq_mod n 4
 show IntKind.i64.wrap ((BitVec.ofInt 64 ((n : Nat) : Int) &&& BitVec.ofInt 64 ((15 : Nat) : Int)).toNat : Int) = _
 rw [BitVec.toNat_and, ofInt_u64 _ (by omega), ofInt_u64 _ (by omega), hx, IntKind.wrap_i64]
 omega
abbrev hexTab : ByteArray := ⟨#[48, 49, 50, 51, 52, 53, 54, 55, 56, 57, 97, 98, 99, 100, 101, 102]⟩
theorem hexTab_all : ∀ n : Fin 16, (hexTab[n.val]?.getD 0).toNat = (hexB n.val).toNat := by decide +kernel
theorem hexTab_run (w : World) (i : Int) (n : Nat) (hi : i = (n : Int)) (hn : n < 16) : (Instr.index 9 (.string hexTab) (.int .i64 i)).run Tryz.prog w = .ok (.int .u8 ((hexB n).toNat : Int)) w := by
 subst hi
 have hz : hexTab.size = 16 := by decide +kernel
 have h2 : ((n : Int)).toNat < hexTab.size := by rw [hz]; omega
 rw [run_index_string w 9 hexTab .i64 n Tryz.underlying9, dif_pos ⟨by omega, by rw [hz]; omega⟩]
 have := hexTab_all ⟨n, hn⟩
 simp only [Int.toNat_natCast] at h2 ⊢
 rw [ByteArray.getElem?_lt' _ _ h2, Option.getD_some] at this
 rw [this]
theorem appQ_hex (B : Nat) (v : Value) (n : Nat) (xs : List Value) (u : Nat) (w : World) (hown : w.ownsRow B 5 1 v n xs) (hu : u < 65536) (hn : n ≤ 140737488355320) (hB : B ≤ w.heap.size)
  (h4 : u = 11 ∨ u < 8 ∨ (14 ≤ u ∧ u < 32) ∨ 126 < u) :
  Calls Tryz.prog 167 #[v, .int .i64 u] w fun e w' => ∃ v', e = .returned v' ∧ w'.ownsRow B 5 1 v' (n + 6) (xs ++ (quoted u).map bv) ∧ Below B w w' := by
 obtain ⟨i0, hi, hz0, hz1, hz2⟩ := info_parts info5
 have b1 : ((u : Int) == 34) = false := by rw [beq_eq_false_iff_ne]; omega
 have b2 : ((u : Int) == 92) = false := by rw [beq_eq_false_iff_ne]; omega
 have a1 : bits .and .i64 ((u : Int) / 256) 15 = (u : Int) / 256 % 16 := and15 (u / 256) (by omega)
 have a2 : bits .and .i64 ((u : Int) / 16) 15 = (u : Int) / 16 % 16 := and15 (u / 16) (by omega)
 have a3 : bits .and .i64 (u : Int) 15 = (u : Int) % 16 := and15 u (by omega)
 have x1 : ∀ w, (Instr.index 9 (.string hexTab) (.int .i64 ((u : Int) / 4096))).run Tryz.prog w = .ok (.int .u8 ((hexB (u / 4096)).toNat : Int)) w := fun w => hexTab_run w _ _ (by omega) (by omega)
 have x2 : ∀ w, (Instr.index 9 (.string hexTab) (.int .i64 ((u : Int) / 256 % 16))).run Tryz.prog w = .ok (.int .u8 ((hexB (u / 256 % 16)).toNat : Int)) w := fun w => hexTab_run w _ _ (by omega) (by omega)
 have x3 : ∀ w, (Instr.index 9 (.string hexTab) (.int .i64 ((u : Int) / 16 % 16))).run Tryz.prog w = .ok (.int .u8 ((hexB (u / 16 % 16)).toNat : Int)) w := fun w => hexTab_run w _ _ (by omega) (by omega)
 have x4 : ∀ w, (Instr.index 9 (.string hexTab) (.int .i64 ((u : Int) % 16))).run Tryz.prog w = .ok (.int .u8 ((hexB (u % 16)).toNat : Int)) w := fun w => hexTab_run w _ _ (by omega) (by omega)
 have HQ : Hid (quoted u = [92, 117, hexB (u / 4096), hexB (u / 256 % 16), hexB (u / 16 % 16), hexB (u % 16)]) := by
  show quoted u = _
  unfold quoted
  rw [if_neg (by omega), if_neg (by omega), if_neg (by omega), if_neg (by omega), if_neg (by omega), if_neg (by omega), if_neg (by omega), if_pos (by omega)]
 have hm1 : n + 6 ≤ maxLen := by unfold maxLen; omega
 have hm2 : (n + 6) * 1 ≤ 140737488355328 := by omega
 go_enter Tryz.func167, Tryz.ntmps167
 go_upto_region 3 with (fail)
 go_cut [17] (fun s17 wx => s17 = .bool false ∧ wx = w)
 case first =>
  go_wp2
  all_goals go_meet
  all_goals exact ⟨by first | rfl | (congr 1; rw [bne_eq_false_iff_eq]; omega), rfl⟩
 case rest =>
  obtain ⟨rfl, rfl⟩ := hcut
  go_upto_region 5 with (fail)
  go_cut [34] (fun s34 wx => s34 = .bool true ∧ wx = wc)
  case first =>
   go_wp2
   all_goals go_meet
   all_goals exact ⟨by first | rfl | (congr 1; simp; omega), rfl⟩
  case rest =>
   obtain ⟨rfl, rfl⟩ := hcut
   go_upto_region 6 with (fail)
   go_cut [4] (fun s4 wx => ∃ v', s4 = v' ∧ wx.ownsRow B 5 1 v' (n + 6) (xs ++ (quoted u).map bv) ∧ Below B wc wx)
   case first =>
    go_region_law ((refine step_app _ rfl (.tmp 41) (.tmp 56) 60 (by rfl) B 5 i0 _ 1 Tryz.underlying60 hi hz0 hz1 hz2 rfl _ n _ (by rfl) (hown.alloc _) _ _ 6 (by rfl) rfl (new_cells _ _ _) (by simp; exact ⟨rfl, rfl, rfl, rfl, rfl, rfl⟩) hm1 hm2 (by simp; omega) ?_; intro v' w' hown' hb'))
    all_goals go_wp2_with fail
    all_goals go_meet
    all_goals exact ⟨_, rfl, by rw [HQ.out]; exact hown', ((Below.refl _ _).alloc hB _).drew.trans hb'⟩
   case rest =>
    obtain ⟨v', rfl, h1, h2⟩ := hcut
    go_wp2
    go_ret
    exact ⟨_, rfl, h1, h2⟩
theorem appQ_two (B : Nat) (v : Value) (n : Nat) (xs : List Value) (u : Nat) (w : World) (hown : w.ownsRow B 5 1 v n xs) (hn : n ≤ 140737488355320) (hB : B ≤ w.heap.size)
  (h4 : u = 34 ∨ u = 92 ∨ u = 8 ∨ u = 9 ∨ u = 10 ∨ u = 12 ∨ u = 13) :
  Calls Tryz.prog 167 #[v, .int .i64 u] w fun e w' => ∃ v', e = .returned v' ∧ w'.ownsRow B 5 1 v' (n + 2) (xs ++ (quoted u).map bv) ∧ Below B w w' := by
 obtain ⟨i0, hi, hz0, hz1, hz2⟩ := info_parts info5
 rcases h4 with rfl | rfl | rfl | rfl | rfl | rfl | rfl
 all_goals
  go_enter Tryz.func167, Tryz.ntmps167
  go_wp2_with (at_builtin; refine app_lit _ rfl _ _ 60 (by rfl) B 5 i0 _ 1 Tryz.underlying60 hi hz0 hz1 hz2 rfl _ _ _ (by rfl) hown _ 2 (by rfl) rfl ?c1 ?c2 ?c3 hB ?_)
  case c1 => first | exact ⟨rfl, rfl⟩ | rfl
  case c2 => unfold maxLen; omega
  case c3 => omega
  intro v' w' hown' hb
  go_wp2
  go_ret
  refine ⟨_, rfl, ?_, hb⟩
  exact hown'
theorem appQ_one (B : Nat) (v : Value) (n : Nat) (xs : List Value) (u : Nat) (w : World) (hown : w.ownsRow B 5 1 v n xs) (hn : n ≤ 140737488355320) (hB : B ≤ w.heap.size)
  (h1 : 32 ≤ u) (h2 : u ≤ 126) (h3 : ¬ u = 34) (h4 : ¬ u = 92) :
  Calls Tryz.prog 167 #[v, .int .i64 u] w fun e w' => ∃ v', e = .returned v' ∧ w'.ownsRow B 5 1 v' (n + 1) (xs ++ (quoted u).map bv) ∧ Below B w w' := by
 obtain ⟨i0, hi, hz0, hz1, hz2⟩ := info_parts info5
 have b1 : ((u : Int) == 34) = false := by rw [beq_eq_false_iff_ne]; omega
 have b2 : ((u : Int) == 92) = false := by rw [beq_eq_false_iff_ne]; omega
 have HQ : Hid (quoted u = [UInt8.ofNat u]) := by
  show quoted u = _
  unfold quoted
  rw [if_neg (by omega), if_neg (by omega), if_neg (by omega), if_neg (by omega), if_neg (by omega), if_neg (by omega), if_neg (by omega), if_neg (by omega)]
 have E2 : Hid (((UInt8.ofNat u).toNat : Int) = (u : Int)) := (wrap_lo u).trans (by omega)
 go_enter Tryz.func167, Tryz.ntmps167
 go_wp2_with (at_builtin; refine app_lit _ rfl _ _ 60 (by rfl) B 5 i0 _ 1 Tryz.underlying60 hi hz0 hz1 hz2 rfl _ _ _ (by rfl) hown _ 1 (by rfl) rfl ?c1 ?c2 ?c3 hB ?_)
 case c1 => rfl
 case c2 => unfold maxLen; omega
 case c3 => omega
 intro v' w' hown' hb
 go_wp2
 go_ret
 refine ⟨_, rfl, ?_, hb⟩
 rw [HQ.out, List.map_singleton]
 unfold bv
 rw [E2.out]
 exact hown'
theorem hex_int (i : Int) (n : Nat) (w : World) (hi : i = (n : Int)) (hn : n < 16) :
  Calls Tryz.prog 161 #[.int .i64 i] w fun e w' => e = .returned (.int .u8 (hexB n).toNat) ∧ w = w' := by
 subst hi
 exact hex_any n w hn
theorem conv_new (w : World) (l : Bs) (arr : Array Value) (n : Nat) (h : arr = (l.map bv).toArray) (hn : n = l.length) :
  (convert 60 9 (.slice (some ⟨w.heap.size, 0, none⟩) n n)).run Tryz.prog (w.alloc (.cells arr 5)) = .ok (.string ⟨l.toArray⟩) (w.alloc (.cells arr 5)) := by
 subst hn
 refine run_convert_bytes_back _ _ _ 5 _ _ l Tryz.underlying60 Tryz.underlying5 Tryz.underlying9 fun j hj => ?_
 have hadd : (⟨w.heap.size, 0, none⟩ : Addr).add j = ⟨w.heap.size, j, none⟩ := by unfold Addr.add; split <;> simp_all
 rw [hadd]
 refine new_cells w arr _ j _ ?_
 rw [h]
 simp [bv, hj]
theorem quoted_any (u : Nat) (hu : u < 65536) (w : World) :
  Calls Tryz.prog 155 #[.int .i64 u] w fun e w' => e = .returned (.string ⟨(quoted u).toArray⟩) ∧ Below w.heap.size w w' := by
 have h : u = 34 ∨ u = 92 ∨ u = 8 ∨ u = 9 ∨ u = 10 ∨ u = 12 ∨ u = 13 ∨ (¬ u = 34 ∧ ¬ u = 92 ∧ ¬ u = 8 ∧ ¬ u = 9 ∧ ¬ u = 10 ∧ ¬ u = 12 ∧ ¬ u = 13) := by omega
 rcases h with rfl | rfl | rfl | rfl | rfl | rfl | rfl | ⟨h1, h2, h3, h4, h5, h6, h7⟩
 iterate 7 (focus (go_enter Tryz.func155, Tryz.ntmps155; go_wp2; go_ret; exact ⟨rfl, Below.refl _ _⟩))
 ·have b : ∀ m : Int, ¬ (u : Int) = m → ((u : Int) == m) = false := fun m hm => by rw [beq_eq_false_iff_ne]; exact hm
  have b1 := b 34 (by omega)
  have b2 := b 92 (by omega)
  have b3 := b 8 (by omega)
  have b4 := b 9 (by omega)
  have b5 := b 10 (by omega)
  have b6 := b 12 (by omega)
  have b7 := b 13 (by omega)
  clear b
  by_cases hr : u < 32 ∨ 126 < u
  ·have HQ : Hid (quoted u = [92, 117, hexB (u / 4096), hexB (u / 256 % 16), hexB (u / 16 % 16), hexB (u % 16)]) := by
    show quoted u = _
    unfold quoted
    rw [if_neg (by omega), if_neg (by omega), if_neg (by omega), if_neg (by omega), if_neg (by omega), if_neg (by omega), if_neg (by omega), if_pos (by omega)]
   clear h1 h2 h3 h4 h5 h6 h7
   rcases hr with hr | hr
   all_goals
    go_enter Tryz.func155, Tryz.ntmps155
    go_wp2_with fail
    refine (hex_int _ (u / 4096) _ (by omega) (by omega)).mono ?_
    rintro e w' ⟨rfl, rfl⟩
    go_wp2_with fail
    refine (hex_int _ (u / 256 % 16) _ (by omega) (by omega)).mono ?_
    rintro e w' ⟨rfl, rfl⟩
    go_wp2_with fail
    refine (hex_int _ (u / 16 % 16) _ (by omega) (by omega)).mono ?_
    rintro e w' ⟨rfl, rfl⟩
    go_wp2_with fail
    refine (hex_int _ (u % 16) _ (by omega) (by omega)).mono ?_
    rintro e w' ⟨rfl, rfl⟩
    have hcv := conv_new w [92, 117, hexB (u / 4096), hexB (u / 256 % 16), hexB (u / 16 % 16), hexB (u % 16)] #[.int .u8 92, .int .u8 117, .int .u8 (hexB (u / 4096)).toNat, .int .u8 (hexB (u / 256 % 16)).toNat, .int .u8 (hexB (u / 16 % 16)).toNat, .int .u8 (hexB (u % 16)).toNat] 6 rfl rfl
    go_wp2
    go_ret
    exact ⟨by rw [HQ.out]; rfl, (Below.refl _ _).alloc (Nat.le_refl _) _⟩
  ·have HQ : Hid (quoted u = [UInt8.ofNat u]) := by
    show quoted u = _
    unfold quoted
    rw [if_neg (by omega), if_neg (by omega), if_neg (by omega), if_neg (by omega), if_neg (by omega), if_neg (by omega), if_neg (by omega), if_neg (by omega)]
   obtain ⟨hr1, hr2⟩ : 32 ≤ u ∧ u ≤ 126 := by omega
   have E2 : Hid (((UInt8.ofNat u).toNat : Int) = (u : Int)) := (wrap_lo u).trans (by omega)
   have hcv := conv_new w [UInt8.ofNat u] #[.int .u8 u] 1 (by simp [bv]; omega) rfl
   clear h1 h2 h3 h4 h5 h6 h7 hr
   go_enter Tryz.func155, Tryz.ntmps155
   go_wp2
   go_ret
   exact ⟨by rw [HQ.out]; rfl, (Below.refl _ _).alloc (Nat.le_refl _) _⟩
theorem mk_append (a b : Bs) : (ByteArray.mk a.toArray) ++ (ByteArray.mk b.toArray) = ByteArray.mk (a ++ b).toArray := by
 apply ByteArray.ext
 apply Array.toList_inj.1
 simp
def quoteRes (l : Bs) : Value := if l.length % 2 = 0 then .tuple #[.string ⟨(quote (us l)).toArray⟩, .int .i64 0] else .tuple #[.string ⟨#[]⟩, .int .i64 10]
theorem quoteRes_odd {l : Bs} (h : ¬ l.length % 2 = 0) : quoteRes l = .tuple #[.string ⟨#[]⟩, .int .i64 10] := if_neg h
theorem quoteRes_even {l : Bs} (h : l.length % 2 = 0) : quoteRes l = .tuple #[.string ⟨(quote (us l)).toArray⟩, .int .i64 0] := if_pos h
theorem flat_snoc (u : List Nat) (k : Nat) (h : k < u.length) : 34 :: (u.take (k + 1)).flatMap quoted = (34 :: (u.take k).flatMap quoted) ++ quoted u[k] := by
 rw [List.take_succ_eq_append_getElem h, List.flatMap_append, List.flatMap_singleton, List.cons_append]
theorem refQuote_any (s : ByteArray) (w : World) (hs : s.size ≤ 4194304) :
  Calls Tryz.prog 145 #[.string s] w fun e w' => e = .returned (quoteRes s.data.toList) ∧ Below w.heap.size w w' := by
 have hul : (us s.data.toList).length ≤ 2097152 := by rw [us_length, size_list]; omega
 have h16 : ∀ k (h : k < (us s.data.toList).length), (us s.data.toList)[k] < 65536 := fun k h => us_lt s.data.toList _ (List.getElem_mem h)
 have HL := Lib.hid (list_any s)
 by_cases heven : s.size % 2 = 0
 ·have HC : Hid (∀ w, Calls Tryz.prog 40 #[.string s] w fun e w' => e = .returned (.bool true) ∧ w = w') := fun w => (refCheck_any s w (by unfold maxLen; omega)).mono fun e w' ⟨h1, h2⟩ => ⟨by rw [h1, decide_eq_true heven], h2⟩
  have HR0 := Lib.hid (quoteRes_even (l := s.data.toList) (by rw [size_list]; exact heven))
  generalize us s.data.toList = u at *
  have H16 := Lib.hid h16
  clear h16 heven
  go_enter Tryz.func145, Tryz.ntmps145
  go_wp2_with (go_at_call 40; refine (HC.out _).mono ?_; rintro e w' ⟨rfl, rfl⟩)
  refine (HL.out _ (by omega)).mono ?_
  rintro e w1 ⟨A, c, rfl, hr, hb1⟩
  have HR := Lib.hid hr
  clear hr HL HC
  go_wp2
  go_loopw [4, 13] (fun v x wr => ∃ (k : Nat) (t : Bs), k ≤ u.length ∧ x = .int .i64 k ∧ v = .string ⟨t.toArray⟩ ∧ t.length ≤ 1 + 6 * k ∧ Hid (t = 34 :: (u.take k).flatMap quoted) ∧ Below w1.heap.size w1 wr)
   (fun _ x _ => u.length - (intOf x).toNat)
  case atStart => exact ⟨0, [34], by omega, rfl, rfl, by decide, rfl, Below.refl _ _⟩
  case round =>
   obtain ⟨k, t, hk, rfl, rfl, ht, hq, hb⟩ := hrel
   by_cases hlt : k < u.length
   ·rcases HR.out with hr | ⟨g, rfl, hg1, hg2, hg3⟩
    ·subst hr; simp at hlt
    have hc : wr.cell? ⟨g, k, none⟩ = some (.int .i64 (u[k] : Nat)) := (hb.cell (p := ⟨g, k, none⟩) hg2).trans (hg3 k hlt)
    have h16 := H16.out k hlt
    have hql := quoted_length u[k]
    have HF := Lib.hid (flat_snoc u k hlt)
    have HQ := Lib.hid (quoted_any u[k] h16)
    generalize quoted u[k] = qt at *
    have HM := Lib.hid (mk_append t qt)
    clear hg3 h16
    go_wp2_with (go_at_call 155; refine (HQ.out _).mono ?_; rintro e w2 ⟨rfl, hb2⟩)
    rw [HM.out]
    have hb3 := hb.trans (hb2.mono hb.size)
    go_roundw
    case rel => exact ⟨k + 1, t ++ qt, by omega, by go_num, rfl, by rw [List.length_append]; omega, by rw [HF.out, ← hq.out]; rfl, hb3⟩
    case measure => simp [intOf]; omega
   ·have HE : Hid (u.take k = u) := Lib.hid (List.take_of_length_le (by omega))
    rw [HE.out] at hq
    have HM := Lib.hid (mk_append t [34])
    go_wp2
    go_ret2
    refine ⟨?_, hb1.trans (hb.mono hb1.size)⟩
    rw [HR0.out]
    unfold quote
    rw [← List.cons_append, ← hq.out, ← HM.out]
    rfl
 ·have HC : Hid (∀ w, Calls Tryz.prog 40 #[.string s] w fun e w' => e = .returned (.bool false) ∧ w = w') := fun w => (refCheck_any s w (by unfold maxLen; omega)).mono fun e w' ⟨h1, h2⟩ => ⟨by rw [h1, decide_eq_false heven], h2⟩
  have HR0 := Lib.hid (quoteRes_odd (l := s.data.toList) (by rw [size_list]; exact heven))
  clear h16 heven HL hul
  go_enter Tryz.func145, Tryz.ntmps145
  go_wp2_with (go_at_call 40; refine (HC.out _).mono ?_; rintro e w' ⟨rfl, rfl⟩)
  go_ret2
  exact ⟨by rw [HR0.out]; rfl, Below.refl _ _⟩
end Go.Proofs.YtllpgoaanbiodaaGreatDoor
