/-
  The reader's value, by contract.
-/
import Derived.Test.YtnkknlhdbhfjlaaRc
namespace Go.Proofs.Ytnkknlhdbhfjlaa
open Go.RowKit

section
variable {B : Nat}
theorem isP_plain (w : World) (P : Nat → Prop) (k n : Int) (s : ByteArray) : IsP w P (.mk k n s [] []) ⟨k, n, s, none, 0, 0, none, 0, 0⟩ := by
  rw [isP_iff]
  exact ⟨⟨rfl, rfl, rfl⟩, ⟨rfl, Nat.le_refl _, .inl rfl⟩, rfl, Nat.le_refl _, .inl rfl⟩
theorem val_row {w w2 : World} {R : Nat} (hR : R < w.heap.size) (hk : Kp R (w.alloc zrow) w2) : w2.heap[w.heap.size]? = some zrow := (hk.block (by simp) (by omega)).trans (hp_new rfl)
theorem val_done {w w2 : World} {R : Nat} {l : Bs} {v : V} {n : Nat} {y : X} (hR : R < w.heap.size) (hB : B ≤ w.heap.size) (hk : Kp R (w.alloc zrow) w2) (hy : IsP w2 (fun g => w.heap.size + 1 ≤ g ∧ g < w2.heap.size) v y) (hr : Rd w2 B R (l.drop n)) :
    Post B R l w (.good v n) (.returned y.v) (put5 w2 w.heap.size 0 y) := by
  have hfr := put5_fr w2 w.heap.size 0 y
  refine ⟨y, rfl, IsP.fr (hfr.mono fun q hq => by show q ≠ w.heap.size; omega) (fun q hq => ⟨by omega, Nat.lt_of_lt_of_le hq.2 hfr.size⟩) _ _ hy, hr.fr hfr (by show R ≠ w.heap.size; omega) (fun g hg => by show g ≠ w.heap.size; omega), ?_⟩
  exact Fr.trans (Kp.of (below_alloc w zrow)) (Fr.trans (Fr.mono hk fun q hq => ⟨by simp; omega, hq.2⟩) (hfr.mono fun q hq => by have := hq.1; show q ≠ w.heap.size; omega))
theorem val_bad {w w2 : World} {R : Nat} {l : Bs} {q : Nat} (hk : Kp R (w.alloc zrow) w2) : Post B R l w (.bad q) (pan q) w2 := ⟨rfl, Kp.trans (Kp.of (below_alloc w zrow)) hk⟩
theorem up_good {x : Dec} {v : V} {n : Nat} (h : x = .good v n) : x.up = .good v (n + 1) := by rw [h]; rfl
theorem up_bad {x : Dec} {q : Nat} (h : x = .bad q) : x.up = .bad q := by rw [h]; rfl

set_option maxRecDepth 8000 in
set_option maxHeartbeats 1000000 in
theorem value_nil (d : Nat) (R : Nat) (w : World) (within : Nat) (h : Rd w B R []) : Calls Try.prog 22 #[.pointer (some ⟨R, 0, none⟩), .int .i64 within] w (Post B R [] w (dec d [])) := by
  have HF := Lib.hid fun w' (hb : Below w.heap.size w w') => first_nil R w' (h.below hb)
  have hD : dec d [] = .bad 20 := by cases d <;> rfl
  rw [hD]
  clear h hD
  go_enter Try.func22, Try.ntmps22
  go_wp2_with fail
  refine (HF.out _ (below_alloc _ _)).mono ?_
  rintro e w1 ⟨rfl, hk⟩
  go_wp2_with fail
  exact ⟨rfl, val_bad hk⟩
set_option maxRecDepth 8000 in
set_option maxHeartbeats 1000000 in
theorem value_zero (R : Nat) (c : UInt8) (r : Bs) (w : World) (h : Rd w B R (c :: r)) : Calls Try.prog 22 #[.pointer (some ⟨R, 0, none⟩), .int .i64 20] w (Post B R (c :: r) w (dec 0 (c :: r))) := by
  have HF := Lib.hid fun w' (hb : Below w.heap.size w w') => first_cons R c r w' (h.below hb)
  have hD : dec 0 (c :: r) = .bad 31 := rfl
  rw [hD]
  clear h hD
  go_enter Try.func22, Try.ntmps22
  go_wp2_with fail
  refine (HF.out _ (below_alloc _ _)).mono ?_
  rintro e w1 ⟨rfl, hr, hk⟩
  go_wp2_with fail
  exact ⟨rfl, val_bad hk⟩
/-- what is asked of a value's first byte -/
theorem first_lit (R : Nat) (c : UInt8) (r : Bs) (w : World) (h : Rd w B R (c :: r)) (n : Int) (hn : (c.toNat : Int) = n) : Hid (∀ w', Below w.heap.size w w' → Calls Try.prog 36 #[.pointer (some ⟨R, 0, none⟩)] w' fun e w2 => e = .returned (.int .u8 n) ∧ Rd w2 B R r ∧ Kp R w' w2) := fun w' hb => by
  rw [← hn]
  exact first_cons R c r w' (h.below hb)
theorem not_twenty {within d : Nat} (h : within + (d + 1) = 20) : ((within : Int) == 20) = false := by rw [beq_eq_false_iff_ne]; omega

set_option maxRecDepth 8000 in
set_option maxHeartbeats 1000000 in
theorem value_word (d : Nat) (R : Nat) (c : UInt8) (r : Bs) (w : World) (within : Nat) (h : Rd w B R (c :: r)) (hB : B ≤ w.heap.size) (hw : within + (d + 1) = 20) (hc : c = 0 ∨ c = 1 ∨ c = 2 ∨ c = 3) : Calls Try.prog 22 #[.pointer (some ⟨R, 0, none⟩), .int .i64 within] w (Post B R (c :: r) w (dec (d + 1) (c :: r))) := by
  obtain ⟨i5, hi5, hz5, hs5, hb5⟩ := info_parts infoData
  have hR := h.lt
  have hwi := not_twenty hw
  rcases hc with rfl | rfl | rfl | rfl
  · have HF := first_lit R 0 r w h 0 rfl
    have HD : Hid (dec (d + 1) (0 :: r) = .good (.mk 0 0 ⟨#[]⟩ [] []) 1) := rfl
    clear h hw
    go_enter Try.func22, Try.ntmps22
    go_wp2_with fail
    refine (HF.out _ (below_alloc _ _)).mono ?_
    rintro e w1 ⟨rfl, hr, hk⟩
    have hzr := val_row hR hk
    obtain ⟨t0, t1, t2, t3, t4, t5⟩ := zrow_cells hzr
    have f0 := t5 0
    have f1 := t5 1
    have f2 := t5 2
    have f3 := t5 3
    have f4 := t5 4
    have HZ := Lib.hid hzr
    have HK := Lib.hid hk
    clear t5 hzr hk HF
    go_wp2_with fail
    rw [← put5_lit]
    refine bodyPost_ret (results_cell_row rfl _ _ w.heap.size 25 _ (0, 0) _ rfl (put5_row HZ.out _) Try.underlying25 rfl (by rw [hi5]; simp [hs5, X.cells])) rfl ?_
    rw [HD.out]
    exact val_done hR hB HK.out (isP_plain _ _ _ _ _) hr
  · have HF := first_lit R 1 r w h 1 rfl
    have HD : Hid (dec (d + 1) (1 :: r) = .good (.mk 1 0 ⟨#[]⟩ [] []) 1) := rfl
    clear h hw
    go_enter Try.func22, Try.ntmps22
    go_wp2_with fail
    refine (HF.out _ (below_alloc _ _)).mono ?_
    rintro e w1 ⟨rfl, hr, hk⟩
    have hzr := val_row hR hk
    obtain ⟨t0, t1, t2, t3, t4, t5⟩ := zrow_cells hzr
    have f0 := t5 0
    have f1 := t5 1
    have f2 := t5 2
    have f3 := t5 3
    have f4 := t5 4
    have HZ := Lib.hid hzr
    have HK := Lib.hid hk
    clear t5 hzr hk HF
    go_wp2_with fail
    rw [← put5_lit]
    refine bodyPost_ret (results_cell_row rfl _ _ w.heap.size 25 _ (0, 0) _ rfl (put5_row HZ.out _) Try.underlying25 rfl (by rw [hi5]; simp [hs5, X.cells])) rfl ?_
    rw [HD.out]
    exact val_done hR hB HK.out (isP_plain _ _ _ _ _) hr
  · have HF := first_lit R 2 r w h 2 rfl
    have HD : Hid (dec (d + 1) (2 :: r) = .good (.mk 2 0 ⟨#[]⟩ [] []) 1) := rfl
    clear h hw
    go_enter Try.func22, Try.ntmps22
    go_wp2_with fail
    refine (HF.out _ (below_alloc _ _)).mono ?_
    rintro e w1 ⟨rfl, hr, hk⟩
    have hzr := val_row hR hk
    obtain ⟨t0, t1, t2, t3, t4, t5⟩ := zrow_cells hzr
    have f0 := t5 0
    have f1 := t5 1
    have f2 := t5 2
    have f3 := t5 3
    have f4 := t5 4
    have HZ := Lib.hid hzr
    have HK := Lib.hid hk
    clear t5 hzr hk HF
    go_wp2_with fail
    rw [← put5_lit]
    refine bodyPost_ret (results_cell_row rfl _ _ w.heap.size 25 _ (0, 0) _ rfl (put5_row HZ.out _) Try.underlying25 rfl (by rw [hi5]; simp [hs5, X.cells])) rfl ?_
    rw [HD.out]
    exact val_done hR hB HK.out (isP_plain _ _ _ _ _) hr
  · have HF := first_lit R 3 r w h 3 rfl
    have HD : Hid (dec (d + 1) (3 :: r) = .good (.mk 2 1 ⟨#[]⟩ [] []) 1) := rfl
    clear h hw
    go_enter Try.func22, Try.ntmps22
    go_wp2_with fail
    refine (HF.out _ (below_alloc _ _)).mono ?_
    rintro e w1 ⟨rfl, hr, hk⟩
    have hzr := val_row hR hk
    obtain ⟨t0, t1, t2, t3, t4, t5⟩ := zrow_cells hzr
    have f0 := t5 0
    have f1 := t5 1
    have f2 := t5 2
    have f3 := t5 3
    have f4 := t5 4
    have HZ := Lib.hid hzr
    have HK := Lib.hid hk
    clear t5 hzr hk HF
    go_wp2_with fail
    rw [← put5_lit]
    refine bodyPost_ret (results_cell_row rfl _ _ w.heap.size 25 _ (0, 0) _ rfl (put5_row HZ.out _) Try.underlying25 rfl (by rw [hi5]; simp [hs5, X.cells])) rfl ?_
    rw [HD.out]
    exact val_done hR hB HK.out (isP_plain _ _ _ _ _) hr

set_option maxRecDepth 8000 in
set_option maxHeartbeats 1000000 in
theorem value_num (d : Nat) (R : Nat) (r : Bs) (w : World) (within : Nat) (h : Rd w B R (4 :: r)) (hB : B ≤ w.heap.size) (hw : within + (d + 1) = 20) : Calls Try.prog 22 #[.pointer (some ⟨R, 0, none⟩), .int .i64 within] w (Post B R (4 :: r) w (dec (d + 1) (4 :: r))) := by
  obtain ⟨i5, hi5, hz5, hs5, hb5⟩ := info_parts infoData
  have hR := h.lt
  have hwi := not_twenty hw
  have HF := first_lit R 4 r w h 4 rfl
  have HD0 : dec (d + 1) (4 :: r) = (decNum 4 r).up := rfl
  by_cases he : (O.rd 0 0 r).2.2 = 0
  · obtain ⟨n, k0, hr⟩ : ∃ n k0, O.rd 0 0 r = (n, k0, 0) := ⟨_, _, Prod.ext rfl (Prod.ext rfl he)⟩
    have hn64 := (rd_take hr).2.2.2
    by_cases hn : n ≤ 9007199254740991
    · have HD : Hid (dec (d + 1) (4 :: r) = .good (.mk 3 (n : Int) ⟨#[]⟩ [] []) (k0 + 1)) := by
        rw [HD0]
        refine up_good ?_
        unfold decNum
        rw [hr, if_neg (by simp), if_neg (by intro e; rcases e with e | ⟨e, _⟩; omega; exact absurd e (by decide)), if_neg (by decide)]
      have HN := Lib.hid fun w' (hrd : Rd w' B R r) => numUpTo_good R n k0 9007199254740991 r w' hrd hr hn (by decide)

      clear h hw he hr hn64 HD0
      go_enter Try.func22, Try.ntmps22
      go_wp2_with fail
      refine (HF.out _ (below_alloc _ _)).mono ?_
      rintro e w1 ⟨rfl, hr1, hk1⟩
      go_wp2_with fail
      refine (HN.out _ hr1).mono ?_
      rintro e w2 ⟨rfl, hr2, hk2⟩
      have hk := hk1.trans hk2
      clear hr1 hk1 hk2 HN HF
      have hzr := val_row hR hk
      obtain ⟨t0, t1, t2, t3, t4, t5⟩ := zrow_cells hzr
      have f0 := t5 0
      have f1 := t5 1
      have f2 := t5 2
      have f3 := t5 3
      have f4 := t5 4
      have HZ := Lib.hid hzr
      have HK := Lib.hid hk
      clear t5 hzr hk
      go_wp2_with fail
      rw [← put5_lit]
      refine bodyPost_ret (results_cell_row rfl _ _ w.heap.size 25 _ (0, 0) _ rfl (put5_row HZ.out _) Try.underlying25 rfl (by rw [hi5]; simp [hs5, X.cells])) rfl ?_
      rw [HD.out]
      exact val_done hR hB HK.out (isP_plain _ _ _ _ _) hr2
    · have HD : Hid (dec (d + 1) (4 :: r) = .bad 22) := by
        rw [HD0]
        refine up_bad ?_
        unfold decNum
        rw [hr, if_neg (by simp), if_pos (by first | exact .inl (by omega) | exact .inr ⟨rfl, by omega⟩)]
      have HN := Lib.hid fun w' (hrd : Rd w' B R r) => numUpTo_over R n k0 9007199254740991 r w' hrd hr (by omega)
      clear h hw he hr hn64 HD0 hn
      go_enter Try.func22, Try.ntmps22
      go_wp2_with fail
      refine (HF.out _ (below_alloc _ _)).mono ?_
      rintro e w1 ⟨rfl, hr1, hk1⟩
      go_wp2_with fail
      refine (HN.out _ hr1).mono ?_
      rintro e w2 ⟨rfl, hk2⟩
      go_wp2_with fail
      exact ⟨rfl, by rw [HD.out]; exact val_bad (hk1.trans hk2)⟩
  · have hbad := rd_bad0 he
    have hr : O.rd 0 0 r = (0, 0, (O.rd 0 0 r).2.2) := Prod.ext hbad.1 (Prod.ext hbad.2 rfl)
    have HD : Hid (dec (d + 1) (4 :: r) = .bad (O.rd 0 0 r).2.2) := by
      rw [HD0]
      refine up_bad ?_
      unfold decNum
      rw [if_pos he]
    have HN := Lib.hid fun w' (hrd : Rd w' B R r) => numUpTo_bad R _ 9007199254740991 r w' hrd hr ((rd_err r).resolve_left he)
    generalize (O.rd 0 0 r).2.2 = q at *
    clear h hw he hr hbad HD0
    go_enter Try.func22, Try.ntmps22
    go_wp2_with fail
    refine (HF.out _ (below_alloc _ _)).mono ?_
    rintro e w1 ⟨rfl, hr1, hk1⟩
    go_wp2_with fail
    refine (HN.out _ hr1).mono ?_
    rintro e w2 ⟨rfl, hk2⟩
    go_wp2_with fail
    exact ⟨rfl, by rw [HD.out]; exact val_bad (hk1.trans hk2)⟩

set_option maxRecDepth 8000 in
set_option maxHeartbeats 1000000 in
theorem value_minus (d : Nat) (R : Nat) (r : Bs) (w : World) (within : Nat) (h : Rd w B R (5 :: r)) (hB : B ≤ w.heap.size) (hw : within + (d + 1) = 20) : Calls Try.prog 22 #[.pointer (some ⟨R, 0, none⟩), .int .i64 within] w (Post B R (5 :: r) w (dec (d + 1) (5 :: r))) := by
  obtain ⟨i5, hi5, hz5, hs5, hb5⟩ := info_parts infoData
  have hR := h.lt
  have hwi := not_twenty hw
  have HF := first_lit R 5 r w h 5 rfl
  have HD0 : dec (d + 1) (5 :: r) = (decNum 5 r).up := rfl
  by_cases he : (O.rd 0 0 r).2.2 = 0
  · obtain ⟨n, k0, hr⟩ : ∃ n k0, O.rd 0 0 r = (n, k0, 0) := ⟨_, _, Prod.ext rfl (Prod.ext rfl he)⟩
    have hn64 := (rd_take hr).2.2.2
    by_cases hn : n ≤ 9007199254740990
    · have HD : Hid (dec (d + 1) (5 :: r) = .good (.mk 3 (-1 - (n : Int)) ⟨#[]⟩ [] []) (k0 + 1)) := by
        rw [HD0]
        refine up_good ?_
        unfold decNum
        rw [hr, if_neg (by simp), if_neg (by omega), if_pos rfl]
      have HN := Lib.hid fun w' (hrd : Rd w' B R r) => numUpTo_good R n k0 9007199254740990 r w' hrd hr hn (by decide)
      have e1 : IntKind.i64.wrap (-1 - (n : Int)) = -1 - (n : Int) := IntWalk.i64_in _ (by omega)
      clear h hw he hr hn64 HD0
      go_enter Try.func22, Try.ntmps22
      go_wp2_with fail
      refine (HF.out _ (below_alloc _ _)).mono ?_
      rintro e w1 ⟨rfl, hr1, hk1⟩
      go_wp2_with fail
      refine (HN.out _ hr1).mono ?_
      rintro e w2 ⟨rfl, hr2, hk2⟩
      have hk := hk1.trans hk2
      clear hr1 hk1 hk2 HN HF
      have hzr := val_row hR hk
      obtain ⟨t0, t1, t2, t3, t4, t5⟩ := zrow_cells hzr
      have f0 := t5 0
      have f1 := t5 1
      have f2 := t5 2
      have f3 := t5 3
      have f4 := t5 4
      have HZ := Lib.hid hzr
      have HK := Lib.hid hk
      clear t5 hzr hk
      go_wp2_with fail
      rw [← put5_lit]
      refine bodyPost_ret (results_cell_row rfl _ _ w.heap.size 25 _ (0, 0) _ rfl (put5_row HZ.out _) Try.underlying25 rfl (by rw [hi5]; simp [hs5, X.cells])) rfl ?_
      rw [HD.out]
      exact val_done hR hB HK.out (isP_plain _ _ _ _ _) hr2
    · have HD : Hid (dec (d + 1) (5 :: r) = .bad 22) := by
        rw [HD0]
        refine up_bad ?_
        unfold decNum
        rw [hr, if_neg (by simp), if_pos (by first | exact .inl (by omega) | exact .inr ⟨rfl, by omega⟩)]
      have HN := Lib.hid fun w' (hrd : Rd w' B R r) => numUpTo_over R n k0 9007199254740990 r w' hrd hr (by omega)
      clear h hw he hr hn64 HD0 hn
      go_enter Try.func22, Try.ntmps22
      go_wp2_with fail
      refine (HF.out _ (below_alloc _ _)).mono ?_
      rintro e w1 ⟨rfl, hr1, hk1⟩
      go_wp2_with fail
      refine (HN.out _ hr1).mono ?_
      rintro e w2 ⟨rfl, hk2⟩
      go_wp2_with fail
      exact ⟨rfl, by rw [HD.out]; exact val_bad (hk1.trans hk2)⟩
  · have hbad := rd_bad0 he
    have hr : O.rd 0 0 r = (0, 0, (O.rd 0 0 r).2.2) := Prod.ext hbad.1 (Prod.ext hbad.2 rfl)
    have HD : Hid (dec (d + 1) (5 :: r) = .bad (O.rd 0 0 r).2.2) := by
      rw [HD0]
      refine up_bad ?_
      unfold decNum
      rw [if_pos he]
    have HN := Lib.hid fun w' (hrd : Rd w' B R r) => numUpTo_bad R _ 9007199254740990 r w' hrd hr ((rd_err r).resolve_left he)
    generalize (O.rd 0 0 r).2.2 = q at *
    clear h hw he hr hbad HD0
    go_enter Try.func22, Try.ntmps22
    go_wp2_with fail
    refine (HF.out _ (below_alloc _ _)).mono ?_
    rintro e w1 ⟨rfl, hr1, hk1⟩
    go_wp2_with fail
    refine (HN.out _ hr1).mono ?_
    rintro e w2 ⟨rfl, hk2⟩
    go_wp2_with fail
    exact ⟨rfl, by rw [HD.out]; exact val_bad (hk1.trans hk2)⟩

set_option maxRecDepth 8000 in
set_option maxHeartbeats 1000000 in
theorem value_text (d : Nat) (R : Nat) (r : Bs) (w : World) (within : Nat) (h : Rd w B R (6 :: r)) (hB : B ≤ w.heap.size) (hw : within + (d + 1) = 20) : Calls Try.prog 22 #[.pointer (some ⟨R, 0, none⟩), .int .i64 within] w (Post B R (6 :: r) w (dec (d + 1) (6 :: r))) := by
  obtain ⟨i5, hi5, hz5, hs5, hb5⟩ := info_parts infoData
  have hR := h.lt
  have hwi := not_twenty hw
  have HF := first_lit R 6 r w h 6 rfl
  have HD0 : dec (d + 1) (6 :: r) = (decText r).up := rfl
  by_cases hu : (utx r).2.2 = 0
  · obtain ⟨s, k1, hus⟩ : ∃ s k1, utx r = (s, k1, 0) := ⟨_, _, Prod.ext rfl (Prod.ext rfl hu)⟩
    have HD : Hid (dec (d + 1) (6 :: r) = .good (.mk 4 0 s [] []) (k1 + 1)) := by
      rw [HD0]
      refine up_good ?_
      unfold decText
      rw [hus, if_neg (by simp)]
    have HN := Lib.hid fun w' (hrd : Rd w' B R r) => text_good R k1 s r w' hrd hus
    clear h hw hu hus HD0
    go_enter Try.func22, Try.ntmps22
    go_wp2_with fail
    refine (HF.out _ (below_alloc _ _)).mono ?_
    rintro e w1 ⟨rfl, hr1, hk1⟩
    go_wp2_with fail
    refine (HN.out _ hr1).mono ?_
    rintro e w2 ⟨rfl, hr2, hk2⟩
    have hk := hk1.trans hk2
    clear hr1 hk1 hk2 HN HF
    have hzr := val_row hR hk
    obtain ⟨t0, t1, t2, t3, t4, t5⟩ := zrow_cells hzr
    have f0 := t5 0
    have f1 := t5 1
    have f2 := t5 2
    have f3 := t5 3
    have f4 := t5 4
    have HZ := Lib.hid hzr
    have HK := Lib.hid hk
    clear t5 hzr hk
    go_wp2_with fail
    rw [← put5_lit]
    refine bodyPost_ret (results_cell_row rfl _ _ w.heap.size 25 _ (0, 0) _ rfl (put5_row HZ.out _) Try.underlying25 rfl (by rw [hi5]; simp [hs5, X.cells])) rfl ?_
    rw [HD.out]
    exact val_done hR hB HK.out (isP_plain _ _ _ _ _) hr2
  · have HD : Hid (dec (d + 1) (6 :: r) = .bad (utx r).2.2) := by
      rw [HD0]
      refine up_bad ?_
      unfold decText
      rw [if_pos hu]
    have HN := Lib.hid fun w' (hrd : Rd w' B R r) => text_bad R _ r w' hrd rfl hu
    generalize (utx r).2.2 = q at *
    clear h hw hu HD0
    go_enter Try.func22, Try.ntmps22
    go_wp2_with fail
    refine (HF.out _ (below_alloc _ _)).mono ?_
    rintro e w1 ⟨rfl, hr1, hk1⟩
    go_wp2_with fail
    refine (HN.out _ hr1).mono ?_
    rintro e w2 ⟨rfl, hk2⟩
    go_wp2_with fail
    exact ⟨rfl, by rw [HD.out]; exact val_bad (hk1.trans hk2)⟩

set_option maxRecDepth 8000 in
set_option maxHeartbeats 1000000 in
theorem value_list (d : Nat) (ih : AtV d) (R : Nat) (r : Bs) (w : World) (within : Nat) (h : Rd w B R (7 :: r)) (hB : B ≤ w.heap.size) (hw : within + (d + 1) = 20) : Calls Try.prog 22 #[.pointer (some ⟨R, 0, none⟩), .int .i64 within] w (Post B R (7 :: r) w (dec (d + 1) (7 :: r))) := by
  obtain ⟨i5, hi5, hz5, hs5, hb5⟩ := info_parts infoData
  have hR := h.lt
  have hwi := not_twenty hw
  have HF := first_lit R 7 r w h 7 rfl
  have HD0 : dec (d + 1) (7 :: r) = (decAll (dec d) 5 r).up := rfl
  cases hx : decAll (dec d) 5 r with
  | bad q =>
    have HD := Lib.hid (HD0.trans (up_bad hx))
    have HN := Lib.hid fun w' (hrd : Rd w' B R r) (hb : w.heap.size ≤ w'.heap.size) => list_any d ih R r w' within hrd (by omega) hw
    rw [hx] at HN
    clear h hw HD0 hx ih
    go_enter Try.func22, Try.ntmps22
    go_wp2_with fail
    refine (HF.out _ (below_alloc _ _)).mono ?_
    rintro e w1 ⟨rfl, hr1, hk1⟩
    have hz1 := hk1.size
    simp at hz1
    go_wp2_with fail
    refine (HN.out _ hr1 (by omega)).mono ?_
    rintro e w2 ⟨rfl, hk2⟩
    go_wp2_with fail
    exact ⟨rfl, by rw [HD.out]; exact val_bad (hk1.trans hk2)⟩
  | good v n =>
    have HD := Lib.hid (HD0.trans (up_good hx))
    have HN := Lib.hid fun w' (hrd : Rd w' B R r) (hb : w.heap.size ≤ w'.heap.size) => list_any d ih R r w' within hrd (by omega) hw
    rw [hx] at HN
    clear h hw HD0 hx ih
    go_enter Try.func22, Try.ntmps22
    go_wp2_with fail
    refine (HF.out _ (below_alloc _ _)).mono ?_
    rintro e w1 ⟨rfl, hr1, hk1⟩
    have hz1 := hk1.size
    simp at hz1
    go_wp2_with fail
    refine (HN.out _ hr1 (by omega)).mono ?_
    rintro e w2 ⟨⟨zk, zn, zs, zka, zkn, zkc, zla, zln, zlc⟩, rfl, hy, hr2, hk2⟩
    have hk := hk1.trans hk2
    have HY := Lib.hid (IsP.fr (P' := fun g => w.heap.size + 1 ≤ g ∧ g < w2.heap.size) (Fr.refl _ _) (fun g hg => ⟨by omega, hg.2⟩) _ _ hy)
    clear hr1 hk1 hk2 HN HF hy hz1
    simp only [X.v]
    have hzr := val_row hR hk
    obtain ⟨t0, t1, t2, t3, t4, t5⟩ := zrow_cells hzr
    have f0 := t5 0
    have f1 := t5 1
    have f2 := t5 2
    have f3 := t5 3
    have f4 := t5 4
    have HZ := Lib.hid hzr
    have HK := Lib.hid hk
    clear t5 hzr hk
    go_wp2_with fail
    rw [← put5_lit]
    refine bodyPost_ret (results_cell_row rfl _ _ w.heap.size 25 _ (0, 0) _ rfl (put5_row HZ.out _) Try.underlying25 rfl (by rw [hi5]; simp [hs5, X.cells])) rfl ?_
    rw [HD.out]
    exact val_done hR hB HK.out HY.out hr2

set_option maxRecDepth 8000 in
set_option maxHeartbeats 1000000 in
theorem value_record (d : Nat) (ih : AtV d) (R : Nat) (r : Bs) (w : World) (within : Nat) (h : Rd w B R (8 :: r)) (hB : B ≤ w.heap.size) (hw : within + (d + 1) = 20) : Calls Try.prog 22 #[.pointer (some ⟨R, 0, none⟩), .int .i64 within] w (Post B R (8 :: r) w (dec (d + 1) (8 :: r))) := by
  obtain ⟨i5, hi5, hz5, hs5, hb5⟩ := info_parts infoData
  have hR := h.lt
  have hwi := not_twenty hw
  have HF := first_lit R 8 r w h 8 rfl
  have HD0 : dec (d + 1) (8 :: r) = (decAll (dec d) 6 r).up := rfl
  cases hx : decAll (dec d) 6 r with
  | bad q =>
    have HD := Lib.hid (HD0.trans (up_bad hx))
    have HN := Lib.hid fun w' (hrd : Rd w' B R r) (hb : w.heap.size ≤ w'.heap.size) => record_any d ih R r w' within hrd (by omega) hw
    rw [hx] at HN
    clear h hw HD0 hx ih
    go_enter Try.func22, Try.ntmps22
    go_wp2_with fail
    refine (HF.out _ (below_alloc _ _)).mono ?_
    rintro e w1 ⟨rfl, hr1, hk1⟩
    have hz1 := hk1.size
    simp at hz1
    go_wp2_with fail
    refine (HN.out _ hr1 (by omega)).mono ?_
    rintro e w2 ⟨rfl, hk2⟩
    go_wp2_with fail
    exact ⟨rfl, by rw [HD.out]; exact val_bad (hk1.trans hk2)⟩
  | good v n =>
    have HD := Lib.hid (HD0.trans (up_good hx))
    have HN := Lib.hid fun w' (hrd : Rd w' B R r) (hb : w.heap.size ≤ w'.heap.size) => record_any d ih R r w' within hrd (by omega) hw
    rw [hx] at HN
    clear h hw HD0 hx ih
    go_enter Try.func22, Try.ntmps22
    go_wp2_with fail
    refine (HF.out _ (below_alloc _ _)).mono ?_
    rintro e w1 ⟨rfl, hr1, hk1⟩
    have hz1 := hk1.size
    simp at hz1
    go_wp2_with fail
    refine (HN.out _ hr1 (by omega)).mono ?_
    rintro e w2 ⟨⟨zk, zn, zs, zka, zkn, zkc, zla, zln, zlc⟩, rfl, hy, hr2, hk2⟩
    have hk := hk1.trans hk2
    have HY := Lib.hid (IsP.fr (P' := fun g => w.heap.size + 1 ≤ g ∧ g < w2.heap.size) (Fr.refl _ _) (fun g hg => ⟨by omega, hg.2⟩) _ _ hy)
    clear hr1 hk1 hk2 HN HF hy hz1
    simp only [X.v]
    have hzr := val_row hR hk
    obtain ⟨t0, t1, t2, t3, t4, t5⟩ := zrow_cells hzr
    have f0 := t5 0
    have f1 := t5 1
    have f2 := t5 2
    have f3 := t5 3
    have f4 := t5 4
    have HZ := Lib.hid hzr
    have HK := Lib.hid hk
    clear t5 hzr hk
    go_wp2_with fail
    rw [← put5_lit]
    refine bodyPost_ret (results_cell_row rfl _ _ w.heap.size 25 _ (0, 0) _ rfl (put5_row HZ.out _) Try.underlying25 rfl (by rw [hi5]; simp [hs5, X.cells])) rfl ?_
    rw [HD.out]
    exact val_done hR hB HK.out HY.out hr2

theorem u8_cases (c : UInt8) : c = 0 ∨ c = 1 ∨ c = 2 ∨ c = 3 ∨ c = 4 ∨ c = 5 ∨ c = 6 ∨ c = 7 ∨ c = 8 ∨ 9 ≤ c.toNat := by
  by_cases h : 9 ≤ c.toNat
  · simp [h]
  · have e : c = UInt8.ofNat c.toNat := (UInt8.ofNat_toNat).symm
    have : c.toNat = 0 ∨ c.toNat = 1 ∨ c.toNat = 2 ∨ c.toNat = 3 ∨ c.toNat = 4 ∨ c.toNat = 5 ∨ c.toNat = 6 ∨ c.toNat = 7 ∨ c.toNat = 8 := by omega
    rcases this with h | h | h | h | h | h | h | h | h <;> (rw [h] at e; subst e; decide)
set_option maxRecDepth 8000 in
set_option maxHeartbeats 1000000 in
theorem value_other (d : Nat) (R : Nat) (c : UInt8) (r : Bs) (w : World) (within : Nat) (h : Rd w B R (c :: r)) (hw : within + (d + 1) = 20) (hc : 9 ≤ c.toNat) : Calls Try.prog 22 #[.pointer (some ⟨R, 0, none⟩), .int .i64 within] w (Post B R (c :: r) w (dec (d + 1) (c :: r))) := by
  have hwi := not_twenty hw
  obtain ⟨n, hn⟩ : ∃ n : Int, (c.toNat : Int) = n := ⟨_, rfl⟩
  have HF := first_lit R c r w h n hn
  have hne : ∀ k : UInt8, k.toNat < 9 → ¬ c = k := fun k hk e => by subst e; omega
  have HD : Hid (dec (d + 1) (c :: r) = .bad 22) := by
    show _ = _
    rw [dec, if_neg (hne 0 (by decide)), if_neg (hne 1 (by decide)), if_neg (fun e => by rcases e with e | e; exact hne 2 (by decide) e; exact hne 3 (by decide) e), if_neg (fun e => by rcases e with e | e; exact hne 4 (by decide) e; exact hne 5 (by decide) e), if_neg (hne 6 (by decide)), if_neg (hne 7 (by decide)), if_neg (hne 8 (by decide))]
  have b0 : (n == 0) = false := by rw [beq_eq_false_iff_ne]; omega
  have b1 : (n == 1) = false := by rw [beq_eq_false_iff_ne]; omega
  have b2 : (n == 2) = false := by rw [beq_eq_false_iff_ne]; omega
  have b3 : (n == 3) = false := by rw [beq_eq_false_iff_ne]; omega
  have b4 : (n == 4) = false := by rw [beq_eq_false_iff_ne]; omega
  have b5 : (n == 5) = false := by rw [beq_eq_false_iff_ne]; omega
  have b6 : (n == 6) = false := by rw [beq_eq_false_iff_ne]; omega
  have b7 : (n == 7) = false := by rw [beq_eq_false_iff_ne]; omega
  have b8 : (n == 8) = false := by rw [beq_eq_false_iff_ne]; omega
  clear h hw hne hc hn
  go_enter Try.func22, Try.ntmps22
  go_wp2_with fail
  refine (HF.out _ (below_alloc _ _)).mono ?_
  rintro e w1 ⟨rfl, hr1, hk1⟩
  go_wp2_with fail
  exact ⟨rfl, by rw [HD.out]; exact val_bad hk1⟩
end
theorem value_any : ∀ d, AtV d := by
  intro d
  induction d with
  | zero =>
    intro B R l w within h hB hw
    cases l with
    | nil => exact value_nil 0 R w within h
    | cons c r =>
      obtain rfl : within = 20 := by omega
      exact value_zero R c r w h
  | succ d ih =>
    intro B R l w within h hB hw
    cases l with
    | nil => exact value_nil (d + 1) R w within h
    | cons c r =>
      rcases u8_cases c with hc | hc | hc | hc | hc | hc | hc | hc | hc | hc
      · exact value_word d R c r w within h hB hw (.inl hc)
      · exact value_word d R c r w within h hB hw (.inr (.inl hc))
      · exact value_word d R c r w within h hB hw (.inr (.inr (.inl hc)))
      · exact value_word d R c r w within h hB hw (.inr (.inr (.inr hc)))
      · subst hc; exact value_num d R r w within h hB hw
      · subst hc; exact value_minus d R r w within h hB hw
      · subst hc; exact value_text d R r w within h hB hw
      · subst hc; exact value_list d ih R r w within h hB hw
      · subst hc; exact value_record d ih R r w within h hB hw
      · exact value_other d R c r w within h hw hc
end Go.Proofs.Ytnkknlhdbhfjlaa
