/-
  The reference's read, Read and Decode, by contract.
-/
import Derived.Test.YtnkknlhdbhfjlaaSc
namespace Go.Proofs.Ytnkknlhdbhfjlaa
open Go.RowKit

theorem fin_good {w w2 : World} {a b : Obj} {v : V} {n : Nat} {y : X} (hb : Below ((w.alloc a).alloc b).heap.size ((w.alloc a).alloc b) w2) (hy : IsP w2 (fun g => ((w.alloc a).alloc b).heap.size ≤ g ∧ g < w2.heap.size) v y) :
    PostR w (.good v n) (.returned (.tuple #[y.v, .int .i64 n, .int .i64 0])) (put5 (put5 w2 (w.heap.size + 1) 0 y) w.heap.size 0 y) := by
  have h1 := put5_fr w2 (w.heap.size + 1) 0 y
  have h2 := put5_fr (put5 w2 (w.heap.size + 1) 0 y) w.heap.size 0 y
  have hz : ((w.alloc a).alloc b).heap.size = w.heap.size + 2 := by simp
  rw [hz] at hy
  refine ⟨y, rfl, IsP.fr (h2.mono fun q hq => by show q ≠ w.heap.size; omega) (fun q hq => ⟨by omega, Nat.lt_of_lt_of_le hq.2 h2.size⟩) _ _ (IsP.fr (P' := fun g => w.heap.size + 2 ≤ g ∧ g < (put5 w2 (w.heap.size + 1) 0 y).heap.size) (h1.mono fun q hq => by show q ≠ w.heap.size + 1; omega) (fun q hq => ⟨by omega, Nat.lt_of_lt_of_le hq.2 h1.size⟩) _ _ hy), ?_⟩
  exact (below2d w a b).trans ((hb.mono (by simp; omega)).trans ((h1.mono fun q (hq : q < w.heap.size) => by show q ≠ w.heap.size + 1; omega).below.trans (h2.mono fun q (hq : q < w.heap.size) => by show q ≠ w.heap.size; omega).below))
theorem fin_bad {w w2 : World} {a b : Obj} {q : Nat} {y z : X} (hb : Below ((w.alloc a).alloc b).heap.size ((w.alloc a).alloc b) w2) (hz : z = ⟨0, 0, ⟨#[]⟩, none, 0, 0, none, 0, 0⟩) :
    PostR w (.bad q) (.returned (.tuple #[z.v, .int .i64 0, .int .i64 q])) (put5 (put5 w2 (w.heap.size + 1) 0 y) w.heap.size 0 z) := by
  subst hz
  have h1 := put5_fr w2 (w.heap.size + 1) 0 y
  have h2 := put5_fr (put5 w2 (w.heap.size + 1) 0 y) w.heap.size 0 ⟨0, 0, ⟨#[]⟩, none, 0, 0, none, 0, 0⟩
  exact ⟨rfl, (below2d w a b).trans ((hb.mono (by simp; omega)).trans ((h1.mono fun q (hq : q < w.heap.size) => by show q ≠ w.heap.size + 1; omega).below.trans (h2.mono fun q (hq : q < w.heap.size) => by show q ≠ w.heap.size; omega).below))⟩
/-- both structs' blocks behind a call -/
theorem two_rows {w w2 : World} (hb : Below ((w.alloc zrow).alloc zrow).heap.size ((w.alloc zrow).alloc zrow) w2) : w2.heap[w.heap.size]? = some zrow ∧ w2.heap[w.heap.size + 1]? = some zrow :=
  ⟨(hb.block _ (by simp; omega)).trans (old_row _ _ _), (hb.block _ (by simp)).trans (heap2d_at _ _ _)⟩
theorem put5_keep {w : World} {g b : Nat} {y : X} {o : Option Obj} (h : b ≠ g) (hr : w.heap[b]? = o) : (put5 w g 0 y).heap[b]? = o := ((put5_fr w g 0 y).block b h).trans hr
theorem deep_not {deep d : Nat} (h : deep + (d + 1) = 20) : ¬ (20 : Int) ≤ (deep : Int) := by omega

set_option maxRecDepth 8000 in
set_option maxHeartbeats 1000000 in
theorem read_nil (d : Nat) (A : Option Addr) (c : Nat) (w : World) (deep : Nat) : Calls Try.prog 23 #[.slice A 0 c, .int .i64 deep] w (PostR w (dec d [])) := by
  obtain ⟨i5, hi5, hz5, hs5, hb5⟩ := info_parts infoData
  have hD : dec d [] = .bad 20 := by cases d <;> rfl
  rw [hD]
  clear hD
  go_enter Try.func23, Try.ntmps23
  go_wp2_with fail
  refine bodyPost_ret (res_ctt rfl _ _ w.heap.size 25 _ (0, 0) _ rfl (hp_new rfl) Try.underlying25 rfl (by rw [hi5]; simp [hs5])) rfl ?_
  exact ⟨rfl, below_alloc _ _⟩
set_option maxRecDepth 8000 in
set_option maxHeartbeats 1000000 in
theorem read_zero (A : Option Addr) (x : UInt8) (r : Bs) (c : Nat) (w : World) : Calls Try.prog 23 #[.slice A (r.length + 1) c, .int .i64 20] w (PostR w (dec 0 (x :: r))) := by
  obtain ⟨i5, hi5, hz5, hs5, hb5⟩ := info_parts infoData
  have hD : dec 0 (x :: r) = .bad 31 := rfl
  have hn0 : ¬ ((r.length : Int) + 1 = 0) := by omega
  have hn1 : (((r.length + 1 : Nat) : Int) == 0) = false := by rw [beq_eq_false_iff_ne]; omega
  rw [hD]
  clear hD
  go_enter Try.func23, Try.ntmps23
  go_wp2_with fail
  refine bodyPost_ret (res_ctt rfl _ _ w.heap.size 25 _ (0, 0) _ rfl (hp_new rfl) Try.underlying25 rfl (by rw [hi5]; simp [hs5])) rfl ?_
  exact ⟨rfl, below_alloc _ _⟩
/-- the first byte, wherever it is looked at -/
theorem first_cell {w : World} {A : Option Addr} {x : UInt8} {r : Bs} (hB : O.Byt w A (x :: r)) (n : Int) (hn : (x.toNat : Int) = n) : ∃ g o, A = some ⟨g, o, none⟩ ∧ Hid (∀ w', Below w.heap.size w w' → w'.cell? ⟨g, o, none⟩ = some (.int .u8 n)) := by
  rcases hB with h | ⟨g, o, h1, h2, h3⟩
  · cases h
  · refine ⟨g, o, h1, fun w' hb => (hb.cell (p := ⟨g, o, none⟩) h2).trans ?_⟩
    have := h3 0 (by simp)
    rw [Nat.add_zero] at this
    rw [this, ← hn]
    rfl

set_option maxRecDepth 8000 in
set_option maxHeartbeats 1000000 in
theorem read_w0 (d : Nat) (A : Option Addr) (r : Bs) (c : Nat) (w : World) (deep : Nat) (hB : O.Byt w A (0 :: r)) (hw : deep + (d + 1) = 20) : Calls Try.prog 23 #[.slice A (r.length + 1) c, .int .i64 deep] w (PostR w (dec (d + 1) (0 :: r))) := by
  obtain ⟨i5, hi5, hz5, hs5, hb5⟩ := info_parts infoData
  have hn0 : ¬ ((r.length : Int) + 1 = 0) := by omega
  have hn1 : (((r.length + 1 : Nat) : Int) == 0) = false := by rw [beq_eq_false_iff_ne]; omega
  have hn2 : (0 : Int) < (r.length : Int) + 1 := by omega
  have hdp := deep_not hw
  obtain ⟨g, o, rfl, HC⟩ := first_cell hB 0 rfl
  have HD : Hid (dec (d + 1) (0 :: r) = .good (.mk 0 0 ⟨#[]⟩ [] []) 1) := rfl
  clear hB hw
  have hc0 := HC.out ((w.alloc (.cells #[.int .i64 0, .int .i64 0, .string ⟨#[]⟩, .slice none 0 0, .slice none 0 0] 25)).alloc (.cells #[.int .i64 0, .int .i64 0, .string ⟨#[]⟩, .slice none 0 0, .slice none 0 0] 25)) (below2d _ _ _)
  go_enter Try.func23, Try.ntmps23
  go_wp2_with fail
  refine bodyPost_ret (res_ctt rfl _ _ w.heap.size 25 _ (0, 0) _ rfl (old_row _ _ _) Try.underlying25 rfl (by rw [hi5]; simp [hs5])) rfl ?_
  rw [HD.out]
  exact ⟨⟨0, 0, ⟨#[]⟩, none, 0, 0, none, 0, 0⟩, rfl, isP_plain _ _ _ _ _, below2d _ _ _⟩

set_option maxRecDepth 8000 in
set_option maxHeartbeats 1000000 in
theorem read_w1 (d : Nat) (A : Option Addr) (r : Bs) (c : Nat) (w : World) (deep : Nat) (hB : O.Byt w A (1 :: r)) (hw : deep + (d + 1) = 20) : Calls Try.prog 23 #[.slice A (r.length + 1) c, .int .i64 deep] w (PostR w (dec (d + 1) (1 :: r))) := by
  obtain ⟨i5, hi5, hz5, hs5, hb5⟩ := info_parts infoData
  have hn0 : ¬ ((r.length : Int) + 1 = 0) := by omega
  have hn1 : (((r.length + 1 : Nat) : Int) == 0) = false := by rw [beq_eq_false_iff_ne]; omega
  have hn2 : (0 : Int) < (r.length : Int) + 1 := by omega
  have hdp := deep_not hw
  obtain ⟨g, o, rfl, HC⟩ := first_cell hB 1 rfl
  have HD : Hid (dec (d + 1) (1 :: r) = .good (.mk 1 0 ⟨#[]⟩ [] []) 1) := rfl
  clear hB hw
  have hc0 := HC.out ((w.alloc (.cells #[.int .i64 0, .int .i64 0, .string ⟨#[]⟩, .slice none 0 0, .slice none 0 0] 25)).alloc (.cells #[.int .i64 0, .int .i64 0, .string ⟨#[]⟩, .slice none 0 0, .slice none 0 0] 25)) (below2d _ _ _)
  go_enter Try.func23, Try.ntmps23
  go_wp2_with fail
  refine bodyPost_ret (res_ctt rfl _ _ w.heap.size 25 _ (0, 0) _ rfl (old_row _ _ _) Try.underlying25 rfl (by rw [hi5]; simp [hs5])) rfl ?_
  rw [HD.out]
  exact ⟨⟨1, 0, ⟨#[]⟩, none, 0, 0, none, 0, 0⟩, rfl, isP_plain _ _ _ _ _, below2d _ _ _⟩

set_option maxRecDepth 8000 in
set_option maxHeartbeats 1000000 in
theorem read_w2 (d : Nat) (A : Option Addr) (r : Bs) (c : Nat) (w : World) (deep : Nat) (hB : O.Byt w A (2 :: r)) (hw : deep + (d + 1) = 20) : Calls Try.prog 23 #[.slice A (r.length + 1) c, .int .i64 deep] w (PostR w (dec (d + 1) (2 :: r))) := by
  obtain ⟨i5, hi5, hz5, hs5, hb5⟩ := info_parts infoData
  have hn0 : ¬ ((r.length : Int) + 1 = 0) := by omega
  have hn1 : (((r.length + 1 : Nat) : Int) == 0) = false := by rw [beq_eq_false_iff_ne]; omega
  have hn2 : (0 : Int) < (r.length : Int) + 1 := by omega
  have hdp := deep_not hw
  obtain ⟨g, o, rfl, HC⟩ := first_cell hB 2 rfl
  have HD : Hid (dec (d + 1) (2 :: r) = .good (.mk 2 0 ⟨#[]⟩ [] []) 1) := rfl
  clear hB hw
  have hc0 := HC.out ((w.alloc (.cells #[.int .i64 0, .int .i64 0, .string ⟨#[]⟩, .slice none 0 0, .slice none 0 0] 25)).alloc (.cells #[.int .i64 0, .int .i64 0, .string ⟨#[]⟩, .slice none 0 0, .slice none 0 0] 25)) (below2d _ _ _)
  go_enter Try.func23, Try.ntmps23
  go_wp2_with fail
  refine bodyPost_ret (res_ctt rfl _ _ w.heap.size 25 _ (0, 0) _ rfl (old_row _ _ _) Try.underlying25 rfl (by rw [hi5]; simp [hs5])) rfl ?_
  rw [HD.out]
  exact ⟨⟨2, 0, ⟨#[]⟩, none, 0, 0, none, 0, 0⟩, rfl, isP_plain _ _ _ _ _, below2d _ _ _⟩

set_option maxRecDepth 8000 in
set_option maxHeartbeats 1000000 in
theorem read_w3 (d : Nat) (A : Option Addr) (r : Bs) (c : Nat) (w : World) (deep : Nat) (hB : O.Byt w A (3 :: r)) (hw : deep + (d + 1) = 20) : Calls Try.prog 23 #[.slice A (r.length + 1) c, .int .i64 deep] w (PostR w (dec (d + 1) (3 :: r))) := by
  obtain ⟨i5, hi5, hz5, hs5, hb5⟩ := info_parts infoData
  have hn0 : ¬ ((r.length : Int) + 1 = 0) := by omega
  have hn1 : (((r.length + 1 : Nat) : Int) == 0) = false := by rw [beq_eq_false_iff_ne]; omega
  have hn2 : (0 : Int) < (r.length : Int) + 1 := by omega
  have hdp := deep_not hw
  obtain ⟨g, o, rfl, HC⟩ := first_cell hB 3 rfl
  have HD : Hid (dec (d + 1) (3 :: r) = .good (.mk 2 1 ⟨#[]⟩ [] []) 1) := rfl
  clear hB hw
  have hc0 := HC.out ((w.alloc (.cells #[.int .i64 0, .int .i64 0, .string ⟨#[]⟩, .slice none 0 0, .slice none 0 0] 25)).alloc (.cells #[.int .i64 0, .int .i64 0, .string ⟨#[]⟩, .slice none 0 0, .slice none 0 0] 25)) (below2d _ _ _)
  go_enter Try.func23, Try.ntmps23
  go_wp2_with fail
  refine bodyPost_ret (res_ctt rfl _ _ w.heap.size 25 _ (0, 0) _ rfl (old_row _ _ _) Try.underlying25 rfl (by rw [hi5]; simp [hs5])) rfl ?_
  rw [HD.out]
  exact ⟨⟨2, 1, ⟨#[]⟩, none, 0, 0, none, 0, 0⟩, rfl, isP_plain _ _ _ _ _, below2d _ _ _⟩

set_option maxRecDepth 8000 in
set_option maxHeartbeats 1000000 in
theorem read_text (d : Nat) (A : Option Addr) (r : Bs) (c : Nat) (w : World) (deep : Nat) (hB : O.Byt w A (6 :: r)) (hl : r.length + 1 ≤ 4194304) (hlc : r.length + 1 ≤ c) (hw : deep + (d + 1) = 20) : Calls Try.prog 23 #[.slice A (r.length + 1) c, .int .i64 deep] w (PostR w (dec (d + 1) (6 :: r))) := by
  obtain ⟨i5, hi5, hz5, hs5, hb5⟩ := info_parts infoData
  have hn0 : ¬ ((r.length : Int) + 1 = 0) := by omega
  have hn1 : (((r.length + 1 : Nat) : Int) == 0) = false := by rw [beq_eq_false_iff_ne]; omega
  have hn2 : (0 : Int) < (r.length : Int) + 1 := by omega
  have hdp := deep_not hw
  obtain ⟨g, o, rfl, HC⟩ := first_cell hB 6 rfl
  have HD0 : dec (d + 1) (6 :: r) = (decText r).up := rfl
  have HT := Lib.hid fun w' (hb : Below w.heap.size w w') => rtext_any (O.cutA (some ⟨g, o, none⟩) c 1) r (c - 1) w' (O.Byt.cut (hB.below hb) (k := 1) (by simp) (by simpa using hlc)) (by omega) (by omega)
  have h1l : 1 ≤ r.length + 1 := by omega
  by_cases hu : (utx r).2.2 = 0
  · obtain ⟨s, k1, hus⟩ : ∃ s k1, utx r = (s, k1, 0) := ⟨_, _, Prod.ext rfl (Prod.ext rfl hu)⟩
    have HD : Hid (dec (d + 1) (6 :: r) = .good (.mk 4 0 s [] []) (k1 + 1)) := by
      rw [HD0]
      refine Lib.hid (up_good ?_)
      unfold decText
      rw [hus, if_neg (by simp)]
    have hnl : k1 + 1 ≤ 4194304 := by
      have := right_good HD.out
      simp at this
      omega
    have hnw : IntKind.i64.wrap ((k1 : Int) + 1) = (k1 : Int) + 1 := IntWalk.i64_in _ (by omega)
    rw [hus] at HT
    simp only at HT
    clear hB hl hw HD0 hu hus
    have hcw := HC.out ((w.alloc (.cells #[.int .i64 0, .int .i64 0, .string ⟨#[]⟩, .slice none 0 0, .slice none 0 0] 25)).alloc (.cells #[.int .i64 0, .int .i64 0, .string ⟨#[]⟩, .slice none 0 0, .slice none 0 0] 25)) (below2d _ _ _)
    go_enter Try.func23, Try.ntmps23
    go_wp2_with (first
      | (refine O.cut_law rfl _ _ (by rfl) (some ⟨g, o, none⟩) (r.length + 1) c (by rfl) 1 (by rfl) h1l ?_)
      | (go_at_call 42; refine (HT.out _ (below2d _ _ _)).mono ?_; rintro e w2 ⟨rfl, rfl⟩))
    refine bodyPost_ret (res_ctt rfl _ _ w.heap.size 25 _ (0, 0) _ rfl (old_row _ _ _) Try.underlying25 rfl (by rw [hi5]; simp [hs5])) rfl ?_
    rw [HD.out]
    exact ⟨⟨4, 0, s, none, 0, 0, none, 0, 0⟩, rfl, isP_plain _ _ _ _ _, below2d _ _ _⟩
  · have HD : Hid (dec (d + 1) (6 :: r) = .bad (utx r).2.2) := by
      rw [HD0]
      refine Lib.hid (up_bad ?_)
      unfold decText
      rw [if_pos hu]
    have hq := (utx_err r).resolve_left hu
    generalize (utx r).2.2 = q at *
    generalize (utx r).2.1 = q1 at *
    generalize (utx r).1 = q2 at *
    have hq0 : ((q : Int) != 0) = true := by simp; omega
    clear hB hl hw HD0 hu hq
    have hcw := HC.out ((w.alloc (.cells #[.int .i64 0, .int .i64 0, .string ⟨#[]⟩, .slice none 0 0, .slice none 0 0] 25)).alloc (.cells #[.int .i64 0, .int .i64 0, .string ⟨#[]⟩, .slice none 0 0, .slice none 0 0] 25)) (below2d _ _ _)
    go_enter Try.func23, Try.ntmps23
    go_wp2_with (first
      | (refine O.cut_law rfl _ _ (by rfl) (some ⟨g, o, none⟩) (r.length + 1) c (by rfl) 1 (by rfl) h1l ?_)
      | (go_at_call 42; refine (HT.out _ (below2d _ _ _)).mono ?_; rintro e w2 ⟨rfl, rfl⟩))
    refine bodyPost_ret (res_ctt rfl _ _ w.heap.size 25 _ (0, 0) _ rfl (old_row _ _ _) Try.underlying25 rfl (by rw [hi5]; simp [hs5])) rfl ?_
    rw [HD.out]
    exact ⟨rfl, below2d _ _ _⟩

set_option maxRecDepth 8000 in
set_option maxHeartbeats 1000000 in
theorem read_many_list (d : Nat) (ih : AtS d) (A : Option Addr) (r : Bs) (c : Nat) (w : World) (deep : Nat) (hB : O.Byt w A (7 :: r)) (hl : r.length + 1 ≤ 4194304) (hlc : r.length + 1 ≤ c) (hw : deep + (d + 1) = 20) : Calls Try.prog 23 #[.slice A (r.length + 1) c, .int .i64 deep] w (PostR w (dec (d + 1) (7 :: r))) := by
  obtain ⟨i5, hi5, hz5, hs5, hb5⟩ := info_parts infoData
  have hn0 : ¬ ((r.length : Int) + 1 = 0) := by omega
  have hn1 : (((r.length + 1 : Nat) : Int) == 0) = false := by rw [beq_eq_false_iff_ne]; omega
  have hn2 : (0 : Int) < (r.length : Int) + 1 := by omega
  have hdp := deep_not hw
  obtain ⟨g, o, rfl, HC⟩ := first_cell hB 7 rfl
  have HD0 : dec (d + 1) (7 :: r) = (decAll (dec d) 5 r).up := rfl
  have HN := Lib.hid fun w' (hb : Below w.heap.size w w') => many_list d ih (O.cutA (some ⟨g, o, none⟩) c 1) r (c - 1) w' deep (O.Byt.cut (hB.below hb) (k := 1) (by simp) (by simpa using hlc)) (by omega) (by omega) hw
  have h1l : 1 ≤ r.length + 1 := by omega
  cases hx : decAll (dec d) 5 r with
  | bad q =>
    have HD := Lib.hid (HD0.trans (up_bad hx))
    have hq : q = 20 ∨ q = 22 ∨ q = 31 := by
      have := dec_right (d + 1) (7 :: r)
      rw [HD.out] at this
      exact this
    have hq0 : ((q : Int) != 0) = true := by simp; omega
    rw [hx] at HN
    clear hB hl hw HD0 hx hq ih
    have hcw := HC.out ((w.alloc (.cells #[.int .i64 0, .int .i64 0, .string ⟨#[]⟩, .slice none 0 0, .slice none 0 0] 25)).alloc (.cells #[.int .i64 0, .int .i64 0, .string ⟨#[]⟩, .slice none 0 0, .slice none 0 0] 25)) (below2d _ _ _)
    go_enter Try.func23, Try.ntmps23
    go_wp2_with (first
      | (refine O.cut_law rfl _ _ (by rfl) (some ⟨g, o, none⟩) (r.length + 1) c (by rfl) 1 (by rfl) h1l ?_)
      | (go_at_call 43; refine (HN.out _ (below2d _ _ _)).mono ?_; rintro e w2 ⟨rfl, hb2⟩; obtain ⟨hr0, hr1⟩ := two_rows hb2; obtain ⟨t0, t1, t2, t3, t4, t5⟩ := zrow_cells hr1; have f0 := t5 0; have f1 := t5 1; have f2 := t5 2; have f3 := t5 3; have f4 := t5 4; obtain ⟨u0, u1, u2, u3, u4, u5⟩ := zrow_cells hr0; have e0 := u5 0; have e1 := u5 1; have e2 := u5 2; have e3 := u5 3; have e4 := u5 4; have HR0 := Lib.hid hr0; have HB2 := Lib.hid hb2; clear hr0 hr1 t5 u5 hb2))
    rw [← put5_lit, ← put5_lit]
    refine bodyPost_ret (res_ctt rfl _ _ w.heap.size 25 _ (0, 0) _ rfl (put5_row (put5_keep (by omega) HR0.out) _) Try.underlying25 rfl (by rw [hi5]; simp [hs5, X.cells])) rfl ?_
    rw [HD.out]
    exact fin_bad HB2.out rfl
  | good v n =>
    have HD := Lib.hid (HD0.trans (up_good hx))
    have hnl : n + 1 ≤ 4194304 := by
      have := right_good HD.out
      simp at this
      omega
    have hnw : IntKind.i64.wrap ((n : Int) + 1) = (n : Int) + 1 := IntWalk.i64_in _ (by omega)
    rw [hx] at HN
    clear hB hl hw HD0 hx ih
    have hcw := HC.out ((w.alloc (.cells #[.int .i64 0, .int .i64 0, .string ⟨#[]⟩, .slice none 0 0, .slice none 0 0] 25)).alloc (.cells #[.int .i64 0, .int .i64 0, .string ⟨#[]⟩, .slice none 0 0, .slice none 0 0] 25)) (below2d _ _ _)
    go_enter Try.func23, Try.ntmps23
    go_wp2_with (first
      | (refine O.cut_law rfl _ _ (by rfl) (some ⟨g, o, none⟩) (r.length + 1) c (by rfl) 1 (by rfl) h1l ?_)
      | (go_at_call 43; refine (HN.out _ (below2d _ _ _)).mono ?_; rintro e w2 ⟨⟨zk, zn, zs, zka, zkn, zkc, zla, zln, zlc⟩, rfl, hy, hb2⟩; (simp only [X.v]); have HY := Lib.hid hy; clear hy; obtain ⟨hr0, hr1⟩ := two_rows hb2; obtain ⟨t0, t1, t2, t3, t4, t5⟩ := zrow_cells hr1; have f0 := t5 0; have f1 := t5 1; have f2 := t5 2; have f3 := t5 3; have f4 := t5 4; obtain ⟨u0, u1, u2, u3, u4, u5⟩ := zrow_cells hr0; have e0 := u5 0; have e1 := u5 1; have e2 := u5 2; have e3 := u5 3; have e4 := u5 4; have HR0 := Lib.hid hr0; have HB2 := Lib.hid hb2; clear hr0 hr1 t5 u5 hb2))
    rw [← put5_lit, ← put5_lit]
    refine bodyPost_ret (res_ctt rfl _ _ w.heap.size 25 _ (0, 0) _ rfl (put5_row (put5_keep (by omega) HR0.out) _) Try.underlying25 rfl (by rw [hi5]; simp [hs5, X.cells])) rfl ?_
    rw [HD.out]
    exact fin_good HB2.out HY.out

set_option maxRecDepth 8000 in
set_option maxHeartbeats 1000000 in
theorem read_many_record (d : Nat) (ih : AtS d) (A : Option Addr) (r : Bs) (c : Nat) (w : World) (deep : Nat) (hB : O.Byt w A (8 :: r)) (hl : r.length + 1 ≤ 4194304) (hlc : r.length + 1 ≤ c) (hw : deep + (d + 1) = 20) : Calls Try.prog 23 #[.slice A (r.length + 1) c, .int .i64 deep] w (PostR w (dec (d + 1) (8 :: r))) := by
  obtain ⟨i5, hi5, hz5, hs5, hb5⟩ := info_parts infoData
  have hn0 : ¬ ((r.length : Int) + 1 = 0) := by omega
  have hn1 : (((r.length + 1 : Nat) : Int) == 0) = false := by rw [beq_eq_false_iff_ne]; omega
  have hn2 : (0 : Int) < (r.length : Int) + 1 := by omega
  have hdp := deep_not hw
  obtain ⟨g, o, rfl, HC⟩ := first_cell hB 8 rfl
  have HD0 : dec (d + 1) (8 :: r) = (decAll (dec d) 6 r).up := rfl
  have HN := Lib.hid fun w' (hb : Below w.heap.size w w') => many_record d ih (O.cutA (some ⟨g, o, none⟩) c 1) r (c - 1) w' deep (O.Byt.cut (hB.below hb) (k := 1) (by simp) (by simpa using hlc)) (by omega) (by omega) hw
  have h1l : 1 ≤ r.length + 1 := by omega
  cases hx : decAll (dec d) 6 r with
  | bad q =>
    have HD := Lib.hid (HD0.trans (up_bad hx))
    have hq : q = 20 ∨ q = 22 ∨ q = 31 := by
      have := dec_right (d + 1) (8 :: r)
      rw [HD.out] at this
      exact this
    have hq0 : ((q : Int) != 0) = true := by simp; omega
    rw [hx] at HN
    clear hB hl hw HD0 hx hq ih
    have hcw := HC.out ((w.alloc (.cells #[.int .i64 0, .int .i64 0, .string ⟨#[]⟩, .slice none 0 0, .slice none 0 0] 25)).alloc (.cells #[.int .i64 0, .int .i64 0, .string ⟨#[]⟩, .slice none 0 0, .slice none 0 0] 25)) (below2d _ _ _)
    go_enter Try.func23, Try.ntmps23
    go_wp2_with (first
      | (refine O.cut_law rfl _ _ (by rfl) (some ⟨g, o, none⟩) (r.length + 1) c (by rfl) 1 (by rfl) h1l ?_)
      | (go_at_call 43; refine (HN.out _ (below2d _ _ _)).mono ?_; rintro e w2 ⟨rfl, hb2⟩; obtain ⟨hr0, hr1⟩ := two_rows hb2; obtain ⟨t0, t1, t2, t3, t4, t5⟩ := zrow_cells hr1; have f0 := t5 0; have f1 := t5 1; have f2 := t5 2; have f3 := t5 3; have f4 := t5 4; obtain ⟨u0, u1, u2, u3, u4, u5⟩ := zrow_cells hr0; have e0 := u5 0; have e1 := u5 1; have e2 := u5 2; have e3 := u5 3; have e4 := u5 4; have HR0 := Lib.hid hr0; have HB2 := Lib.hid hb2; clear hr0 hr1 t5 u5 hb2))
    rw [← put5_lit, ← put5_lit]
    refine bodyPost_ret (res_ctt rfl _ _ w.heap.size 25 _ (0, 0) _ rfl (put5_row (put5_keep (by omega) HR0.out) _) Try.underlying25 rfl (by rw [hi5]; simp [hs5, X.cells])) rfl ?_
    rw [HD.out]
    exact fin_bad HB2.out rfl
  | good v n =>
    have HD := Lib.hid (HD0.trans (up_good hx))
    have hnl : n + 1 ≤ 4194304 := by
      have := right_good HD.out
      simp at this
      omega
    have hnw : IntKind.i64.wrap ((n : Int) + 1) = (n : Int) + 1 := IntWalk.i64_in _ (by omega)
    rw [hx] at HN
    clear hB hl hw HD0 hx ih
    have hcw := HC.out ((w.alloc (.cells #[.int .i64 0, .int .i64 0, .string ⟨#[]⟩, .slice none 0 0, .slice none 0 0] 25)).alloc (.cells #[.int .i64 0, .int .i64 0, .string ⟨#[]⟩, .slice none 0 0, .slice none 0 0] 25)) (below2d _ _ _)
    go_enter Try.func23, Try.ntmps23
    go_wp2_with (first
      | (refine O.cut_law rfl _ _ (by rfl) (some ⟨g, o, none⟩) (r.length + 1) c (by rfl) 1 (by rfl) h1l ?_)
      | (go_at_call 43; refine (HN.out _ (below2d _ _ _)).mono ?_; rintro e w2 ⟨⟨zk, zn, zs, zka, zkn, zkc, zla, zln, zlc⟩, rfl, hy, hb2⟩; (simp only [X.v]); have HY := Lib.hid hy; clear hy; obtain ⟨hr0, hr1⟩ := two_rows hb2; obtain ⟨t0, t1, t2, t3, t4, t5⟩ := zrow_cells hr1; have f0 := t5 0; have f1 := t5 1; have f2 := t5 2; have f3 := t5 3; have f4 := t5 4; obtain ⟨u0, u1, u2, u3, u4, u5⟩ := zrow_cells hr0; have e0 := u5 0; have e1 := u5 1; have e2 := u5 2; have e3 := u5 3; have e4 := u5 4; have HR0 := Lib.hid hr0; have HB2 := Lib.hid hb2; clear hr0 hr1 t5 u5 hb2))
    rw [← put5_lit, ← put5_lit]
    refine bodyPost_ret (res_ctt rfl _ _ w.heap.size 25 _ (0, 0) _ rfl (put5_row (put5_keep (by omega) HR0.out) _) Try.underlying25 rfl (by rw [hi5]; simp [hs5, X.cells])) rfl ?_
    rw [HD.out]
    exact fin_good HB2.out HY.out

set_option maxRecDepth 8000 in
set_option maxHeartbeats 1000000 in
theorem read_other (d : Nat) (A : Option Addr) (x : UInt8) (r : Bs) (c : Nat) (w : World) (deep : Nat) (hB : O.Byt w A (x :: r)) (hw : deep + (d + 1) = 20) (hx : 9 ≤ x.toNat) : Calls Try.prog 23 #[.slice A (r.length + 1) c, .int .i64 deep] w (PostR w (dec (d + 1) (x :: r))) := by
  obtain ⟨i5, hi5, hz5, hs5, hb5⟩ := info_parts infoData
  have hn0 : ¬ ((r.length : Int) + 1 = 0) := by omega
  have hn1 : (((r.length + 1 : Nat) : Int) == 0) = false := by rw [beq_eq_false_iff_ne]; omega
  have hn2 : (0 : Int) < (r.length : Int) + 1 := by omega
  have hdp := deep_not hw
  obtain ⟨n, hn⟩ : ∃ n : Int, (x.toNat : Int) = n := ⟨_, rfl⟩
  obtain ⟨g, o, rfl, HC⟩ := first_cell hB n hn
  have hne : ∀ k : UInt8, k.toNat < 9 → ¬ x = k := fun k hk e => by subst e; omega
  have HD : Hid (dec (d + 1) (x :: r) = .bad 22) := by
    show _ = _
    rw [dec, if_neg (hne 0 (by decide)), if_neg (hne 1 (by decide)), if_neg (fun e => by rcases e with e | e; exact hne 2 (by decide) e; exact hne 3 (by decide) e), if_neg (fun e => by rcases e with e | e; exact hne 4 (by decide) e; exact hne 5 (by decide) e), if_neg (hne 6 (by decide)), if_neg (hne 7 (by decide)), if_neg (hne 8 (by decide))]
  have b0 : (n == 0) = false := by rw [beq_eq_false_iff_ne]; omega
  have b1 : (n == 1) = false := by rw [beq_eq_false_iff_ne]; omega
  have b2 : (n == 2) = false := by rw [beq_eq_false_iff_ne]; omega
  have b3 : (n == 3) = false := by rw [beq_eq_false_iff_ne]; omega
  have b4 : (n == 4) = false := by rw [beq_eq_false_iff_ne]; omega
  have b5 : (n == 5) = false := by rw [beq_eq_false_iff_ne]; omega
  have b6 : (n == 6) = false := by rw [beq_eq_false_iff_ne]; omega
  have b7 : (n == 7) = false := by rw [beq_eq_false_iff_ne]; omega
  have b8 : (n == 8) = false := by rw [beq_eq_false_iff_ne]; omega
  clear hB hw hne hx hn
  have hcw := HC.out ((w.alloc (.cells #[.int .i64 0, .int .i64 0, .string ⟨#[]⟩, .slice none 0 0, .slice none 0 0] 25)).alloc (.cells #[.int .i64 0, .int .i64 0, .string ⟨#[]⟩, .slice none 0 0, .slice none 0 0] 25)) (below2d _ _ _)
  go_enter Try.func23, Try.ntmps23
  go_wp2_with fail
  refine bodyPost_ret (res_ctt rfl _ _ w.heap.size 25 _ (0, 0) _ rfl (old_row _ _ _) Try.underlying25 rfl (by rw [hi5]; simp [hs5])) rfl ?_
  rw [HD.out]
  exact ⟨rfl, below2d _ _ _⟩
end Go.Proofs.Ytnkknlhdbhfjlaa
