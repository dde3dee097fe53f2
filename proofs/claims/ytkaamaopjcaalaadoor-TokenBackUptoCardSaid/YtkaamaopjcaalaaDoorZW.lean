/-
  written, by contract.
-/
import Derived.Test.YtkaamaopjcaalaaDoorZ
import Derived.Test.YtkaamaopjcaalaaDoorR
import Derived.Deep.RegionHeld3
import Derived.BigQuiet
import Derived.Deep.QuietTactic
namespace Go.Proofs.YtkaamaopjcaalaaDoor.T
open Go.RowKit Go.Proofs.YtkaamaopjcaalaaDoor

/-- what written answers -/
def GivesW (p : Tk) (w : World) (e : Ending) (w' : World) : Prop := Below w.heap.size w w' ∧ ∃ (Y : ByteArray) (b : Bool), e = .returned (.tuple #[.string Y, .bool b]) ∧ (b = true → Good p Y.data.toList) ∧ Y.size ≤ 6 * p.t.length + 64
theorem givesW {p : Tk} {w w' : World} {e : Ending} (Y : ByteArray) (b : Bool) (hb : Below w.heap.size w w') (he : e = .returned (.tuple #[.string Y, .bool b])) (hg : b = true → Good p Y.data.toList) (hy : Y.size ≤ 6 * p.t.length + 64) : GivesW p w e w' := ⟨hb, Y, b, he, hg, hy⟩
theorem undrew {w w1 : World} (h : Below w.drew.heap.size w.drew w1) : Below w.heap.size w w1 := ((Below.refl w.heap.size w).drew).trans h
theorem box_kept {w w' : World} {k n a : Int} {X : ByteArray} {f : Bool} (h : Below (w.alloc (row5 k X n a f)).heap.size (w.alloc (row5 k X n a f)) w') : (w'.cell? ⟨w.heap.size, 0, none⟩ = some (.int .i64 k) ∧ w'.cell? ⟨w.heap.size, 1, none⟩ = some (.string X) ∧ w'.cell? ⟨w.heap.size, 2, none⟩ = some (.int .i64 n)) ∧ Below w.heap.size w w' := by
  obtain ⟨h1, h2⟩ := row_kept h
  obtain ⟨c0, c1, c2, _⟩ := row5_cells h1
  exact ⟨⟨c0, c1, c2⟩, h2⟩
set_option maxRecDepth 8000 in
set_option maxHeartbeats 1000000 in
theorem written_1 (X : ByteArray) (n a : Int) (f : Bool) (w : World) (hX : X.size ≤ 2097152) :
    Calls Tryd.prog 17 #[.agg #[.int .i64 1, .string X, .int .i64 n, .int .i64 a, .bool f]] w (GivesW ⟨1, X.data.toList, n, a, f⟩ w) := by
  have H1 := Lib.hid fun w => refIsIdent_any X w (by omega)
  have H2 := Lib.hid fun w => refIsWord_any X w
  have HG := Lib.hid fun h1 h2 => good_name (p := ⟨1, X.data.toList, n, a, f⟩) rfl h1 h2
  have HZ := Lib.hid fun w' (h : Below (w.alloc (row5 1 X n a f)).heap.size (w.alloc (row5 1 X n a f)) w') => box_kept h
  have hsz : X.size ≤ 6 * X.data.toList.length + 64 := by rw [size_list]; omega
  have HSz := Lib.hid hsz
  have HB := Lib.hid (below_alloc w (row5 1 X n a f))
  cases hi : isI X.data.toList with
  | false =>
    rw [hi] at H1
    clear hi HG hsz
    unfold row5 at *
    go_enter Tryd.func17, Tryd.ntmps17
    go_wp2_with fail
    go_quiet ((go_at_call 13; exact Calls.quiet_of_same ((H1.out _).mono fun _ _ h => ⟨h.1, h.2.symm⟩)))
    go_wp2_with fail
    try rw [Exit.noGoto_ret]
    go_ret2
    exact givesW X false (HB.out.trans (below_drewN _ _ _)) rfl (fun h => by cases h) HSz.out
  | true =>
    rw [hi] at H1
    cases hw : isW X.data.toList with
    | true =>
      rw [hw] at H2
      clear hi hw HG hsz
      have HS : Hid (∀ w', Below (w.alloc (row5 1 X n a f)).heap.size (w.alloc (row5 1 X n a f)) w' → w'.cell? ⟨w.heap.size, 1, none⟩ = some (.string X)) := Lib.hid fun w' h => (HZ.out w' h).1.2.1
      have HBz : Hid (∀ w', Below (w.alloc (row5 1 X n a f)).heap.size (w.alloc (row5 1 X n a f)) w' → Below w.heap.size w w') := Lib.hid fun w' h => (HZ.out w' h).2
      unfold row5 at *
      go_enter Tryd.func17, Tryd.ntmps17
      go_wp2_with fail
      go_region_held3 (fun w' => w'.cell? ⟨w.heap.size, 1, none⟩ = some (.string X)) (first | go_keep) ((first
        | (go_at_call 13; refine (H1.out _).mono ?_; rintro e w1 ⟨rfl, rfl⟩)
        | (go_at_call 11; refine (H2.out _).mono ?_; rintro e w1 ⟨rfl, hb1⟩; have e0 := HS.out _ (undrew hb1))))
      have hb2 := HBz.out _ (undrew hb1)
      go_wp2_with fail
      try rw [Exit.noGoto_ret]
      go_ret2
      exact givesW X false hb2 rfl (fun h => by cases h) HSz.out
    | false =>
      rw [hw] at H2
      have HGd := Lib.hid (HG.out hi hw)
      clear hi hw HG hsz
      have HS : Hid (∀ w', Below (w.alloc (row5 1 X n a f)).heap.size (w.alloc (row5 1 X n a f)) w' → w'.cell? ⟨w.heap.size, 1, none⟩ = some (.string X)) := Lib.hid fun w' h => (HZ.out w' h).1.2.1
      have HBz : Hid (∀ w', Below (w.alloc (row5 1 X n a f)).heap.size (w.alloc (row5 1 X n a f)) w' → Below w.heap.size w w') := Lib.hid fun w' h => (HZ.out w' h).2
      unfold row5 at *
      go_enter Tryd.func17, Tryd.ntmps17
      go_wp2_with fail
      go_region_held3 (fun w' => w'.cell? ⟨w.heap.size, 1, none⟩ = some (.string X)) (first | go_keep) ((first
        | (go_at_call 13; refine (H1.out _).mono ?_; rintro e w1 ⟨rfl, rfl⟩)
        | (go_at_call 11; refine (H2.out _).mono ?_; rintro e w1 ⟨rfl, hb1⟩; have e0 := HS.out _ (undrew hb1))))
      have hb2 := HBz.out _ (undrew hb1)
      go_wp2_with fail
      try rw [Exit.noGoto_ret]
      go_ret2
      exact givesW X true hb2 rfl (fun _ => HGd.out) HSz.out
set_option maxRecDepth 8000 in
set_option maxHeartbeats 1000000 in
theorem written_2 (X : ByteArray) (n a : Int) (f : Bool) (w : World) :
    Calls Tryd.prog 17 #[.agg #[.int .i64 2, .string X, .int .i64 n, .int .i64 a, .bool f]] w (GivesW ⟨2, X.data.toList, n, a, f⟩ w) := by
  have H2 := Lib.hid fun w => refIsWord_any X w
  have HG := Lib.hid fun h1 => good_word (p := ⟨2, X.data.toList, n, a, f⟩) rfl h1
  have HZ := Lib.hid fun w' (h : Below (w.alloc (row5 2 X n a f)).heap.size (w.alloc (row5 2 X n a f)) w') => box_kept h
  have hsz : X.size ≤ 6 * X.data.toList.length + 64 := by rw [size_list]; omega
  have HSz := Lib.hid hsz
  cases hw : isW X.data.toList with
    | true =>
      rw [hw] at H2
      have HGd := Lib.hid (HG.out hw)
      clear hw HG hsz
      have HS : Hid (∀ w', Below (w.alloc (row5 2 X n a f)).heap.size (w.alloc (row5 2 X n a f)) w' → w'.cell? ⟨w.heap.size, 1, none⟩ = some (.string X)) := Lib.hid fun w' h => (HZ.out w' h).1.2.1
      have HBz : Hid (∀ w', Below (w.alloc (row5 2 X n a f)).heap.size (w.alloc (row5 2 X n a f)) w' → Below w.heap.size w w') := Lib.hid fun w' h => (HZ.out w' h).2
      unfold row5 at *
      go_enter Tryd.func17, Tryd.ntmps17
      go_wp2_with fail
      go_region_held3 (fun w' => w'.cell? ⟨w.heap.size, 1, none⟩ = some (.string X)) (first | go_keep) ((first
        | (go_at_call 11; refine (H2.out _).mono ?_; rintro e w1 ⟨rfl, hb1⟩; have e0 := HS.out _ (undrew hb1))))
      have hb2 := HBz.out _ (undrew hb1)
      go_wp2_with fail
      try rw [Exit.noGoto_ret]
      go_ret2
      exact givesW X true hb2 rfl (fun _ => HGd.out) HSz.out
    | false =>
      rw [hw] at H2
      clear hw HG hsz
      have HS : Hid (∀ w', Below (w.alloc (row5 2 X n a f)).heap.size (w.alloc (row5 2 X n a f)) w' → w'.cell? ⟨w.heap.size, 1, none⟩ = some (.string X)) := Lib.hid fun w' h => (HZ.out w' h).1.2.1
      have HBz : Hid (∀ w', Below (w.alloc (row5 2 X n a f)).heap.size (w.alloc (row5 2 X n a f)) w' → Below w.heap.size w w') := Lib.hid fun w' h => (HZ.out w' h).2
      unfold row5 at *
      go_enter Tryd.func17, Tryd.ntmps17
      go_wp2_with fail
      go_region_held3 (fun w' => w'.cell? ⟨w.heap.size, 1, none⟩ = some (.string X)) (first | go_keep) ((first
        | (go_at_call 11; refine (H2.out _).mono ?_; rintro e w1 ⟨rfl, hb1⟩; have e0 := HS.out _ (undrew hb1))))
      have hb2 := HBz.out _ (undrew hb1)
      go_wp2_with fail
      try rw [Exit.noGoto_ret]
      go_ret2
      exact givesW X false hb2 rfl (fun h => by cases h) HSz.out
set_option maxRecDepth 8000 in
set_option maxHeartbeats 1000000 in
theorem written_4 (X : ByteArray) (n a : Int) (f : Bool) (w : World) (hX : X.size ≤ 2097152) :
    Calls Tryd.prog 17 #[.agg #[.int .i64 4, .string X, .int .i64 n, .int .i64 a, .bool f]] w (GivesW ⟨4, X.data.toList, n, a, f⟩ w) := by
  have HQ := Lib.hid fun w => refQuote_any X w (by omega)
  have HG := Lib.hid fun h1 => good_text (p := ⟨4, X.data.toList, n, a, f⟩) rfl h1
  have HZ := Lib.hid fun w' (h : Below (w.alloc (row5 4 X n a f)).heap.size (w.alloc (row5 4 X n a f)) w') => box_kept h
  by_cases h2 : X.data.toList.length % 2 = 0
  · have HGd := Lib.hid (HG.out h2)
    rw [quoteRes_even h2] at HQ
    have hql := quote_length (us X.data.toList)
    rw [us_length] at hql
    obtain ⟨q, hq⟩ : ∃ q, q = quote (us X.data.toList) := ⟨_, rfl⟩
    rw [← hq] at HQ hql
    have HGq : Hid (Good ⟨4, X.data.toList, n, a, f⟩ (⟨q.toArray⟩ : ByteArray).data.toList) := Lib.hid (by rw [hq]; exact HGd.out)
    have HSz : Hid ((⟨q.toArray⟩ : ByteArray).size ≤ 6 * X.data.toList.length + 64) := Lib.hid (by show q.toArray.size ≤ _; rw [List.size_toArray]; omega)
    clear h2 hql hq HG HGd
    unfold row5 at *
    go_enter Tryd.func17, Tryd.ntmps17
    go_wp2_with fail
    refine (HQ.out _).mono ?_
    rintro e w1 ⟨rfl, hb1⟩
    have hb2 := (HZ.out _ hb1).2
    go_wp2_with fail
    try rw [Exit.noGoto_ret]
    go_ret2
    exact givesW _ true hb2 rfl (fun _ => HGq.out) HSz.out
  · rw [quoteRes_odd h2] at HQ
    clear h2 HG
    unfold row5 at *
    go_enter Tryd.func17, Tryd.ntmps17
    go_wp2_with fail
    refine (HQ.out _).mono ?_
    rintro e w1 ⟨rfl, hb1⟩
    have hb2 := (HZ.out _ hb1).2
    go_wp2_with fail
    try rw [Exit.noGoto_ret]
    go_ret2
    exact givesW _ false hb2 rfl (fun h => by cases h) (by show 0 ≤ _; exact Nat.zero_le _)
set_option maxRecDepth 8000 in
set_option maxHeartbeats 1000000 in
theorem written_0 (k : Int) (X : ByteArray) (n a : Int) (f : Bool) (w : World) (h1 : ¬ k = 1) (h2 : ¬ k = 2) (h3 : ¬ k = 3) (h4 : ¬ k = 4) (h5 : ¬ k = 5) :
    Calls Tryd.prog 17 #[.agg #[.int .i64 k, .string X, .int .i64 n, .int .i64 a, .bool f]] w (GivesW ⟨k, X.data.toList, n, a, f⟩ w) := by
  have b1 : (k == 1) = false := by rw [beq_eq_false_iff_ne]; exact h1
  have b2 : (k == 2) = false := by rw [beq_eq_false_iff_ne]; exact h2
  have b3 : (k == 3) = false := by rw [beq_eq_false_iff_ne]; exact h3
  have b4 : (k == 4) = false := by rw [beq_eq_false_iff_ne]; exact h4
  have b5 : (k == 5) = false := by rw [beq_eq_false_iff_ne]; exact h5
  have HB := Lib.hid (below_alloc w (row5 k X n a f))
  clear h1 h2 h3 h4 h5
  unfold row5 at *
  go_enter Tryd.func17, Tryd.ntmps17
  go_wp2_with fail
  try rw [Exit.noGoto_ret]
  go_ret2
  exact givesW _ false HB.out rfl (fun h => by cases h) (by show 0 ≤ _; exact Nat.zero_le _)
end Go.Proofs.YtkaamaopjcaalaaDoor.T
