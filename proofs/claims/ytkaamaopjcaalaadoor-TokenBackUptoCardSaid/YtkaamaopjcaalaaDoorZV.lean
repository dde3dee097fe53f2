/-
  written at numbers and signs; written, by contract.
-/
import Derived.Test.YtkaamaopjcaalaaDoorZW
import Derived.Deep.RegionLaw
namespace Go.Proofs.YtkaamaopjcaalaaDoor.T
open Go.RowKit Go.Proofs.YtkaamaopjcaalaaDoor

set_option maxRecDepth 8000 in
set_option maxHeartbeats 1000000 in
theorem written_3n (X : ByteArray) (n a : Int) (f : Bool) (w : World) (hn : n < 0) :
    Calls Tryd.prog 17 #[.agg #[.int .i64 3, .string X, .int .i64 n, .int .i64 a, .bool f]] w (GivesW ⟨3, X.data.toList, n, a, f⟩ w) := by
  have HD : Hid (∀ w, Calls Tryd.prog 29 #[.int .i64 0] w fun e w' => e = .returned (.string ⟨(Lib.decDigits 0).toArray⟩) ∧ Below w.heap.size w w') := Lib.hid fun w => digits_nat 0 w (by decide)
  have hz := dec_len 0 (by decide)
  have hmx : max n 0 = 0 := by omega
  have hge : decide (0 ≤ n) = false := decide_eq_false (by omega)
  have HZ := Lib.hid fun w' (h : Below (w.alloc (row5 3 X n a f)).heap.size (w.alloc (row5 3 X n a f)) w') => box_kept h
  have HSz : Hid ((⟨(Lib.decDigits 0).toArray⟩ : ByteArray).size ≤ 6 * X.data.toList.length + 64) := Lib.hid (by show (Lib.decDigits 0).toArray.size ≤ _; rw [List.size_toArray]; omega)
  generalize (⟨(Lib.decDigits 0).toArray⟩ : ByteArray) = Y at *
  have HS : Hid (∀ w', Below (w.alloc (row5 3 X n a f)).heap.size (w.alloc (row5 3 X n a f)) w' → w'.cell? ⟨w.heap.size, 2, none⟩ = some (.int .i64 n)) := Lib.hid fun w' h => (HZ.out w' h).1.2.2
  have HBz : Hid (∀ w', Below (w.alloc (row5 3 X n a f)).heap.size (w.alloc (row5 3 X n a f)) w' → Below w.heap.size w w') := Lib.hid fun w' h => (HZ.out w' h).2
  clear hz
  unfold row5 at *
  go_enter Tryd.func17, Tryd.ntmps17
  go_wp2_with fail
  refine wp_region_held_drew (S := fun w' => w'.cell? ⟨w.heap.size, 2, none⟩ = some (.int .i64 n)) (by kernel_rfl) (by (try dsimp only); go_keep) (fun hHeld => ?_)
  iterate 6
    (first
      | (refine wpAnyH_take (i := 0) (v := ?_) rfl (by kernel_rfl) (by decide +kernel) (by decide +kernel) (fun _ _ _ h => h) (Or.inl ⟨by rfl, ?_⟩) (by assumption) ?_; rotate_left; (focus (intro w0 hSw; (try dsimp only at hSw); go_simp; (try with_reducible rfl); done)))
      | (refine wpAnyH_take (i := 1) (v := ?_) rfl (by kernel_rfl) (by decide +kernel) (by decide +kernel) (fun _ _ _ h => h) (Or.inl ⟨by rfl, ?_⟩) (by assumption) ?_; rotate_left; (focus (intro w0 hSw; (try dsimp only at hSw); go_simp; (try with_reducible rfl); done)))
      | (refine wpAnyH_take (i := 2) (v := ?_) rfl (by kernel_rfl) (by decide +kernel) (by decide +kernel) (fun _ _ _ h => h) (Or.inl ⟨by rfl, ?_⟩) (by assumption) ?_; rotate_left; (focus (intro w0 hSw; (try dsimp only at hSw); go_simp; (try with_reducible rfl); done)))
      | (refine wpAnyH_take (i := 4) (v := ?_) rfl (by kernel_rfl) (by decide +kernel) (by decide +kernel) (fun _ _ _ h => h) (Or.inl ⟨by rfl, ?_⟩) (by assumption) ?_; rotate_left; (focus (intro w0 hSw; (try dsimp only at hSw); go_simp; (try with_reducible rfl); done)))
      | (refine wpAnyH_take (i := 5) (v := ?_) rfl (by kernel_rfl) (by decide +kernel) (by decide +kernel) (fun _ _ _ h => h) (Or.inl ⟨by rfl, ?_⟩) (by assumption) ?_; rotate_left; (focus (intro w0 hSw; (try dsimp only at hSw); go_simp; (try with_reducible rfl); done)))
      | (refine wpAnyH_take (i := 6) (v := ?_) rfl (by kernel_rfl) (by decide +kernel) (by decide +kernel) (fun _ _ _ h => h) (Or.inl ⟨by rfl, ?_⟩) (by assumption) ?_; rotate_left; (focus (intro w0 hSw; (try dsimp only at hSw); go_simp; (try with_reducible rfl); done)))
      )
    try simp only [List.getElem_toArray, List.getElem_cons_zero, List.getElem_cons_succ, Act.put, List.setIfInBounds_toArray, List.set_cons_zero, List.set_cons_succ]
  refine wpAnyH_ready (rs := [3]) (by decide +kernel) (by simp) (AllReadyH.cons rfl (fun K hK => ?_) AllReadyH.nil)
  go_simp
  go_at_call 29
  refine (HD.out _).mono ?_
  rintro e w1 ⟨rfl, hb1⟩
  have e0 := HS.out _ (undrew hb1)
  have hb2 := HBz.out _ (undrew hb1)
  refine hK.out _ _ e0 (fun hHeld2 => ?_)
  clear hK K hHeld
  try simp only [Act.put, List.setIfInBounds_toArray]
  iterate 7
    (first
      | (refine wpAnyH_take (i := 7) (v := ?_) rfl (by kernel_rfl) (by decide +kernel) (by decide +kernel) (fun _ _ _ h => h) (Or.inl ⟨by rfl, ?_⟩) (by assumption) ?_; rotate_left; (focus (intro w0 hSw; (try dsimp only at hSw); go_simp; (try with_reducible rfl); done)))
      | (refine wpAnyH_take (i := 8) (v := undef) rfl (by kernel_rfl) (by decide +kernel) (by decide +kernel) (fun _ _ _ h => h) (Or.inr ⟨by rfl, rfl⟩) (by assumption) ?_)
      | (refine wpAnyH_take (i := 9) (v := undef) rfl (by kernel_rfl) (by decide +kernel) (by decide +kernel) (fun _ _ _ h => h) (Or.inr ⟨by rfl, rfl⟩) (by assumption) ?_)
      | (refine wpAnyH_take (i := 10) (v := undef) rfl (by kernel_rfl) (by decide +kernel) (by decide +kernel) (fun _ _ _ h => h) (Or.inr ⟨by rfl, rfl⟩) (by assumption) ?_)
      | (refine wpAnyH_take (i := 11) (v := ?_) rfl (by kernel_rfl) (by decide +kernel) (by decide +kernel) (fun _ _ _ h => h) (Or.inl ⟨by rfl, ?_⟩) (by assumption) ?_; rotate_left; (focus (intro w0 hSw; (try dsimp only at hSw); go_simp; (try with_reducible rfl); done)))
      | (refine wpAnyH_take (i := 12) (v := ?_) rfl (by kernel_rfl) (by decide +kernel) (by decide +kernel) (fun _ _ _ h => h) (Or.inl ⟨by rfl, ?_⟩) (by assumption) ?_; rotate_left; (focus (intro w0 hSw; (try dsimp only at hSw); go_simp; (try with_reducible rfl); done)))
      | (refine wpAnyH_take (i := 13) (v := ?_) rfl (by kernel_rfl) (by decide +kernel) (by decide +kernel) (fun _ _ _ h => h) (Or.inl ⟨by rfl, ?_⟩) (by assumption) ?_; rotate_left; (focus (intro w0 hSw; (try dsimp only at hSw); go_simp; (try with_reducible rfl); done)))
      )
    try simp only [List.getElem_toArray, List.getElem_cons_zero, List.getElem_cons_succ, Act.put, List.setIfInBounds_toArray, List.set_cons_zero, List.set_cons_succ]
  refine wpAnyH_done (by kernel_rfl) ?_ _
  go_wp2_with fail
  try rw [Exit.noGoto_ret]
  go_ret2
  exact givesW Y false hb2 rfl (fun h => by cases h) HSz.out
set_option maxRecDepth 8000 in
set_option maxHeartbeats 1000000 in
theorem written_3p (X : ByteArray) (u : Nat) (a : Int) (f : Bool) (w : World) (hu : u ≤ 9223372036854775807) :
    Calls Tryd.prog 17 #[.agg #[.int .i64 3, .string X, .int .i64 (u : Nat), .int .i64 a, .bool f]] w (GivesW ⟨3, X.data.toList, (u : Nat), a, f⟩ w) := by
  have HD := Lib.hid fun w => digits_nat u w hu
  have hz := dec_len u hu
  have hmx : max (u : Int) 0 = (u : Int) := by omega
  have hge : decide (0 ≤ (u : Int)) = true := decide_eq_true (by omega)
  have HZ := Lib.hid fun w' (h : Below (w.alloc (row5 3 X (u : Nat) a f)).heap.size (w.alloc (row5 3 X (u : Nat) a f)) w') => box_kept h
  have HSz : Hid ((⟨(Lib.decDigits u).toArray⟩ : ByteArray).size ≤ 6 * X.data.toList.length + 64) := Lib.hid (by show (Lib.decDigits u).toArray.size ≤ _; rw [List.size_toArray]; omega)
  have HG : Hid (u ≤ 9007199254740991 → Good ⟨3, X.data.toList, (u : Nat), a, f⟩ (⟨(Lib.decDigits u).toArray⟩ : ByteArray).data.toList) := Lib.hid fun h => by
    show Good _ (Lib.decDigits u)
    exact good_num rfl rfl h
  generalize (⟨(Lib.decDigits u).toArray⟩ : ByteArray) = Y at *
  have HS : Hid (∀ w', Below (w.alloc (row5 3 X (u : Nat) a f)).heap.size (w.alloc (row5 3 X (u : Nat) a f)) w' → w'.cell? ⟨w.heap.size, 2, none⟩ = some (.int .i64 (u : Nat))) := Lib.hid fun w' h => (HZ.out w' h).1.2.2
  have HBz : Hid (∀ w', Below (w.alloc (row5 3 X (u : Nat) a f)).heap.size (w.alloc (row5 3 X (u : Nat) a f)) w' → Below w.heap.size w w') := Lib.hid fun w' h => (HZ.out w' h).2
  clear hz
  by_cases hM : u ≤ 9007199254740991
  · have hMd : decide ((u : Int) ≤ 9007199254740991) = true := decide_eq_true (by omega)
    have HGd := Lib.hid (HG.out hM)
    clear hM HG hu
    unfold row5 at *
    go_enter Tryd.func17, Tryd.ntmps17
    go_wp2_with fail
    go_region_held3 (fun w' => w'.cell? ⟨w.heap.size, 2, none⟩ = some (.int .i64 (u : Nat))) (first | go_keep) ((go_at_call 29; refine (HD.out _).mono ?_; rintro e w1 ⟨rfl, hb1⟩; have e0 := HS.out _ (undrew hb1)))
    have hb2 := HBz.out _ (undrew hb1)
    go_wp2_with fail
    try rw [Exit.noGoto_ret]
    go_ret2
    exact givesW Y true hb2 rfl (fun _ => HGd.out) HSz.out
  · have hMd : decide ((u : Int) ≤ 9007199254740991) = false := decide_eq_false (by omega)
    clear hM HG hu
    unfold row5 at *
    go_enter Tryd.func17, Tryd.ntmps17
    go_wp2_with fail
    go_region_held3 (fun w' => w'.cell? ⟨w.heap.size, 2, none⟩ = some (.int .i64 (u : Nat))) (first | go_keep) ((go_at_call 29; refine (HD.out _).mono ?_; rintro e w1 ⟨rfl, hb1⟩; have e0 := HS.out _ (undrew hb1)))
    have hb2 := HBz.out _ (undrew hb1)
    go_wp2_with fail
    try rw [Exit.noGoto_ret]
    go_ret2
    exact givesW Y false hb2 rfl (fun h => by cases h) HSz.out
set_option maxRecDepth 8000 in
set_option maxHeartbeats 1000000 in
theorem written_5 (X : ByteArray) (n a : Int) (f : Bool) (w : World) :
    Calls Tryd.prog 17 #[.agg #[.int .i64 5, .string X, .int .i64 n, .int .i64 a, .bool f]] w (GivesW ⟨5, X.data.toList, n, a, f⟩ w) := by
  have HZ := Lib.hid fun w' (h : Below (w.alloc (row5 5 X n a f)).heap.size (w.alloc (row5 5 X n a f)) w') => box_kept h
  have hsz : X.size ≤ 6 * X.data.toList.length + 64 := by rw [size_list]; omega
  have HSz := Lib.hid hsz
  clear hsz
  have nil : (∃ (p e : Int), ∀ w, Calls Tryd.prog 15 #[.string X] w fun e' w' => e' = .returned (.tuple #[.slice none 0 0, .int .i64 p, .int .i64 e]) ∧ Below w.heap.size w w') ∨ (∃ ts, cutl X.data.toList 0 = .inr ts ∧ ∀ w, Calls Tryd.prog 15 #[.string X] w fun e w' => Below w.heap.size w w' ∧ ∃ A c, e = .returned (.tuple #[.slice A ts.length c, .int .i64 0, .int .i64 0]) ∧ ts.length ≤ c ∧ Row w' A ts) := by
    by_cases hs : X.size ≤ 4096
    · cases hc : cutl X.data.toList 0 with
      | inl p =>
        refine .inl ⟨p, 60, fun w => ?_⟩
        have := refCut_any X w hs
        rw [hc] at this
        exact this.mono fun _ _ h => ⟨h.2, h.1⟩
      | inr ts =>
        refine .inr ⟨ts, rfl, fun w => ?_⟩
        have := refCut_any X w hs
        rw [hc] at this
        refine this.mono ?_
        rintro e w'' ⟨hb, v, rfl, ho⟩
        obtain ⟨A, c, rfl, hlc, hr⟩ := ho.open
        exact ⟨hb, A, c, rfl, hlc, hr⟩
    · exact .inl ⟨0, 2, fun w => (refCut_long X w (by omega)).mono fun _ _ h => ⟨h.1, by rw [h.2]; exact Below.refl _ _⟩⟩
  rcases nil with ⟨p, e, hC⟩ | ⟨ts, hts, hC⟩
  · have HC := Lib.hid hC
    clear hC
    unfold row5 at *
    go_enter Tryd.func17, Tryd.ntmps17
    go_wp2_with fail
    refine (HC.out _).mono ?_
    rintro e w1 ⟨rfl, hb1⟩
    obtain ⟨⟨c0, c1, c2⟩, hb2⟩ := HZ.out _ hb1
    have HB := Lib.hid hb2
    clear hb1 hb2
    go_wp2_with fail
    go_quiet (fail)
    go_wp2_with fail
    try rw [Exit.noGoto_ret]
    go_ret2
    exact givesW X false (HB.out.trans (below_drewN _ _ _)) rfl (fun h => by cases h) HSz.out
  · have HC := Lib.hid hC
    clear hC
    by_cases hl2 : ts.length = 2
    · obtain ⟨x, y, rfl⟩ : ∃ x y, ts = [x, y] := by
        match ts, hl2 with
        | [x, y], _ => exact ⟨x, y, rfl⟩
      have HGs := Lib.hid fun h1 h2 => good_sign (p := ⟨5, X.data.toList, n, a, f⟩) rfl (sign_of hts h1 h2)
      have hlen : ([x, y] : List Tk).length = 2 := rfl
      rw [hlen] at HC
      clear hl2 hts hlen
      obtain ⟨b5, hb5⟩ : ∃ b, (x.k == 5) = b := ⟨_, rfl⟩
      obtain ⟨bt, hbt⟩ : ∃ b, (x.t == X.toList) = b := ⟨_, rfl⟩
      have HGd : Hid ((b5 && bt) = true → Good ⟨5, X.data.toList, n, a, f⟩ X.data.toList) := Lib.hid fun h => by
        rw [Bool.and_eq_true] at h
        refine HGs.out ?_ ?_
        · rw [← hb5, beq_iff_eq] at h
          exact h.1
        · rw [← hbt, beq_iff_eq, Lib.toList_data] at h
          exact h.2
      clear HGs
      unfold row5 at *
      cases b5 <;> cases bt
      all_goals
        go_enter Tryd.func17, Tryd.ntmps17
        go_wp2_with fail
        refine (HC.out _).mono ?_
        rintro e w1 ⟨hb1, A, c, rfl, hlc, hR⟩
        obtain ⟨⟨c0, c1, c2⟩, hb2⟩ := HZ.out _ hb1
        have HB := Lib.hid hb2
        obtain ⟨g, o, rfl, hg, hp⟩ := hR.at_ (i := 0) (by simp)
        have d0 : w1.cell? ⟨g, o, none⟩ = some (.int .i64 x.k) := hp.c0
        have d1 : w1.cell? ⟨g, o + 1, none⟩ = some (.string ⟨x.t.toArray⟩) := hp.c1
        clear hb1 hb2 hp hR
        go_wp2_with fail
        go_quiet (fail)
        go_wp2_with fail
        try rw [Exit.noGoto_ret]
        go_ret2
        exact givesW X _ (HB.out.trans (below_drewN _ _ _)) rfl HGd.out HSz.out
    · have hne : ((ts.length : Int) == 2) = false := by rw [beq_eq_false_iff_ne]; omega
      clear hl2 hts
      unfold row5 at *
      go_enter Tryd.func17, Tryd.ntmps17
      go_wp2_with fail
      refine (HC.out _).mono ?_
      rintro e w1 ⟨hb1, A, c, rfl, hlc, hR⟩
      obtain ⟨⟨c0, c1, c2⟩, hb2⟩ := HZ.out _ hb1
      have HB := Lib.hid hb2
      clear hb1 hb2 hR
      go_wp2_with fail
      go_quiet (fail)
      go_wp2_with fail
      try rw [Exit.noGoto_ret]
      go_ret2
      exact givesW X false (HB.out.trans (below_drewN _ _ _)) rfl (fun h => by cases h) HSz.out
end Go.Proofs.YtkaamaopjcaalaaDoor.T
