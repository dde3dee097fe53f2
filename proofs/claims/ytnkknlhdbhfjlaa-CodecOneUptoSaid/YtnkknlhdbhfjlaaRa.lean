/-
  The reader: first, pass, num, numUpTo, text, by contract.
-/
import Derived.Test.YtnkknlhdbhfjlaaP
import Derived.Test.YtnkknlhdbhfjlaaOC
import Derived.Test.YtnkknlhdbhfjlaaE
namespace Go.Proofs.Ytnkknlhdbhfjlaa
open Go.RowKit

/-- the panic with an error -/
abbrev pan (e : Nat) : Ending := .panicked [{ v := .iface 28 (.int .i64 e), recovered := false }]
/-- block R is a reader that has these bytes left, in a block below B -/
structure Rd (w : World) (B R : Nat) (l : Bs) : Prop where
  ex : ∃ A c, w.heap[R]? = some (.cells #[.slice A l.length c] 44 (0, 0)) ∧ l.length ≤ c ∧ O.Byt w A l ∧ (l = [] ∨ ∃ g o, A = some ⟨g, o, none⟩ ∧ g < B)
  le : l.length ≤ 4194304
/-- all that was there is as it was, but for block R -/
def Kp (R : Nat) (w w' : World) : Prop := Fr (fun k => k < w.heap.size ∧ k ≠ R) w w'
theorem Kp.refl (R : Nat) (w : World) : Kp R w w := Fr.refl _ _
theorem Kp.trans {R : Nat} {a b c : World} (h : Kp R a b) (k : Kp R b c) : Kp R a c := Fr.trans h (Fr.mono k fun _ hj => ⟨Nat.lt_of_lt_of_le hj.1 (Fr.size h), hj.2⟩)
theorem Kp.of {R : Nat} {w w' : World} (h : Below w.heap.size w w') : Kp R w w' := Fr.of h fun _ hk => hk.1
section
variable {B : Nat}
theorem Rd.fr {w w' : World} {R : Nat} {l : Bs} (h : Rd w B R l) {F : Nat → Prop} (hf : Fr F w w') (h1 : F R) (h2 : ∀ g, g < B → F g) : Rd w' B R l := by
  obtain ⟨⟨A, c, e1, e2, e3, e4⟩, h4⟩ := h
  refine ⟨⟨A, c, (hf.block R h1).trans e1, e2, ?_, e4⟩, h4⟩
  rcases e3 with e | ⟨g, o, rfl, g1, g2⟩
  · exact .inl e
  · rcases e4 with e | ⟨g', o', e, hg⟩
    · exact .inl e
    · injection e with e
      injection e with e _
      subst e
      exact .inr ⟨g, o, rfl, Nat.lt_of_lt_of_le g1 hf.size, fun j hj => (hf.cell (p := ⟨g, o + j, none⟩) (h2 g hg)).trans (g2 j hj)⟩
theorem Rd.below {w w' : World} {R : Nat} {l : Bs} (h : Rd w B R l) (hb : Below w.heap.size w w') : Rd w' B R l := by
  obtain ⟨⟨A, c, h1, h2, h3, h5⟩, h4⟩ := h
  exact ⟨⟨A, c, (hb.block _ (Array.getElem?_eq_some_iff.1 h1).1).trans h1, h2, h3.below hb, h5⟩, h4⟩
theorem Rd.lt {w : World} {R : Nat} {l : Bs} (h : Rd w B R l) : R < w.heap.size := by
  obtain ⟨⟨A, c, h1, _⟩, _⟩ := h
  exact (Array.getElem?_eq_some_iff.1 h1).1
theorem cutA_block {g o c k g' o' : Nat} (h : O.cutA (some ⟨g, o, none⟩) c k = some ⟨g', o', none⟩) : g' = g := by
  unfold O.cutA at h
  split at h
  · injection h with h
    injection h with h _
    exact h.symm
  · have h : some (Addr.add ⟨g, o, none⟩ k) = some ⟨g', o', none⟩ := h
    rw [O.add_lit] at h
    injection h with h
    injection h with h _
    exact h.symm
theorem Rd.cells {w : World} {R : Nat} {l : Bs} (h : Rd w B R l) : ∃ A c, w.cell? ⟨R, 0, none⟩ = some (.slice A l.length c) ∧ w.frozen? ⟨R, 0, none⟩ = false ∧ l.length ≤ c ∧ O.Byt w A l ∧
    ∀ k, k ≤ l.length → Rd (w.setCell ⟨R, 0, none⟩ (.slice (O.cutA A c k) (l.length - k) (c - k))) B R (l.drop k) ∧ Kp R w (w.setCell ⟨R, 0, none⟩ (.slice (O.cutA A c k) (l.length - k) (c - k))) := by
  obtain ⟨⟨A, c, h1, h2, h3, h6⟩, h4⟩ := h
  refine ⟨A, c, by rw [cell_of_row w R 0 _ _ _ h1]; rfl, by simp [World.frozen?, h1], h2, h3, fun k hk => ⟨⟨⟨O.cutA A c k, c - k, ?_, ?_, ?_, ?_⟩, by simp; omega⟩, ?_⟩⟩
  · rw [List.length_drop]
    exact hp_row_set h1 _
  · rw [List.length_drop]; omega
  · have h5 := h3.cut (k := k) hk h2
    rcases h5 with h5 | ⟨g, o, e1, e2, e3⟩
    · exact .inl h5
    · refine .inr ⟨g, o, e1, by simpa [World.setCell] using e2, fun j hj => ?_⟩
      have hne : g ≠ R := by
        rintro rfl
        have := e3 j hj
        rw [cell_of_row w g _ _ _ _ h1] at this
        rcases Nat.eq_zero_or_pos (o + j) with h0 | h0
        · rw [h0] at this
          simp [bv] at this
        · rw [Array.getElem?_eq_none (by simp; omega)] at this
          cases this
      rw [World.cell?_setCell_far _ _ _ _ (fun e => hne (Eq.symm e))]
      exact e3 j hj
  · have h5 := h3.cut (k := k) hk h2
    rcases h5 with h5 | ⟨g, o, e1, e2, e3⟩
    · exact .inl h5
    · rcases h6 with h6 | ⟨g', o', rfl, hg⟩
      · subst h6
        exact .inl (by simp)
      · have := cutA_block e1
        subst this
        exact .inr ⟨g, o, e1, hg⟩
  · exact (Fr.refl _ w).setCell (fun hk => hk.2 rfl) _

theorem first_nil (R : Nat) (w : World) (h : Rd w B R []) : Calls Try.prog 36 #[.pointer (some ⟨R, 0, none⟩)] w fun e w' => e = pan 20 ∧ Kp R w w' := by
  obtain ⟨A, c, hc, -, -, -, -⟩ := h.cells
  simp only [List.length_nil] at hc
  clear h
  go_enter Try.func36, Try.ntmps36
  go_wp2_with fail
  exact ⟨rfl, rfl, Kp.refl R w⟩
theorem first_cons (R : Nat) (c : UInt8) (r : Bs) (w : World) (h : Rd w B R (c :: r)) : Calls Try.prog 36 #[.pointer (some ⟨R, 0, none⟩)] w fun e w' => e = .returned (.int .u8 (c.toNat : Int)) ∧ Rd w' B R r ∧ Kp R w w' := by
  obtain ⟨A, cap, hc, hf, hcap, hB, hst⟩ := h.cells
  obtain ⟨g, o, rfl, hg⟩ := hB.at_ (k := 0) (by simp)
  simp only [List.length_cons, Nat.add_zero, List.getElem_cons_zero] at *
  have HS := Lib.hid (hst 1 (by omega))
  have hn0 : ¬ ((r.length : Int) + 1 = 0) := by omega
  have hn1 : (((r.length + 1 : Nat) : Int) == 0) = false := by rw [beq_eq_false_iff_ne]; omega
  clear hst h hB
  go_enter Try.func36, Try.ntmps36
  go_wp2_with (refine O.cut_law rfl _ _ (by rfl) (some ⟨g, o, none⟩) (r.length + 1) cap (by rfl) 1 (by rfl) (by omega) ?_)
  go_ret
  exact ⟨rfl, HS.out.1, HS.out.2⟩
theorem pass_bad (R k e : Nat) (w : World) (he : e = 20 ∨ e = 22) : Calls Try.prog 52 #[.pointer (some ⟨R, 0, none⟩), .int .i64 k, .int .i64 e] w fun e' w' => e' = pan e ∧ w = w' := by
  rcases he with rfl | rfl
  · go_enter Try.func52, Try.ntmps52
    go_wp2_with fail
    exact ⟨rfl, rfl, rfl⟩
  · go_enter Try.func52, Try.ntmps52
    go_wp2_with fail
    exact ⟨rfl, rfl, rfl⟩
theorem pass_good (R k : Nat) (l : Bs) (w : World) (h : Rd w B R l) (hk : k ≤ l.length) : Calls Try.prog 52 #[.pointer (some ⟨R, 0, none⟩), .int .i64 k, .int .i64 0] w fun e w' => e = .returned (.tuple #[]) ∧ Rd w' B R (l.drop k) ∧ Kp R w w' := by
  obtain ⟨A, cap, hc, hf, hcap, hB, hst⟩ := h.cells
  have HS := Lib.hid (hst k hk)
  clear hst h hB
  go_enter Try.func52, Try.ntmps52
  go_wp2_with (refine O.cut_law rfl _ _ (by rfl) A l.length cap (by rfl) k (by rfl) hk ?_)
  go_end0
  exact ⟨rfl, HS.out.1, HS.out.2⟩

set_option maxRecDepth 4000 in
theorem num_good (R n k : Nat) (l : Bs) (w : World) (h : Rd w B R l) (hr : O.rd 0 0 l = (n, k, 0)) : Calls Try.prog 50 #[.pointer (some ⟨R, 0, none⟩)] w fun e w' => e = .returned (.int .u64 n) ∧ Rd w' B R (l.drop k) ∧ Kp R w w' := by
  obtain ⟨A, cap, hc, hf, hcap, hB, -⟩ := h.cells
  have hl := h.le
  have HN := Lib.hid (O.readNum_any A l cap w hB (by omega))
  rw [hr] at HN
  simp only [O.rdV] at HN
  have HP := Lib.hid (pass_good R k l w h (rd_take hr).2.2.1)
  clear hr h hB hl
  go_enter Try.func50, Try.ntmps50
  go_wp2_with (first
    | (go_at_call 58; refine HN.out.mono ?_; rintro e w' ⟨rfl, rfl⟩)
    | (go_at_call 52; refine HP.out.mono ?_; rintro e w' ⟨rfl, h1, h2⟩))
  go_ret
  exact ⟨rfl, h1, h2⟩
set_option maxRecDepth 4000 in
theorem num_bad (R q : Nat) (l : Bs) (w : World) (h : Rd w B R l) (hr : O.rd 0 0 l = (0, 0, q)) (hq : q = 20 ∨ q = 22) : Calls Try.prog 50 #[.pointer (some ⟨R, 0, none⟩)] w fun e w' => e = pan q ∧ Kp R w w' := by
  obtain ⟨A, cap, hc, hf, hcap, hB, -⟩ := h.cells
  have hl := h.le
  have HN := Lib.hid (O.readNum_any A l cap w hB (by omega))
  rw [hr] at HN
  simp only [O.rdV] at HN
  have HP := Lib.hid (pass_bad R 0 q w hq)
  clear hr h hB hl hq
  go_enter Try.func50, Try.ntmps50
  go_wp2_with (first
    | (go_at_call 58; refine HN.out.mono ?_; rintro e w' ⟨rfl, rfl⟩)
    | (go_at_call 52; refine HP.out.mono ?_; rintro e w' ⟨rfl, rfl⟩))
  exact ⟨rfl, rfl, Kp.refl R w⟩
theorem wrap_safe {n : Nat} (h : n ≤ 9007199254740991) : IntKind.i64.wrap (n : Int) = (n : Int) := IntWalk.i64_in _ (by omega)
set_option maxRecDepth 4000 in
theorem numUpTo_good (R n k : Nat) (most : Nat) (l : Bs) (w : World) (h : Rd w B R l) (hr : O.rd 0 0 l = (n, k, 0)) (hn : n ≤ most) (hm : most ≤ 9007199254740991) : Calls Try.prog 37 #[.pointer (some ⟨R, 0, none⟩), .int .u64 most] w fun e w' => e = .returned (.int .i64 n) ∧ Rd w' B R (l.drop k) ∧ Kp R w w' := by
  have HN := Lib.hid (num_good R n k l w h hr)
  have e1 := wrap_safe (Nat.le_trans hn hm)
  have e2 : ¬ (most : Int) < (n : Int) := by omega
  clear hr h hm hn
  go_enter Try.func37, Try.ntmps37
  go_wp2_with fail
  refine HN.out.mono ?_
  rintro e w1 ⟨rfl, h1, h2⟩
  go_wp2_with fail
  go_ret
  exact ⟨rfl, h1, h2⟩
set_option maxRecDepth 4000 in
theorem numUpTo_over (R n k : Nat) (most : Nat) (l : Bs) (w : World) (h : Rd w B R l) (hr : O.rd 0 0 l = (n, k, 0)) (hn : most < n) : Calls Try.prog 37 #[.pointer (some ⟨R, 0, none⟩), .int .u64 most] w fun e w' => e = pan 22 ∧ Kp R w w' := by
  have HN := Lib.hid (num_good R n k l w h hr)
  have e2 : (most : Int) < (n : Int) := by omega
  clear hr h hn
  go_enter Try.func37, Try.ntmps37
  go_wp2_with fail
  refine HN.out.mono ?_
  rintro e w1 ⟨rfl, h1, h2⟩
  go_wp2_with fail
  exact ⟨rfl, rfl, h2⟩
set_option maxRecDepth 4000 in
theorem numUpTo_bad (R q : Nat) (most : Nat) (l : Bs) (w : World) (h : Rd w B R l) (hr : O.rd 0 0 l = (0, 0, q)) (hq : q = 20 ∨ q = 22) : Calls Try.prog 37 #[.pointer (some ⟨R, 0, none⟩), .int .u64 most] w fun e w' => e = pan q ∧ Kp R w w' := by
  have HN := Lib.hid (num_bad R q l w h hr hq)
  clear hr h hq
  go_enter Try.func37, Try.ntmps37
  go_wp2_with fail
  refine HN.out.mono ?_
  rintro e w1 ⟨rfl, h2⟩
  go_wp2_with fail
  exact ⟨rfl, rfl, h2⟩
set_option maxRecDepth 4000 in
theorem text_good (R k : Nat) (s : ByteArray) (l : Bs) (w : World) (h : Rd w B R l) (hr : utx l = (s, k, 0)) : Calls Try.prog 38 #[.pointer (some ⟨R, 0, none⟩)] w fun e w' => e = .returned (.string s) ∧ Rd w' B R (l.drop k) ∧ Kp R w w' := by
  obtain ⟨A, cap, hc, hf, hcap, hB, -⟩ := h.cells
  have hl := h.le
  have HN := Lib.hid (O.readText_any A l cap 2147483647 w hB (by omega) hcap (by omega))
  have hui := utx_inv (b := l) (by rw [hr])
  rw [hr] at hui
  simp only at hui
  have hE : O.rtV (O.rdText l 2147483647) = .tuple #[.string s, .int .i64 k, .int .i64 0] := by
    unfold utx at hr
    split at hr
    · rename_i h1
      simp only [Prod.mk.injEq] at hr
      exact absurd hr.2.2 h1
    · rename_i h1
      split at hr
      · simp at hr
      · simp only [Prod.mk.injEq, and_true] at hr
        obtain ⟨rfl, rfl⟩ := hr
        simp only [ne_eq, Decidable.not_not] at h1
        unfold O.rtV
        rw [h1]
        rfl
  rw [hE] at HN
  have HP := Lib.hid (pass_good R k l w h hui.2.2.1)
  have HC := Lib.hid fun w => check_any s w (by unfold maxLen; omega)
  rw [decide_eq_true hui.2.2.2.2] at HC
  clear hr h hB hl hui hE
  go_enter Try.func38, Try.ntmps38
  go_wp2_with (first
    | (go_at_call 51; refine HN.out.mono ?_; rintro e w' ⟨rfl, rfl⟩)
    | (go_at_call 52; refine HP.out.mono ?_; rintro e w' ⟨rfl, h1, h2⟩)
    | (go_at_call 45; refine (HC.out _).mono ?_; rintro e w' ⟨rfl, rfl⟩))
  go_ret
  exact ⟨rfl, h1, h2⟩
set_option maxRecDepth 4000 in
theorem text_bad (R q : Nat) (l : Bs) (w : World) (h : Rd w B R l) (hr : (utx l).2.2 = q) (hq : q ≠ 0) : Calls Try.prog 38 #[.pointer (some ⟨R, 0, none⟩)] w fun e w' => e = pan q ∧ Kp R w w' := by
  obtain ⟨A, cap, hc, hf, hcap, hB, -⟩ := h.cells
  have hl := h.le
  have HN := Lib.hid (O.readText_any A l cap 2147483647 w hB (by omega) hcap (by omega))
  unfold utx at hr
  by_cases h1 : (O.rdText l 2147483647).2.2 = 0
  · rw [if_neg (by simp [h1])] at hr
    by_cases h2 : (O.rdText l 2147483647).1.length % 2 = 1
    · rw [if_pos h2] at hr
      subst hr
      obtain ⟨_, _, i3, i4, _⟩ := rdText_inv h1
      unfold O.rtV at HN
      rw [h1] at HN
      have HP := Lib.hid (pass_good R (O.rdText l 2147483647).2.1 l w h i3)
      obtain ⟨t, ht⟩ : ∃ t : ByteArray, t = ⟨(O.rdText l 2147483647).1.toArray⟩ := ⟨_, rfl⟩
      have hts : t.size = (O.rdText l 2147483647).1.length := by
        subst ht
        show (O.rdText l 2147483647).1.toArray.size = _
        rw [List.size_toArray]
      rw [← ht] at HN
      have HC := Lib.hid fun w => check_any t w (by unfold maxLen; omega)
      rw [decide_eq_false (by omega)] at HC
      generalize (O.rdText l 2147483647).2.1 = k at *
      clear h hB hl ht hts h2 h1 i3 i4 hq
      go_enter Try.func38, Try.ntmps38
      go_wp2_with (first
        | (go_at_call 51; refine HN.out.mono ?_; rintro e w' ⟨rfl, rfl⟩)
        | (go_at_call 52; refine HP.out.mono ?_; rintro e w' ⟨rfl, h1, h2⟩)
        | (go_at_call 45; refine (HC.out _).mono ?_; rintro e w' ⟨rfl, rfl⟩))
      exact ⟨rfl, rfl, h2⟩
    · rw [if_neg h2] at hr
      exact absurd hr.symm hq
  · rw [if_pos h1] at hr
    simp only at hr
    have hz := rdText_zero h1
    have he := rdText_err l 2147483647
    unfold O.rtV at HN
    rw [hz.1, hz.2, hr] at HN
    rw [hr] at he
    have HP := Lib.hid (pass_bad R 0 q w (he.resolve_left hq))
    clear h hB hl hz he hr h1 hq
    go_enter Try.func38, Try.ntmps38
    go_wp2_with (first
      | (go_at_call 51; refine HN.out.mono ?_; rintro e w' ⟨rfl, rfl⟩)
      | (go_at_call 52; refine HP.out.mono ?_; rintro e w' ⟨rfl, rfl⟩))
    exact ⟨rfl, rfl, Kp.refl R w⟩
end
end Go.Proofs.Ytnkknlhdbhfjlaa
