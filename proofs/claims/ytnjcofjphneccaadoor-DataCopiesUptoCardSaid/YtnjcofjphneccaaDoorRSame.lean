/-
  The reference's Same, EqualFunc with alike, by contract.
-/
import Derived.Test.YtnjcofjphneccaaDoorLike
namespace Go.Proofs.YtnjcofjphneccaaDoor
open Go.RowKit

/-- two values are the same -/
noncomputable def same (a b : V) : Bool := @decide (a = b) (Classical.propDecidable _)
theorem same_yes {a b : V} (h : a = b) : same a b = true := by unfold same; exact @decide_eq_true _ (Classical.propDecidable _) h
theorem same_no {a b : V} (h : ¬ a = b) : same a b = false := by unfold same; exact @decide_eq_false _ (Classical.propDecidable _) h
theorem same_iff {a b : V} : same a b = true ↔ a = b := by unfold same; exact @decide_eq_true_iff _ (Classical.propDecidable _)
theorem like_of_eq {a b : V} (h : a = b) : like a b = true := by subst h; unfold like; simp
theorem eq_of_like {a b : V} (h : like a b = true) (hl : a.l = b.l) : a = b := by
  unfold like at h
  obtain ⟨h1, h2, h3, h4, _⟩ := of_decide_eq_true h
  cases a; cases b
  simp only [V.k, V.n, V.s, V.ks, V.l] at *
  subst h1 h2 h3 h4 hl
  rfl
/-- the loops' end -/
theorem same_loop {a b : V} (h : like a b = true) (hh : ∀ i, (h1 : i < a.l.length) → (h2 : i < b.l.length) → a.l[i] = b.l[i]) : same a b = true := by
  refine same_yes (eq_of_like h (list_ne ?_ hh))
  unfold like at h
  exact (of_decide_eq_true h).2.2.2.2
theorem same_kid {a b : V} {i : Nat} (h1 : i < a.l.length) (h2 : i < b.l.length) (h : ¬ a.l[i] = b.l[i]) : same a b = false := same_no fun e => h (by subst e; rfl)
theorem same_not {a b : V} (h : like a b = false) : same a b = false := same_no fun e => by rw [like_of_eq e] at h; cases h

def likes : List V → List V → Bool
  | [], [] => true
  | u :: r, v :: t => like u v && likes r t
  | _, _ => false
theorem likes_len : ∀ {l m : List V}, likes l m = true → l.length = m.length
  | [], [], _ => rfl
  | u :: r, v :: t, h => by
    simp only [likes, Bool.and_eq_true] at h
    simp [likes_len h.2]
  | [], _ :: _, h => by cases h
  | _ :: _, [], h => by cases h
theorem likes_at : ∀ {l m : List V}, likes l m = true → ∀ i, (h1 : i < l.length) → (h2 : i < m.length) → like l[i] m[i] = true
  | [], [], _, i, h1, _ => by simp at h1
  | u :: r, v :: t, h, i, h1, h2 => by
    simp only [likes, Bool.and_eq_true] at h
    cases i with
    | zero => exact h.1
    | succ i => exact likes_at h.2 i (by simpa using h1) (by simpa using h2)
  | [], _ :: _, h, _, _, _ => by cases h
  | _ :: _, [], h, _, _, _ => by cases h
theorem likes_all : ∀ {l m : List V}, l.length = m.length → (∀ i, (h1 : i < l.length) → (h2 : i < m.length) → like l[i] m[i] = true) → likes l m = true
  | [], [], _, _ => rfl
  | u :: r, v :: t, hl, h => by
    simp only [likes, Bool.and_eq_true]
    exact ⟨h 0 (by simp) (by simp), likes_all (by simpa using hl) fun i h1 h2 => h (i + 1) (by simpa using h1) (by simpa using h2)⟩
  | [], _ :: _, h, _ => by simp at h
  | _ :: _, [], h, _ => by simp at h

set_option maxRecDepth 8000 in
set_option maxHeartbeats 1000000 in
theorem equalFunc_any (A B : Option Addr) (l m : List V) (c d : Nat) (w : World) (h : Row w A l) (h' : Row w B m) (hb : V.bulks l ≤ 4194304) :
    Calls Tryd.prog 33 #[.slice A l.length c, .slice B m.length d, .func (.func 34) #[] #[]] w fun e w' => e = .returned (.bool (likes l m)) ∧ Below w.heap.size w w' := by
  have hll : l.length ≤ 4194304 := Nat.le_trans (length_le_bulks l) hb
  by_cases hl : l.length = m.length
  · have HL := Lib.hid hl
    rw [← hl]
    have HN : Hid (∀ i, (h1 : i < l.length) → (h2 : i < m.length) → like l[i] m[i] = false → likes l m = false) := fun i h1 h2 hne => by
      cases hh : likes l m
      · rfl
      · rw [likes_at hh i h1 h2] at hne
        cases hne
    have HY : Hid ((∀ i, (h1 : i < l.length) → (h2 : i < m.length) → like l[i] m[i] = true) → likes l m = true) := fun hh => likes_all hl hh
    clear hl
    go_enter Tryd.func33, Tryd.ntmps33
    go_wp2_with fail
    go_loopw [17] (fun i wr => ∃ j : Nat, j ≤ l.length ∧ i = .int .i64 j ∧ Hid (∀ i, i < j → (h1 : i < l.length) → (h2 : i < m.length) → like l[i] m[i] = true) ∧ Below w.heap.size w wr)
      (fun i _ => l.length - (intOf i).toNat)
    case atStart => exact ⟨0, Nat.zero_le _, rfl, fun i hi => by omega, Below.refl _ _⟩
    case round =>
      obtain ⟨j, hj, rfl, hh, hbw⟩ := hrel
      by_cases hlt : j < l.length
      · have hlt2 : j < m.length := by have := HL.out; omega
        obtain ⟨g, o, rfl, hg, y, hy, hv⟩ := h.at_ hlt
        obtain ⟨g2, o2, rfl, hg2, z, hz, hu⟩ := h'.at_ hlt2
        have hy' := hy.below hg hbw
        have hz' := (hz.below hg2 hbw).below (B := wr.heap.size) (Nat.lt_of_lt_of_le hg2 hbw.size) (below_alloc wr (.cells y.cells 25))
        obtain ⟨c0, c1, c2, c3, c4⟩ := hy'
        obtain ⟨d0, d1, d2, d3, d4⟩ := hz'
        have hA := Lib.hid fun w' (hb' : Below w.heap.size w w') => alike_any l[j] m[j] y z w' (Is.below hb' _ _ hv) (Is.below hb' _ _ hu) (Nat.le_trans (bulk_le_of_mem (List.getElem_mem hlt)) hb)
        have HNj := Lib.hid (HN.out j hlt hlt2)
        have HS : Hid (like l[j] m[j] = true → ∀ i, i < j + 1 → (h1 : i < l.length) → (h2 : i < m.length) → like l[i] m[i] = true) := fun e i hi h1 h2 => by
          rcases Nat.lt_succ_iff_lt_or_eq.1 hi with hi | rfl
          · exact hh.out i hi h1 h2
          · exact e
        obtain ⟨k, n, s, ka, kn, kc, la, ln, lc⟩ := y
        obtain ⟨k', n', s', ka', kn', kc', la', ln', lc'⟩ := z
        simp only [X.v, X.cells] at *
        obtain ⟨E, hE⟩ : ∃ E, E = like l[j] m[j] := ⟨_, rfl⟩
        rw [← hE] at hA HNj HS
        clear hy hz hv hu hE
        have hb2 := ((hbw.trans ((below_alloc wr (.cells #[.int .i64 k, .int .i64 n, .string s, .slice ka kn kc, .slice la ln lc] 25)).mono hbw.size)).trans ((below_alloc (wr.alloc (.cells #[.int .i64 k, .int .i64 n, .string s, .slice ka kn kc, .slice la ln lc] 25)) (.cells #[.int .i64 k', .int .i64 n', .string s', .slice ka' kn' kc', .slice la' ln' lc'] 25)).mono (by have := hbw.size; simp; omega)))
        cases E with
        | true =>
          have HS' := Lib.hid (HS.out rfl)
          clear HS HNj
          go_wp2_with fail
          refine (hA.out _ hb2).mono ?_
          rintro e w1 ⟨rfl, hb1⟩
          have hb3 := hb2.trans (hb1.mono hb2.size)
          clear hb1 hb2 c0 c1 c2 c3 c4 d0 d1 d2 d3 d4 hbw
          go_wp2_with fail
          go_roundw
          case rel => exact ⟨j + 1, by omega, by go_num, HS'.out, hb3⟩
          case measure => simp [intOf]; omega
        | false =>
          have HV := Lib.hid (HNj.out rfl)
          clear HS HNj
          go_wp2_with fail
          refine (hA.out _ hb2).mono ?_
          rintro e w1 ⟨rfl, hb1⟩
          have hb3 := hb2.trans (hb1.mono hb2.size)
          clear hb1 hb2 c0 c1 c2 c3 c4 d0 d1 d2 d3 d4 hbw
          go_wp2_with fail
          go_ret
          exact ⟨by rw [HV.out]; rfl, hb3⟩
      · obtain rfl : j = l.length := by omega
        have HV := Lib.hid (HY.out fun i h1 h2 => hh.out i h1 h1 h2)
        go_wp2_with fail
        go_ret
        exact ⟨by rw [HV.out]; rfl, hbw⟩
  · have HV : Hid (likes l m = false) := by
      cases hh : likes l m
      · exact rfl
      · exact absurd (likes_len hh) hl
    have hl2 : ((l.length : Int) != (m.length : Int)) = true := by simp; omega
    have hl' : ((l.length : Int) == (m.length : Int)) = false := by rw [beq_eq_false_iff_ne]; omega
    generalize l.length = kn at *
    generalize m.length = mn at *
    go_enter Tryd.func33, Tryd.ntmps33
    go_wp2_with fail
    go_ret
    exact ⟨by rw [HV.out]; rfl, Below.refl _ _⟩
end Go.Proofs.YtnjcofjphneccaaDoor
