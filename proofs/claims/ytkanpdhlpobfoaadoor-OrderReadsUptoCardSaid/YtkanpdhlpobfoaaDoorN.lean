/-
  The reference's Compare, Same; begins, by contract.
-/
import Derived.Test.YtkanpdhlpobfoaaDoorM
import Derived.Test.YtkanpdhlpobfoaaDoorQ
import Derived.Deep.RegionHeld3
import Derived.BigQuiet
import Derived.Deep.QuietTactic
namespace Go.Proofs.YtkanpdhlpobfoaaDoor
open Go.RowKit
open K (Pt)

theorem undrew {w w1 : World} (h : Below w.drew.heap.size w.drew w1) : Below w.heap.size w w1 := ((Below.refl w.heap.size w).drew).trans h
/-- the cells of two parts -/
def Six (w : World) (g o g2 o2 : Nat) (t : Bool) (n : Int) (s : ByteArray) (t' : Bool) (n' : Int) (s' : ByteArray) : Prop :=
  w.cell? ⟨g, o, none⟩ = some (.bool t) ∧ w.cell? ⟨g, o + 1, none⟩ = some (.int .i64 n) ∧ w.cell? ⟨g, o + 2, none⟩ = some (.string s) ∧ w.cell? ⟨g2, o2, none⟩ = some (.bool t') ∧ w.cell? ⟨g2, o2 + 1, none⟩ = some (.int .i64 n') ∧ w.cell? ⟨g2, o2 + 2, none⟩ = some (.string s')

set_option maxRecDepth 8000 in
set_option maxHeartbeats 1000000 in
theorem refCompare_any (A B : Option Addr) (k m : List Pt) (c d : Nat) (w : World) (h : Row w A k) (h' : Row w B m) (hk : k.length ≤ 9223372036854775807) :
    Calls Tryd.prog 21 #[.slice A k.length c, .slice B m.length d] w fun e w' => e = .returned (.int .i64 (K.cmpK k m)) ∧ Below w.heap.size w w' := by
  go_enter Tryd.func21, Tryd.ntmps21
  go_wp2_with fail
  go_loopw [5] (fun i wr => ∃ j : Nat, j ≤ k.length ∧ j ≤ m.length ∧ i = .int .i64 j ∧ Hid (K.cmpK k m = K.cmpK (k.drop j) (m.drop j)) ∧ Below w.heap.size w wr)
    (fun i _ => k.length - (intOf i).toNat)
  case atStart => exact ⟨0, Nat.zero_le _, Nat.zero_le _, rfl, rfl, Below.refl _ _⟩
  case round =>
    obtain ⟨j, hj, hj2, rfl, hh, hbw⟩ := hrel
    by_cases hlt : j < k.length
    · by_cases hlt2 : j < m.length
      · obtain ⟨g, o, rfl, hg, hp⟩ := h.at_ hlt
        obtain ⟨g2, o2, rfl, hg2, hq⟩ := h'.at_ hlt2
        have hp' := hp.below hg hbw
        have hq' := hq.below hg2 hbw
        have HSS : Hid (∀ w' : World, Below wr.heap.size wr w' → Six w' g (o + j * 3) g2 (o2 + j * 3) k[j].t k[j].n k[j].s m[j].t m[j].n m[j].s) := Lib.hid fun w' hb => by
          have hx := hp'.below (Nat.lt_of_lt_of_le hg hbw.size) hb
          have hy := hq'.below (Nat.lt_of_lt_of_le hg2 hbw.size) hb
          exact ⟨hx.c0, hx.c1, hx.c2, hy.c0, hy.c1, hy.c2⟩
        obtain ⟨c0, c1, c2⟩ := hp'
        obtain ⟨d0, d1, d2⟩ := hq'
        have HC := Lib.hid fun w => refComparePart_any k[j] m[j] w
        have HD := Lib.hid (cmpK_drop hlt hlt2)
        obtain ⟨C, hC⟩ : ∃ C, C = K.cmpP k[j] m[j] := ⟨_, rfl⟩
        have hsg := K.cmpP_tot.sign k[j] m[j]
        rw [← hC] at HC HD hsg
        generalize k[j] = p at *
        generalize m[j] = q at *
        obtain ⟨t, n, s⟩ := p
        obtain ⟨t', n', s'⟩ := q
        simp only [pV, Six] at *
        clear hp hq hC h h'
        rcases hsg with rfl | rfl | rfl
        · rw [if_neg (by decide)] at HD
          have HV := Lib.hid (hh.out.trans HD.out)
          go_wp2_with fail
          go_region_held3 (fun w' => w'.cell? ⟨g, o + j * 3, none⟩ = some (.bool t) ∧ w'.cell? ⟨g, o + j * 3 + 1, none⟩ = some (.int .i64 n) ∧ w'.cell? ⟨g, o + j * 3 + 2, none⟩ = some (.string s) ∧ w'.cell? ⟨g2, o2 + j * 3, none⟩ = some (.bool t') ∧ w'.cell? ⟨g2, o2 + j * 3 + 1, none⟩ = some (.int .i64 n') ∧ w'.cell? ⟨g2, o2 + j * 3 + 2, none⟩ = some (.string s'))
            (first | go_keep) ((go_at_call 36; refine (HC.out _).mono ?_; rintro e w1 ⟨rfl, hb1⟩; obtain ⟨e0, e1, e2, e3, e4, e5⟩ := HSS.out _ (undrew hb1)))
          have hb2 := hbw.trans ((undrew hb1).mono hbw.size)
          clear c0 c1 c2 d0 d1 d2 e0 e1 e2 e3 e4 e5 hb1 hbw HSS
          go_wp2_with fail
          go_ret
          exact ⟨by rw [HV.out]; rfl, hb2⟩
        · rw [if_pos rfl] at HD
          have HV := Lib.hid (hh.out.trans HD.out)
          go_wp2_with fail
          go_region_held3 (fun w' => w'.cell? ⟨g, o + j * 3, none⟩ = some (.bool t) ∧ w'.cell? ⟨g, o + j * 3 + 1, none⟩ = some (.int .i64 n) ∧ w'.cell? ⟨g, o + j * 3 + 2, none⟩ = some (.string s) ∧ w'.cell? ⟨g2, o2 + j * 3, none⟩ = some (.bool t') ∧ w'.cell? ⟨g2, o2 + j * 3 + 1, none⟩ = some (.int .i64 n') ∧ w'.cell? ⟨g2, o2 + j * 3 + 2, none⟩ = some (.string s'))
            (first | go_keep) ((go_at_call 36; refine (HC.out _).mono ?_; rintro e w1 ⟨rfl, hb1⟩; obtain ⟨e0, e1, e2, e3, e4, e5⟩ := HSS.out _ (undrew hb1)))
          have hb2 := hbw.trans ((undrew hb1).mono hbw.size)
          clear c0 c1 c2 d0 d1 d2 e0 e1 e2 e3 e4 e5 hb1 hbw HSS
          go_wp2_with fail
          go_roundw
          case rel => exact ⟨j + 1, by omega, by omega, by go_num, HV, hb2⟩
          case measure => simp [intOf]; omega
        · rw [if_neg (by decide)] at HD
          have HV := Lib.hid (hh.out.trans HD.out)
          go_wp2_with fail
          go_region_held3 (fun w' => w'.cell? ⟨g, o + j * 3, none⟩ = some (.bool t) ∧ w'.cell? ⟨g, o + j * 3 + 1, none⟩ = some (.int .i64 n) ∧ w'.cell? ⟨g, o + j * 3 + 2, none⟩ = some (.string s) ∧ w'.cell? ⟨g2, o2 + j * 3, none⟩ = some (.bool t') ∧ w'.cell? ⟨g2, o2 + j * 3 + 1, none⟩ = some (.int .i64 n') ∧ w'.cell? ⟨g2, o2 + j * 3 + 2, none⟩ = some (.string s'))
            (first | go_keep) ((go_at_call 36; refine (HC.out _).mono ?_; rintro e w1 ⟨rfl, hb1⟩; obtain ⟨e0, e1, e2, e3, e4, e5⟩ := HSS.out _ (undrew hb1)))
          have hb2 := hbw.trans ((undrew hb1).mono hbw.size)
          clear c0 c1 c2 d0 d1 d2 e0 e1 e2 e3 e4 e5 hb1 hbw HSS
          go_wp2_with fail
          go_ret
          exact ⟨by rw [HV.out]; rfl, hb2⟩
      · have hge : m.length ≤ j := by omega
        have HV := Lib.hid (hh.out.trans (cmpK_long hlt hge))
        have hg2 : (m.length : Int) < k.length := by omega
        have hge2 : (m.length : Int) ≤ k.length := by omega
        clear hlt2
        go_wp2_with fail
        go_ret
        exact ⟨by rw [HV.out]; rfl, hbw⟩
    · obtain rfl : j = k.length := by omega
      by_cases hlt2 : k.length < m.length
      · have HV := Lib.hid (hh.out.trans (cmpK_short (Nat.le_refl _) hlt2))
        go_wp2_with fail
        go_ret
        exact ⟨by rw [HV.out]; rfl, hbw⟩
      · have hge : m.length ≤ k.length := by omega
        have HV := Lib.hid (hh.out.trans (cmpK_end (Nat.le_refl _) hge))
        clear hlt2
        go_wp2_with fail
        go_ret
        exact ⟨by rw [HV.out]; rfl, hbw⟩

/-! Same -/
/-- two keys are the same -/
noncomputable def same (a b : List Pt) : Bool := @decide (a = b) (Classical.propDecidable _)
theorem same_yes {a b : List Pt} (h : a = b) : same a b = true := by unfold same; exact @decide_eq_true _ (Classical.propDecidable _) h
theorem same_no {a b : List Pt} (h : ¬ a = b) : same a b = false := by unfold same; exact @decide_eq_false _ (Classical.propDecidable _) h
theorem same_iff {a b : List Pt} : same a b = true ↔ a = b := by unfold same; exact @decide_eq_true_iff _ (Classical.propDecidable _)
theorem part_eq {p q : Pt} (h1 : p.t = q.t) (h2 : p.n = q.n) (h3 : p.s = q.s) : p = q := by cases p; cases q; simp only at *; subst h1 h2 h3; rfl
set_option maxRecDepth 8000 in
set_option maxHeartbeats 1000000 in
theorem same_any (A B : Option Addr) (k m : List Pt) (c d : Nat) (w : World) (h : Row w A k) (h' : Row w B m) (hk : k.length ≤ 9223372036854775807) :
    Calls Tryd.prog 17 #[.slice A k.length c, .slice B m.length d] w fun e w' => e = .returned (.bool (same k m)) ∧ Below w.heap.size w w' := by
  by_cases hl : k.length = m.length
  · have HL := Lib.hid hl
    rw [← hl]
    clear hl
    go_enter Tryd.func17, Tryd.ntmps17
    go_wp2_with fail
    go_loopw [13] (fun i wr => ∃ j : Nat, j ≤ k.length ∧ i = .int .i64 j ∧ Hid (∀ i, i < j → (h1 : i < k.length) → (h2 : i < m.length) → k[i] = m[i]) ∧ Below w.heap.size w wr)
      (fun i _ => k.length - (intOf i).toNat)
    case atStart => exact ⟨0, Nat.zero_le _, rfl, fun i hi => by omega, Below.refl _ _⟩
    case round =>
      obtain ⟨j, hj, rfl, hh, hbw⟩ := hrel
      by_cases hlt : j < k.length
      · have hlt2 : j < m.length := by have := HL.out; omega
        obtain ⟨g, o, rfl, hg, hp⟩ := h.at_ hlt
        obtain ⟨g2, o2, rfl, hg2, hq⟩ := h'.at_ hlt2
        obtain ⟨c0, c1, c2⟩ := hp.below hg hbw
        obtain ⟨d0, d1, d2⟩ := hq.below hg2 hbw
        have HN : Hid (∀ i, (h1 : i < k.length) → (h2 : i < m.length) → ¬ k[i] = m[i] → same k m = false) := fun i h1 h2 hne => same_no fun e => hne (by subst e; rfl)
        have hG := eq_guard
        by_cases he : k[j] = m[j]
        · have HS : Hid (∀ i, i < j + 1 → (h1 : i < k.length) → (h2 : i < m.length) → k[i] = m[i]) := fun i hi h1 h2 => by
            rcases Nat.lt_succ_iff_lt_or_eq.1 hi with hi | rfl
            · exact hh.out i hi h1 h2
            · exact he
          rw [← he] at d0 d1 d2
          have hE := eq_yes k[j]
          generalize k[j] = p at *
          obtain ⟨t, n, s⟩ := p
          simp only at *
          clear hp hq he h h' HN
          go_wp2_with fail
          go_quiet (fail)
          go_wp2_with fail
          go_roundw
          case rel => exact ⟨j + 1, by omega, by go_num, HS, hbw.trans (below_drewN _ _ _)⟩
          case measure => simp [intOf]; omega
        · have HV := Lib.hid (HN.out j hlt hlt2 he)
          have hE := eq_no k[j] m[j] he
          generalize k[j] = p at *
          generalize m[j] = q at *
          obtain ⟨t, n, s⟩ := p
          obtain ⟨t', n', s'⟩ := q
          simp only at *
          clear hp hq he h h' HN
          go_wp2_with fail
          go_quiet (fail)
          go_wp2_with fail
          go_ret
          exact ⟨by rw [HV.out]; rfl, hbw.trans (below_drewN _ _ _)⟩
      · obtain rfl : j = k.length := by omega
        have HV : Hid (same k m = true) := same_yes (List.ext_getElem HL.out fun i h1 h2 => hh.out i h1 h1 h2)
        go_wp2_with fail
        go_ret
        exact ⟨by rw [HV.out]; rfl, hbw⟩
  · have HV : Hid (same k m = false) := same_no fun e => hl (by rw [e])
    have hb : ((k.length : Int) != (m.length : Int)) = true := by rw [bne_iff_ne]; omega
    have hb2 : ((k.length : Int) == (m.length : Int)) = false := by rw [beq_eq_false_iff_ne]; omega
    clear hl
    go_enter Tryd.func17, Tryd.ntmps17
    go_wp2_with fail
    go_ret
    exact ⟨by rw [HV.out]; rfl, Below.refl _ _⟩

/-- a key begins with another one -/
noncomputable def begins (k u : List Pt) : Bool := @decide (u <+: k) (Classical.propDecidable _)
theorem begins_iff {k u : List Pt} : begins k u = true ↔ u <+: k := by unfold begins; exact @decide_eq_true_iff _ (Classical.propDecidable _)
theorem begins_short {k u : List Pt} (h : k.length < u.length) : begins k u = false := by
  rw [Bool.eq_false_iff]
  intro hb
  have := (begins_iff.1 hb).length_le
  omega
theorem begins_long {k u : List Pt} : begins k u = same (k.take u.length) u := by
  rw [Bool.eq_iff_iff, begins_iff, same_iff]
  exact ⟨fun h => (List.prefix_iff_eq_take.1 h).symm, fun h => List.prefix_iff_eq_take.2 h.symm⟩
set_option maxRecDepth 4000 in
set_option maxHeartbeats 1000000 in
theorem begins_any (A B : Option Addr) (k u : List Pt) (c d : Nat) (w : World) (h : Row w A k) (h' : Row w B u) (hk : k.length ≤ 9223372036854775807) (hc : k.length ≤ c) :
    Calls Tryd.prog 23 #[.slice A k.length c, .slice B u.length d] w fun e w' => e = .returned (.bool (begins k u)) ∧ Below w.heap.size w w' := by
  by_cases hl : u.length ≤ k.length
  · have HS := Lib.hid (same_any A B (k.take u.length) u c d w (h.take _) h' (by rw [List.length_take]; omega))
    have hlt : (k.take u.length).length = u.length := by rw [List.length_take]; omega
    have HV := Lib.hid (begins_long (k := k) (u := u))
    rw [hlt] at HS
    generalize same (k.take u.length) u = B1 at *
    clear h h' hlt
    go_enter Tryd.func23, Tryd.ntmps23
    go_wp2_with fail
    refine HS.out.mono ?_
    rintro e w1 ⟨rfl, hb⟩
    go_wp2_with fail
    go_ret
    exact ⟨by rw [HV.out]; rfl, hb⟩
  · have hlt : k.length < u.length := by omega
    have HV := Lib.hid (begins_short hlt)
    clear hl
    go_enter Tryd.func23, Tryd.ntmps23
    go_wp2_with fail
    go_ret
    exact ⟨by rw [HV.out]; rfl, Below.refl _ _⟩
end Go.Proofs.YtkanpdhlpobfoaaDoor
