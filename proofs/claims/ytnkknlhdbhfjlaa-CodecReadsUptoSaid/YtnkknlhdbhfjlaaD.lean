/-
  Laid by wip/prune.py out of wip/data: Like RSame RSm.
-/
import Derived.Test.YtnkknlhdbhfjlaaA
import Derived.Deep.RegionHeld3
namespace Go.Proofs.Ytnkknlhdbhfjlaa
open Go.RowKit

theorem list_ne {α : Type} {l m : List α} (hl : l.length = m.length) (h : ∀ i, (h1 : i < l.length) → (h2 : i < m.length) → l[i] = m[i]) : l = m := List.ext_getElem hl fun i h1 h2 => h i h1 h2
/-- two values are alike, whatever their elements are -/
def like (u v : V) : Bool := decide (u.k = v.k ∧ u.n = v.n ∧ u.s = v.s ∧ u.ks = v.ks ∧ u.l.length = v.l.length)
/-- two values are the same -/
noncomputable def same (a b : V) : Bool := @decide (a = b) (Classical.propDecidable _)
theorem same_yes {a b : V} (h : a = b) : same a b = true := by unfold same; exact @decide_eq_true _ (Classical.propDecidable _) h
theorem same_no {a b : V} (h : ¬ a = b) : same a b = false := by unfold same; exact @decide_eq_false _ (Classical.propDecidable _) h
theorem same_iff {a b : V} : same a b = true ↔ a = b := by unfold same; exact @decide_eq_true_iff _ (Classical.propDecidable _)
theorem like_of_eq {a b : V} (h : a = b) : like a b = true := by subst h; unfold like; simp
theorem same_not {a b : V} (h : like a b = false) : same a b = false := same_no fun e => by rw [like_of_eq e] at h; cases h
theorem like_false {a b : V} (h : ¬ (a.k = b.k ∧ a.n = b.n ∧ a.s = b.s ∧ a.ks.length = b.ks.length ∧ a.l.length = b.l.length)) : like a b = false := by
  unfold like
  refine decide_eq_false fun e => h ⟨e.1, e.2.1, e.2.2.1, by rw [e.2.2.2.1], e.2.2.2.2⟩
theorem int_ne {a b : Int} (h : ¬ a = b) : (a == b) = false ∧ (a != b) = true := by
  constructor
  · rw [beq_eq_false_iff_ne]; exact h
  · simp [h]
theorem nat_ne {a b : Nat} (h : ¬ a = b) : ((a : Int) == (b : Int)) = false ∧ ((a : Int) != (b : Int)) = true := int_ne (by omega)
theorem s_ne {a b : ByteArray} (h : ¬ a = b) : (a.toList == b.toList) = false ∧ (a.toList != b.toList) = true := by
  have := str_ne h
  exact ⟨this, by rw [bne, this]; rfl⟩
set_option maxRecDepth 100000 in
set_option maxHeartbeats 2000000 in
theorem refSame_not (k n : Int) (s : ByteArray) (ka : Option Addr) (kn kc : Nat) (la : Option Addr) (ln lc : Nat) (k' n' : Int) (s' : ByteArray) (ka' : Option Addr) (kn' kc' : Nat) (la' : Option Addr) (ln' lc' : Nat) (w : World)
    (h : ¬ (k = k' ∧ n = n' ∧ s = s' ∧ kn = kn' ∧ ln = ln')) :
    Calls Try.prog 12 #[.agg #[.int .i64 k, .int .i64 n, .string s, .slice ka kn kc, .slice la ln lc], .agg #[.int .i64 k', .int .i64 n', .string s', .slice ka' kn' kc', .slice la' ln' lc']] w fun e w' => e = .returned (.bool false) ∧ Below w.heap.size w w' := by
  by_cases hk : k = k'
  case neg =>
    obtain ⟨e1, e2⟩ := int_ne hk
    clear h hk
    go_enter Try.func12, Try.ntmps12
    go_wp2_with fail
    go_ret
    exact ⟨rfl, (below_alloc w _).trans ((below_alloc _ _).mono (by simp))⟩
  subst hk
  by_cases hn : n = n'
  case neg =>
    obtain ⟨e1, e2⟩ := int_ne hn
    clear h hn
    go_enter Try.func12, Try.ntmps12
    go_wp2_with fail
    go_ret
    exact ⟨rfl, (below_alloc w _).trans ((below_alloc _ _).mono (by simp))⟩
  subst hn
  by_cases hs : s = s'
  case neg =>
    obtain ⟨e1, e2⟩ := s_ne hs
    clear h hs
    go_enter Try.func12, Try.ntmps12
    go_wp2_with fail
    go_ret
    exact ⟨rfl, (below_alloc w _).trans ((below_alloc _ _).mono (by simp))⟩
  subst hs
  by_cases hkn : kn = kn'
  case neg =>
    obtain ⟨e1, e2⟩ := nat_ne hkn
    clear h hkn
    go_enter Try.func12, Try.ntmps12
    go_wp2_with fail
    go_ret
    exact ⟨rfl, (below_alloc w _).trans ((below_alloc _ _).mono (by simp))⟩
  subst hkn
  have hln : ¬ ln = ln' := fun e => h ⟨rfl, rfl, rfl, rfl, e⟩
  obtain ⟨e1, e2⟩ := nat_ne hln
  clear h hln
  go_enter Try.func12, Try.ntmps12
  go_wp2_with fail
  go_ret
  exact ⟨rfl, (below_alloc w _).trans ((below_alloc _ _).mono (by simp))⟩
set_option maxRecDepth 100000 in
set_option maxHeartbeats 2000000 in
theorem refSame_any : ∀ (a b : V) (x y : X) (w : World), Is w a x → Is w b y → a.bulk ≤ 4194304 →
    Calls Try.prog 12 #[x.v, y.v] w fun e w' => e = .returned (.bool (same a b)) ∧ Below w.heap.size w w' := by
  refine V.ind fun k n s ks l ih => ?_
  rintro ⟨k', n', s', ks', m⟩ x y w h h' hbk
  obtain ⟨ka, kc, la, lc, rfl, h1, h2, h3, h4⟩ := h.open
  obtain ⟨ka', kc', la', lc', rfl, h1', h2', h3', h4'⟩ := h'.open
  simp only [V.k, V.n, V.s, V.ks, V.l] at *
  have hbl : V.bulks l ≤ 4194304 := by
    simp only [V.bulk] at hbk
    omega
  have hkl : ks.length ≤ 4194304 := by
    have := length_le_keysBulk ks
    simp only [V.bulk] at hbk
    omega
  have hll : l.length ≤ 4194304 := Nat.le_trans (length_le_bulks l) hbl
  simp only [X.v]
  by_cases hd : k = k' ∧ n = n' ∧ s = s' ∧ ks.length = ks'.length ∧ l.length = m.length
  case neg =>
    have e : same (.mk k n s ks l) (.mk k' n' s' ks' m) = false := same_not (like_false hd)
    rw [e]
    exact refSame_not _ _ _ _ _ _ _ _ _ _ _ _ _ _ _ _ _ _ w hd
  obtain ⟨rfl, rfl, rfl, hkn, hln⟩ := hd
  have HNK : Hid (∀ i, (h1 : i < ks.length) → (h2 : i < ks'.length) → ¬ ks[i] = ks'[i] → same (.mk k n s ks l) (.mk k n s ks' m) = false) := fun i h1 h2 hne => same_no fun e => hne (by injection e with _ _ _ e _; subst e; rfl)
  have HNL : Hid (∀ i, (h1 : i < l.length) → (h2 : i < m.length) → ¬ l[i] = m[i] → same (.mk k n s ks l) (.mk k n s ks' m) = false) := fun i h1 h2 hne => same_no fun e => hne (by injection e with _ _ _ _ e; subst e; rfl)
  have HY : Hid ((∀ i, (h1 : i < ks.length) → (h2 : i < ks'.length) → ks[i] = ks'[i]) → (∀ i, (h1 : i < l.length) → (h2 : i < m.length) → l[i] = m[i]) → same (.mk k n s ks l) (.mk k n s ks' m) = true) := fun e1 e2 => same_yes (by rw [list_ne hkn e1, list_ne hln e2])
  obtain ⟨S0, hS0⟩ : ∃ S0, S0 = same (.mk k n s ks l) (.mk k n s ks' m) := ⟨_, rfl⟩
  rw [← hS0] at HNK HNL HY ⊢
  have HKN := Lib.hid hkn
  have HLN := Lib.hid hln
  rw [← hkn, ← hln]
  have hB0 : Below w.heap.size w ((w.alloc (.cells #[.int .i64 k, .int .i64 n, .string s, .slice ka ks.length kc, .slice la l.length lc] 25)).alloc (.cells #[.int .i64 k, .int .i64 n, .string s, .slice ka' ks.length kc', .slice la' l.length lc'] 25)) := (below_alloc w _).trans ((below_alloc _ _).mono (by simp))
  have HB0 := Lib.hid hB0
  clear hkn hln hS0 hB0 h h' hbk h1 h2 h1' h2'
  go_enter Try.func12, Try.ntmps12
  go_wp2_with fail
  go_loopw [47] (fun i wr => ∃ j : Nat, j ≤ ks.length ∧ i = .int .i64 j ∧ Hid (∀ i, i < j → (h1 : i < ks.length) → (h2 : i < ks'.length) → ks[i] = ks'[i]) ∧
      Below (w.heap.size + 2) ((w.alloc (.cells #[.int .i64 k, .int .i64 n, .string s, .slice ka ks.length kc, .slice la l.length lc] 25)).alloc (.cells #[.int .i64 k, .int .i64 n, .string s, .slice ka' ks.length kc', .slice la' l.length lc'] 25)) wr)
    (fun i _ => ks.length - (intOf i).toNat)
  case atStart => exact ⟨0, Nat.zero_le _, rfl, fun i hi => by omega, Below.refl _ _⟩
  case round =>
    obtain ⟨j, hj, rfl, hh, hbw⟩ := hrel
    have hbw0 := HB0.out.trans (hbw.mono (by omega))
    have hsz := hbw.size
    simp at hsz
    have p3 : wr.cell? ⟨w.heap.size, 3, none⟩ = some (.slice ka ks.length kc) := (hbw.cell (p := ⟨w.heap.size, 3, none⟩) (by simp)).trans (by simp)
    have q3 : wr.cell? ⟨w.heap.size + 1, 3, none⟩ = some (.slice ka' ks.length kc') := (hbw.cell (p := ⟨w.heap.size + 1, 3, none⟩) (by simp)).trans (by rw [World.cell?_alloc_at _ _ _ _ (by simp)]; rfl)
    have p4 : wr.cell? ⟨w.heap.size, 4, none⟩ = some (.slice la l.length lc) := (hbw.cell (p := ⟨w.heap.size, 4, none⟩) (by simp)).trans (by simp)
    have q4 : wr.cell? ⟨w.heap.size + 1, 4, none⟩ = some (.slice la' l.length lc') := (hbw.cell (p := ⟨w.heap.size + 1, 4, none⟩) (by simp)).trans (by rw [World.cell?_alloc_at _ _ _ _ (by simp)]; rfl)
    by_cases hlt : j < ks.length
    · have hlt2 : j < ks'.length := by have := HKN.out; omega
      obtain ⟨g, o, rfl, hg, hc⟩ := h3.at_ hlt
      obtain ⟨g2, o2, rfl, hg2, hc2⟩ := h3'.at_ hlt2
      have hcx := (hbw0.cell (p := ⟨g, o + j, none⟩) hg).trans hc
      have hcy := (hbw0.cell (p := ⟨g2, o2 + j, none⟩) hg2).trans hc2
      have HNj := Lib.hid (HNK.out j hlt hlt2)
      have HS : Hid (ks[j] = ks'[j] → ∀ i, i < j + 1 → (h1 : i < ks.length) → (h2 : i < ks'.length) → ks[i] = ks'[i]) := fun e i hi h1 h2 => by
        rcases Nat.lt_succ_iff_lt_or_eq.1 hi with hi | rfl
        · exact hh.out i hi h1 h2
        · exact e
      have hj0 : (0 : Int) ≤ (j : Int) := by omega
      have hj1 : (j : Int) < (ks.length : Int) := by omega
      generalize ks[j] = y at *
      generalize ks'[j] = z at *
      clear hc hc2 h3 h3' h4 h4' p4 q4 ih
      by_cases hyz : y = z
      · subst hyz
        have HS' := Lib.hid (HS.out rfl)
        clear HS HNj
        go_wp2_with fail
        go_quiet (fail)
        go_wp2_with fail
        go_roundw
        case rel => exact ⟨j + 1, by omega, by go_num, HS'.out, hbw.trans (below_drewN _ _ _)⟩
        case measure => simp [intOf]; omega
      · obtain ⟨e1, e2⟩ := s_ne hyz
        have HV := Lib.hid (HNj.out hyz)
        clear HS HNj hyz
        go_wp2_with fail
        go_quiet (fail)
        go_wp2_with fail
        go_ret
        exact ⟨by rw [HV.out]; rfl, hbw0.trans (below_drewN _ _ _)⟩
    · obtain rfl : j = ks.length := by omega
      have HYK := Lib.hid (HY.out fun i h1 h2 => hh.out i h1 h1 h2)
      have HBW0 := Lib.hid hbw0
      have HBW := Lib.hid hbw
      clear HY HNK hh HKN h3 h3' hlt p3 q3 hbw hbw0
      obtain ⟨wo, rfl⟩ : ∃ wo : World, wo = wr := ⟨_, rfl⟩
      go_wp2_with fail
      go_loopw [65] (fun i wx => ∃ j : Nat, j ≤ l.length ∧ i = .int .i64 j ∧ Hid (∀ i, i < j → (h1 : i < l.length) → (h2 : i < m.length) → l[i] = m[i]) ∧ Below wo.heap.size wo wx)
        (fun i _ => l.length - (intOf i).toNat)
      case atStart => exact ⟨0, Nat.zero_le _, rfl, fun i hi => by omega, Below.refl _ _⟩
      case round =>
        obtain ⟨j, hj, rfl, hh, hbx⟩ := hrel
        have hbx0 := HBW0.out.trans (hbx.mono HBW0.out.size)
        have hszx := hbx.size
        have p4' : wr.cell? ⟨w.heap.size, 4, none⟩ = some (.slice la l.length lc) := (hbx.cell (p := ⟨w.heap.size, 4, none⟩) (by simp; omega)).trans p4
        have q4' : wr.cell? ⟨w.heap.size + 1, 4, none⟩ = some (.slice la' l.length lc') := (hbx.cell (p := ⟨w.heap.size + 1, 4, none⟩) (by simp; omega)).trans q4
        by_cases hlt : j < l.length
        · have hlt2 : j < m.length := by have := HLN.out; omega
          obtain ⟨g, o, rfl, hg, y, hy, hv⟩ := h4.at_ hlt
          obtain ⟨g2, o2, rfl, hg2, z, hz, hu⟩ := h4'.at_ hlt2
          obtain ⟨c0, c1, c2, c3, c4⟩ := hy.below hg hbx0
          obtain ⟨d0, d1, d2, d3, d4⟩ := hz.below hg2 hbx0
          have hr := Lib.hid ((ih l[j] (List.getElem_mem hlt) m[j] y z wr.drew (Is.below (hbx0.trans (Below.refl _ _).drew) _ _ hv) (Is.below (hbx0.trans (Below.refl _ _).drew) _ _ hu) (Nat.le_trans (bulk_le_of_mem (List.getElem_mem hlt)) hbl)).mono fun e w1 (h : _ ∧ Below wr.drew.heap.size wr.drew w1) => (⟨h.1, (Below.refl wr.heap.size wr).drew.trans h.2⟩ : e = _ ∧ Below wr.heap.size wr w1))
          have HNj := Lib.hid (HNL.out j hlt hlt2)
          have HS : Hid (l[j] = m[j] → ∀ i, i < j + 1 → (h1 : i < l.length) → (h2 : i < m.length) → l[i] = m[i]) := fun e i hi h1 h2 => by
            rcases Nat.lt_succ_iff_lt_or_eq.1 hi with hi | rfl
            · exact hh.out i hi h1 h2
            · exact e
          have hj0 : (0 : Int) ≤ (j : Int) := by omega
          have hj1 : (j : Int) < (l.length : Int) := by omega
          obtain ⟨k2, n2, t2, ka2, kn2, kc2, la2, ln2, lc2⟩ := y
          obtain ⟨k3, n3, t3, ka3, kn3, kc3, la3, ln3, lc3⟩ := z
          simp only [X.v] at *
          obtain ⟨E, hE⟩ : ∃ E, E = same l[j] m[j] := ⟨_, rfl⟩
          have HE := Lib.hid hE
          rw [← hE] at hr
          generalize l[j] = u at *
          generalize m[j] = u' at *
          clear hy hz hv hu hE ih h4 h4' p4 q4
          have HSS : Hid (∀ w' : World, Below wr.heap.size wr w' → w'.cell? ⟨w.heap.size, 4, none⟩ = some (.slice (some ⟨g, o, none⟩) l.length lc) ∧ w'.cell? ⟨w.heap.size + 1, 4, none⟩ = some (.slice (some ⟨g2, o2, none⟩) l.length lc') ∧
               w'.cell? ⟨g, o + j * 5, none⟩ = some (.int .i64 k2) ∧ w'.cell? ⟨g, o + j * 5 + 1, none⟩ = some (.int .i64 n2) ∧ w'.cell? ⟨g, o + j * 5 + 2, none⟩ = some (.string t2) ∧ w'.cell? ⟨g, o + j * 5 + 3, none⟩ = some (.slice ka2 kn2 kc2) ∧ w'.cell? ⟨g, o + j * 5 + 4, none⟩ = some (.slice la2 ln2 lc2) ∧
               w'.cell? ⟨g2, o2 + j * 5, none⟩ = some (.int .i64 k3) ∧ w'.cell? ⟨g2, o2 + j * 5 + 1, none⟩ = some (.int .i64 n3) ∧ w'.cell? ⟨g2, o2 + j * 5 + 2, none⟩ = some (.string t3) ∧ w'.cell? ⟨g2, o2 + j * 5 + 3, none⟩ = some (.slice ka3 kn3 kc3) ∧ w'.cell? ⟨g2, o2 + j * 5 + 4, none⟩ = some (.slice la3 ln3 lc3)) := fun w' hb => by
            have hgx : g < wr.heap.size := by have := hbx0.size; omega
            have hgx2 : g2 < wr.heap.size := by have := hbx0.size; omega
            exact ⟨(hb.cell (by simp; omega)).trans p4', (hb.cell (by simp; omega)).trans q4', (hb.cell hgx).trans c0, (hb.cell hgx).trans c1, (hb.cell hgx).trans c2, (hb.cell hgx).trans c3, (hb.cell hgx).trans c4, (hb.cell hgx2).trans d0, (hb.cell hgx2).trans d1, (hb.cell hgx2).trans d2, (hb.cell hgx2).trans d3, (hb.cell hgx2).trans d4⟩
          cases E with
          | true =>
            have HS' := Lib.hid (HS.out (same_iff.1 HE.out.symm))
            clear HS HNj
            go_wp2_with fail
            go_region_held3 (fun w' => w'.cell? ⟨w.heap.size, 4, none⟩ = some (.slice (some ⟨g, o, none⟩) l.length lc) ∧ w'.cell? ⟨w.heap.size + 1, 4, none⟩ = some (.slice (some ⟨g2, o2, none⟩) l.length lc') ∧
               w'.cell? ⟨g, o + j * 5, none⟩ = some (.int .i64 k2) ∧ w'.cell? ⟨g, o + j * 5 + 1, none⟩ = some (.int .i64 n2) ∧ w'.cell? ⟨g, o + j * 5 + 2, none⟩ = some (.string t2) ∧ w'.cell? ⟨g, o + j * 5 + 3, none⟩ = some (.slice ka2 kn2 kc2) ∧ w'.cell? ⟨g, o + j * 5 + 4, none⟩ = some (.slice la2 ln2 lc2) ∧
               w'.cell? ⟨g2, o2 + j * 5, none⟩ = some (.int .i64 k3) ∧ w'.cell? ⟨g2, o2 + j * 5 + 1, none⟩ = some (.int .i64 n3) ∧ w'.cell? ⟨g2, o2 + j * 5 + 2, none⟩ = some (.string t3) ∧ w'.cell? ⟨g2, o2 + j * 5 + 3, none⟩ = some (.slice ka3 kn3 kc3) ∧ w'.cell? ⟨g2, o2 + j * 5 + 4, none⟩ = some (.slice la3 ln3 lc3))
              (first | go_keep) ((go_at_call 12; refine hr.out.mono ?_; rintro e w1 ⟨rfl, hb1⟩; obtain ⟨e0, e1, e2, e3, e4, e5, e6, e7, e8, e9, e10, e11⟩ := HSS.out _ hb1))
            have hbx1 := hbx.trans (hb1.mono hszx)
            clear e0 e1 e2 e3 e4 e5 e6 e7 e8 e9 e10 e11 c0 c1 c2 c3 c4 d0 d1 d2 d3 d4 hb1 hbx hbx0 p4' q4' HSS
            go_wp2_with fail
            go_roundw
            case rel => exact ⟨j + 1, by omega, by go_num, HS'.out, hbx1⟩
            case measure => simp [intOf]; omega
          | false =>
            have HV := Lib.hid (HNj.out fun e => by rw [same_yes e] at HE; exact absurd HE.out (by decide))
            clear HS HNj
            go_wp2_with fail
            go_region_held3 (fun w' => w'.cell? ⟨w.heap.size, 4, none⟩ = some (.slice (some ⟨g, o, none⟩) l.length lc) ∧ w'.cell? ⟨w.heap.size + 1, 4, none⟩ = some (.slice (some ⟨g2, o2, none⟩) l.length lc') ∧
               w'.cell? ⟨g, o + j * 5, none⟩ = some (.int .i64 k2) ∧ w'.cell? ⟨g, o + j * 5 + 1, none⟩ = some (.int .i64 n2) ∧ w'.cell? ⟨g, o + j * 5 + 2, none⟩ = some (.string t2) ∧ w'.cell? ⟨g, o + j * 5 + 3, none⟩ = some (.slice ka2 kn2 kc2) ∧ w'.cell? ⟨g, o + j * 5 + 4, none⟩ = some (.slice la2 ln2 lc2) ∧
               w'.cell? ⟨g2, o2 + j * 5, none⟩ = some (.int .i64 k3) ∧ w'.cell? ⟨g2, o2 + j * 5 + 1, none⟩ = some (.int .i64 n3) ∧ w'.cell? ⟨g2, o2 + j * 5 + 2, none⟩ = some (.string t3) ∧ w'.cell? ⟨g2, o2 + j * 5 + 3, none⟩ = some (.slice ka3 kn3 kc3) ∧ w'.cell? ⟨g2, o2 + j * 5 + 4, none⟩ = some (.slice la3 ln3 lc3))
              (first | go_keep) ((go_at_call 12; refine hr.out.mono ?_; rintro e w1 ⟨rfl, hb1⟩; obtain ⟨e0, e1, e2, e3, e4, e5, e6, e7, e8, e9, e10, e11⟩ := HSS.out _ hb1))
            have hbx1 := hbx0.trans (hb1.mono hbx0.size)
            clear e0 e1 e2 e3 e4 e5 e6 e7 e8 e9 e10 e11 c0 c1 c2 c3 c4 d0 d1 d2 d3 d4 hb1 hbx hbx0 p4' q4' HSS
            go_wp2_with fail
            go_ret
            exact ⟨by rw [HV.out]; rfl, hbx1⟩
        · obtain rfl : j = l.length := by omega
          have HV := Lib.hid (HYK.out fun i h1 h2 => hh.out i h1 h1 h2)
          clear p4' q4' p4 q4
          go_wp2_with fail
          go_ret
          exact ⟨by rw [HV.out]; rfl, hbx0⟩
end Go.Proofs.Ytnkknlhdbhfjlaa
