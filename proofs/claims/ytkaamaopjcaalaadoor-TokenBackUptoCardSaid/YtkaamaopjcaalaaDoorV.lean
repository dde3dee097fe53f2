/-
  The laws Words, Rises.
-/
import Derived.Test.YtkaamaopjcaalaaDoorT
namespace Go.Proofs.YtkaamaopjcaalaaDoor.T
open Go.RowKit Go.Proofs.YtkaamaopjcaalaaDoor

set_option maxRecDepth 8000 in
set_option maxHeartbeats 1000000 in
theorem words_law (s : ByteArray) (w : World) (hs : s.size ≤ 9223372036854775807) (hV : Vars w) :
    Calls Tryd.prog 3 #[.string s] w (Yes w) := by
  have HL := Lib.hid (live_any w hV)
  have H1 := Lib.hid fun w => isWord_any s w
  have H2 := Lib.hid fun w => refIsWord_any s w
  have H3 := Lib.hid fun w => isIdent_any s w hs
  have H4 := Lib.hid fun w => refIsIdent_any s w hs
  clear hV
  generalize isW s.data.toList = b1 at *
  generalize isI s.data.toList = b2 at *
  go_enter Tryd.func3, Tryd.ntmps3
  go_wp2_with fail
  refine HL.out.mono ?_
  rintro e w1 ⟨rfl, hb1⟩
  have HB1 := Lib.hid hb1
  clear hb1
  go_wp2_with fail
  refine (H1.out _).mono ?_
  rintro e w' ⟨rfl, rfl⟩
  go_wp2_with fail
  refine (H2.out _).mono ?_
  rintro e w2 ⟨rfl, hb2⟩
  have HB2 := Lib.hid (HB1.out.trans (hb2.mono HB1.out.size))
  clear hb2
  have e1 : (b1 == b1) = true := by simp
  have e2 : (b2 == b2) = true := by simp
  go_wp2_with fail
  refine (H3.out _).mono ?_
  rintro e w' ⟨rfl, rfl⟩
  go_wp2_with fail
  refine (H4.out _).mono ?_
  rintro e w' ⟨rfl, rfl⟩
  go_wp2_with fail
  go_ret
  exact ⟨rfl, HB2.out⟩
/-- Cut, its three ways -/
theorem cut_inl (s : ByteArray) (hs : s.size ≤ 4096) {p : Nat} (hc : cutl s.data.toList 0 = .inl p) : Hid (∀ w', Vars w' → Calls Tryd.prog 14 #[.string s] w' fun e w'' => e = .returned (.tuple #[.slice none 0 0, .int .i64 (p : Nat), .int .i64 60]) ∧ Below w'.heap.size w' w'') := Lib.hid fun w' hv => by
  have := cut_any s w' hs hv
  rw [hc] at this
  exact this.mono fun _ _ h => ⟨h.2, h.1⟩
theorem cut_inr (s : ByteArray) (hs : s.size ≤ 4096) {ts : List Tk} (hc : cutl s.data.toList 0 = .inr ts) : Hid (∀ w', Vars w' → Calls Tryd.prog 14 #[.string s] w' fun e w'' => Below w'.heap.size w' w'' ∧ ∃ A c, e = .returned (.tuple #[.slice A ts.length c, .int .i64 0, .int .i64 0]) ∧ ts.length ≤ c ∧ Row w'' A ts ∧ OwnT w'' w'.heap.size (.slice A ts.length c) ts) := Lib.hid fun w' hv => by
  have := cut_any s w' hs hv
  rw [hc] at this
  refine this.mono ?_
  rintro e w'' ⟨hb, v, rfl, ho⟩
  obtain ⟨A, c, rfl, hlc, hr⟩ := ho.open
  exact ⟨hb, A, c, rfl, hlc, hr, ho⟩
theorem cutl_len : ∀ (f : Nat) (l : Bs) (a : Nat) (ts : List Tk), l.length ≤ f → cutl l a = .inr ts → ts.length ≤ l.length + 1
  | f, l, a, ts, hf, h => by
    rcases cutl_ways l with ⟨n, h1, _⟩ | h1 | ⟨n, h1, h2, h3⟩ | ⟨n, t, k, h1, h2, h3, h4, h5⟩
    · rw [cutl_open _ h1] at h; cases h
    · rw [cutl_end _ h1] at h
      injection h with h
      subst h
      simp
    · rw [cutl_bad _ h1 h2 h3] at h; cases h
    · rw [cutl_tok _ h1 h2 h3] at h
      cases hc : cutl (l.drop (n + k)) (a + n + k) with
      | inl e => rw [hc] at h; cases h
      | inr y =>
        rw [hc] at h
        injection h with h
        subst h
        cases f with
        | zero => omega
        | succ f =>
          have := cutl_len f (l.drop (n + k)) (a + n + k) y (by rw [List.length_drop]; omega) hc
          rw [List.length_drop] at this
          simp only [List.length_cons]
          omega
/-- what is left to look at -/
def Ris (z : Nat) (ts : List Tk) (j : Nat) (last : Int) : Prop := (j < ts.length ∧ ∃ lo : Nat, last = (lo : Int) - 1 ∧ Rise z lo (ts.drop j)) ∨ (j = ts.length ∧ 0 < ts.length ∧ last = z)
theorem Ris.done {z : Nat} {ts : List Tk} {last : Int} (h : Ris z ts ts.length last) : 0 < ts.length ∧ last = z := by
  rcases h with ⟨h, _⟩ | ⟨_, h1, h2⟩
  · omega
  · exact ⟨h1, h2⟩
theorem Ris.step {z : Nat} {ts : List Tk} {j : Nat} {last : Int} (h : Ris z ts j last) (hj : j < ts.length) : last < ts[j].a ∧ ts[j].a ≤ z ∧ Ris z ts (j + 1) ts[j].a ∧ ((ts[j].k = 0 ∧ j + 1 = ts.length) ∨ (0 < ts[j].k ∧ j + 1 < ts.length)) := by
  rcases h with ⟨_, lo, rfl, hr⟩ | ⟨h, _⟩
  · have hd : ts.drop j = ts[j] :: ts.drop (j + 1) := List.drop_eq_getElem_cons hj
    rw [hd] at hr
    obtain ⟨h1, h2, h3⟩ := hr
    refine ⟨by omega, h2, ?_⟩
    rcases h3 with ⟨h3, h4, h5⟩ | ⟨h3, h4, p, h5, h6⟩
    · have : j + 1 = ts.length := by
        have := List.drop_eq_nil_iff.1 h3
        omega
      exact ⟨.inr ⟨this, by omega, h5⟩, .inl ⟨h4, this⟩⟩
    · have : j + 1 < ts.length := by
        rcases Nat.lt_or_ge (j + 1) ts.length with h | h
        · exact h
        · exact absurd (List.drop_of_length_le h) h3
      exact ⟨.inl ⟨this, p + 1, by omega, h6⟩, .inr ⟨h4, this⟩⟩
  · omega
set_option maxRecDepth 8000 in
set_option maxHeartbeats 2000000 in
theorem rises_law (s : ByteArray) (w : World) (hV : Vars w) :
    Calls Tryd.prog 7 #[.string s] w (Yes w) := by
  have HL := Lib.hid (live_any w hV)
  have HVw := Lib.hid fun w' (hb : Below w.heap.size w w') => hV.below hb
  by_cases hs : s.size ≤ 4096
  · have hrise := cutl_rise s.data.toList.length s.data.toList 0 (Nat.le_refl _)
    rw [size_list, Nat.zero_add] at hrise
    cases hc : cutl s.data.toList 0 with
    | inl p =>
      have HC := cut_inl s hs hc
      have hp := (hrise.1 p hc).2
      have hpi : (p : Int) ≤ (s.size : Int) := by omega
      clear hc hrise hV
      go_enter Tryd.func7, Tryd.ntmps7
      go_wp2_with fail
      refine HL.out.mono ?_
      rintro e w1 ⟨rfl, hb1⟩
      have HB1 := Lib.hid hb1
      clear hb1
      go_wp2_with fail
      refine (HC.out _ (HVw.out _ HB1.out)).mono ?_
      rintro e w2 ⟨rfl, hb2⟩
      have HB2 := Lib.hid (HB1.out.trans (hb2.mono HB1.out.size))
      clear hb2
      go_wp2_with fail
      go_ret
      exact ⟨rfl, HB2.out⟩
    | inr ts =>
      have HC := cut_inr s hs hc
      have hz := hrise.2 ts hc
      have hl := cutl_len s.data.toList.length s.data.toList 0 ts (Nat.le_refl _) hc
      rw [size_list] at hl
      have H0 : Hid (Ris s.size ts 0 (-1)) := Lib.hid (.inl ⟨List.length_pos_iff.2 hz.ne, 0, rfl, hz⟩)
      clear hc hrise hV hz
      go_enter Tryd.func7, Tryd.ntmps7
      go_wp2_with fail
      refine HL.out.mono ?_
      rintro e w1 ⟨rfl, hb1⟩
      have HB1 := Lib.hid hb1
      clear hb1
      go_wp2_with fail
      refine (HC.out _ (HVw.out _ HB1.out)).mono ?_
      rintro e w2 ⟨hb2, A, c, rfl, hlc, hR, -⟩
      have HB2 := Lib.hid (HB1.out.trans (hb2.mono HB1.out.size))
      have HR := Lib.hid hR
      clear hb2 hR
      go_wp2_with fail
      go_loopw [7, 37] (fun vl vi wr => ∃ (j : Nat) (last : Int), j ≤ ts.length ∧ vi = .int .i64 j ∧ vl = .int .i64 last ∧ Hid (Ris s.size ts j last) ∧ Below w2.heap.size w2 wr)
        (fun _ vi _ => ts.length - (intOf vi).toNat)
      case atStart => exact ⟨0, -1, Nat.zero_le _, rfl, rfl, H0, Below.refl _ _⟩
      case round =>
        obtain ⟨j, last, hj, rfl, rfl, hI, hbw⟩ := hrel
        by_cases hlt : j < ts.length
        · obtain ⟨g, o, rfl, hg, hp⟩ := HR.out.at_ hlt
          obtain ⟨c0, c1, c2, c3, c4⟩ := hp.below hg hbw
          obtain ⟨r1, r2, r3, r4⟩ := hI.out.step hlt
          have HI := Lib.hid r3
          generalize ts[j] = t at *
          obtain ⟨tk, tt, tn, ta, tf⟩ := t
          simp only at *
          generalize (ByteArray.mk tt.toArray) = tx at *
          clear hp hI r3 HR
          have hb3 : ∀ o, Below w2.heap.size w2 (wr.alloc o) := fun o => hbw.trans ((below_alloc wr o).mono hbw.size)
          have HB3 := Lib.hid hb3
          clear hb3
          rcases r4 with ⟨r4, r5⟩ | ⟨r4, r5⟩
          · subst r4
            have r6 : ((j : Int) == (ts.length : Int) - 1) = true := by rw [beq_iff_eq]; omega
            go_wp2_with fail
            exact ⟨⟨j + 1, ta, by omega, by go_num, rfl, HI, HB3.out _⟩, by simp [intOf]; omega⟩
          · have r6 : ((j : Int) == (ts.length : Int) - 1) = false := ne_i (by omega)
            have r7 : (tk == 0) = false := by rw [beq_eq_false_iff_ne]; omega
            go_wp2_with fail
            exact ⟨⟨j + 1, ta, by omega, by go_num, rfl, HI, HB3.out _⟩, by simp [intOf]; omega⟩
        · obtain rfl : j = ts.length := by omega
          obtain ⟨h1, rfl⟩ := hI.out.done
          have HB3 := Lib.hid (HB2.out.trans (hbw.mono HB2.out.size))
          have h1i : 0 < (ts.length : Int) := by omega
          clear hI
          go_wp2_with fail
          go_ret
          exact ⟨rfl, HB3.out⟩
  · have HC := Lib.hid fun w => cut_long s w (by omega)
    clear hs hV HVw
    go_enter Tryd.func7, Tryd.ntmps7
    go_wp2_with fail
    refine HL.out.mono ?_
    rintro e w1 ⟨rfl, hb1⟩
    have HB1 := Lib.hid hb1
    clear hb1
    go_wp2_with fail
    refine (HC.out _).mono ?_
    rintro e w' ⟨rfl, rfl⟩
    go_wp2_with fail
    go_ret
    exact ⟨rfl, HB1.out⟩
end Go.Proofs.YtkaamaopjcaalaaDoor.T
