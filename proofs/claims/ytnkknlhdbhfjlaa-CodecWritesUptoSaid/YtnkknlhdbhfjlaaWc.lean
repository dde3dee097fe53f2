/-
  The reference's write of a Record; its Encode, by contract.
-/
import Derived.Test.YtnkknlhdbhfjlaaWb
import Derived.Test.YtnkknlhdbhfjlaaB
namespace Go.Proofs.Ytnkknlhdbhfjlaa
open Go.RowKit

set_option maxRecDepth 100000 in
set_option maxHeartbeats 2000000 in
theorem aw_rec (n : Int) (s : ByteArray) (ks : List ByteArray) (l : List V) (ih : ∀ v ∈ l, AtW v) : AtW (.mk 6 n s ks l) := by
  intro x w hx hm hbk
  obtain ⟨ka, kc, la, lc, rfl, h1, h2, h3, h4⟩ := hx.open
  simp only [V.k, V.n, V.s, V.ks, V.l] at *
  have hkl : ks.length = l.length := by
    rcases own_cases (may_own hm) with h | h | ⟨h, _⟩ | ⟨h, _⟩ | ⟨h, _⟩ | h | ⟨_, h, _⟩ <;> first | simp only [V.k] at h | skip
    all_goals first | exact h | (exfalso; omega)
  have hmk : ∀ u ∈ l, u.may = true := fun u hu => may_kids hm u hu
  have hkb : keysBulk ks + V.bulks l + 1 ≤ V.bulk (.mk 6 n s ks l) := by simp only [V.bulk]; omega
  have hll : l.length ≤ 4194304 := by have := length_le_bulks l; omega
  have hdone := RE_done [] (.mk 6 n s ks l) rfl hkl
  rw [List.nil_append] at hdone
  simp only [V.l, V.ks] at hdone
  have HDN := Lib.hid hdone
  have hnl := O.num_length l.length
  have HL0 : Hid (RE [] ks l 0 = 8 :: O.num l.length) := by
    show _ = _
    unfold RE zipEnc
    rw [hkl]
    simp
  have HKL := Lib.hid hkl
  have hwl : IntKind.u64.wrap (l.length : Int) = (l.length : Int) := O.wrap_len (by omega)
  have HNM := Lib.hid fun w => O.refNum_any l.length w (O.len_lim (by omega))
  simp only [X.v]
  generalize hbv : V.bulk (.mk 6 n s ks l) = bv' at *
  clear hx h1 h2 hm hbv hdone hkl
  generalize O.num l.length = t at *
  obtain ⟨w0, hw0⟩ : ∃ w0, w0 = w.alloc (.cells #[.int .i64 6, .int .i64 n, .string s, .slice ka ks.length kc, .slice la l.length lc] 25) := ⟨_, rfl⟩
  have HZ : Hid (w0.heap.size = w.heap.size + 1) := by subst hw0; exact Lib.hid (by simp)
  have HBA : Hid (w.heap.size < w0.heap.size) := by subst hw0; exact Lib.hid (by simp)
  have HO : Hid (Own (w0.alloc (.cells #[.int .u8 7] 5)) (· < w0.heap.size) (.slice (some ⟨w.heap.size + 1, 0, none⟩) 1 1) [7]) := by
    have := own_lit w0 (· < w0.heap.size) (fun k hk => hk) 7 7 rfl
    rw [HZ.out] at this ⊢
    exact Lib.hid this
  have HB : Hid (Below w0.heap.size w0 (w0.alloc (.cells #[.int .u8 7] 5))) := Lib.hid (below_alloc _ _)
  have HW0 : Hid (Below w.heap.size w w0) := by subst hw0; exact Lib.hid (below_alloc _ _)
  have HS0 : Hid (∀ w', Fr (· < w0.heap.size) w0 w' → w'.cell? ⟨w.heap.size, 0, none⟩ = some (.int .i64 6) ∧ w'.cell? ⟨w.heap.size, 3, none⟩ = some (.slice ka ks.length kc) ∧ w'.cell? ⟨w.heap.size, 4, none⟩ = some (.slice la l.length lc)) := fun w' hf => by
    have h := HBA.out
    exact ⟨(hf.cell (p := ⟨w.heap.size, 0, none⟩) h).trans (by subst hw0; simp), (hf.cell (p := ⟨w.heap.size, 3, none⟩) h).trans (by subst hw0; simp), (hf.cell (p := ⟨w.heap.size, 4, none⟩) h).trans (by subst hw0; simp)⟩
  have HR := Lib.hid h4
  have HRK := Lib.hid h3
  clear h4 h3
  subst hw0
  go_enter Try.func20, Try.ntmps20
  go_wp2_with fail
  refine (HNM.out _).mono ?_
  rintro e w2 ⟨v2, rfl, h2, hb⟩
  obtain ⟨A, c, rfl, hY⟩ := gives_byt h2
  have ho := HO.out.below hb
  have hb2 := HB.out.trans (hb.mono HB.out.size)
  have HB2 := Lib.hid hb2
  have hz2 : ∀ k, k < (w.alloc (.cells #[.int .i64 6, .int .i64 n, .string s, .slice ka ks.length kc, .slice la l.length lc] 25)).heap.size → k < w2.heap.size := fun k hk => Nat.lt_of_lt_of_le hk hb2.size
  clear h2 HNM hb hb2 HO HB
  generalize w.alloc (.cells #[.int .i64 6, .int .i64 n, .string s, .slice ka ks.length kc, .slice la l.length lc] 25) = w0 at *
  go_wp2_with (refine app_row rfl _ _ (by rfl) (· < w0.heap.size) hz2 _ [7] (by rfl) ho A _ c t (by rfl) rfl hY (by simp; omega) ?_; intro v1 w1 h1 hf1; obtain ⟨g1, cap1, rfl, ⟨u1, hu1⟩, hfz1, hng1, hst1⟩ := own_store (c := 7) (l := t) h1; have hf2 := (below_lt HB2.out).trans hf1; have hf3 := hf2.setCell (p := ⟨g1, 0, none⟩) hng1 (.int .u8 8); obtain ⟨s0, s3, s4⟩ := HS0.out _ hf2; obtain ⟨r0, r3, r4⟩ := HS0.out _ hf3; have ho1 : Own (w1.setCell ⟨g1, 0, none⟩ (.int .u8 8)) (· < w0.heap.size) (.slice (some ⟨g1, 0, none⟩) (t.length + 1) cap1) (8 :: t) := hst1 8; have HO1' := Lib.hid ho1; have HF3' := Lib.hid hf3; clear ho1 hf3 hst1 h1 hf1 hf2)
  have HO1 : Hid (Own (w1.setCell ⟨g1, 0, none⟩ (.int .u8 8)) (· < w0.heap.size) (.slice (some ⟨g1, 0, none⟩) (t.length + 1) cap1) (RE [] ks l 0)) := by rw [HL0.out]; exact HO1'
  clear s0 s3 s4 r0 r3 r4 hY ho hz2 HB2 HO1'
  generalize w1.setCell ⟨g1, 0, none⟩ (.int .u8 8) = w4 at *
  go_loopw [3, 61] (fun t i wr => ∃ j : Nat, j ≤ l.length ∧ i = .int .i64 j ∧ Own wr (· < w0.heap.size) t (RE [] ks l j) ∧ Fr (· < w0.heap.size) w0 wr)
    (fun _ i _ => l.length - (intOf i).toNat)
  case atStart => exact ⟨0, Nat.zero_le _, rfl, HO1.out, HF3'.out⟩
  case round =>
    obtain ⟨j, hj, rfl, ho, hfr⟩ := hrel
    have hbt := bulks_take' l j
    have hkt := keysBulk_take' ks j
    have hjl := RE_len [] ks l j
    by_cases hlt : j < l.length
    · have hltk : j < ks.length := by have := HKL.out; omega
      obtain ⟨g, o, rfl, hg, y, hy, hv⟩ := HR.out.at_ hlt
      obtain ⟨gk, ok, rfl, hgk, hck⟩ := HRK.out.at_ hltk
      have hbw : Below w.heap.size w wr := HW0.out.trans (hfr.below.mono HW0.out.size)
      obtain ⟨c0, c1, c2, c3, c4⟩ := hy.below hg hbw
      have hck0 := (hbw.cell (p := ⟨gk, ok + j, none⟩) hgk).trans hck
      have hmem := List.getElem_mem hlt
      have hbu := bulk_le_of_mem hmem
      have hbs := bulks_snoc' l j hlt
      have hbt2 := bulks_take' l (j + 1)
      have hks := keysBulk_snoc' ks j hltk
      have hkt2 := keysBulk_take' ks (j + 1)
      have hksz := key_le_keysBulk (List.getElem_mem hltk)
      have htl := text_length ks[j]
      have hel := enc_len l[j]
      have HST := Lib.hid (RE_step [] ks l j hltk hlt)
      have hlt1 : (RE [] ks l j).length + (O.text ks[j].data.toList).length ≤ 140737488355320 := by simp only [List.length_nil] at hjl; omega
      have hlt2 : (RE [] ks l j ++ O.text ks[j].data.toList).length + l[j].enc.length ≤ 140737488355320 := by rw [List.length_append]; simp only [List.length_nil] at hjl; omega
      have hks4 : ks[j].size ≤ 140737488351232 := by omega
      have hby : Below wr.heap.size wr (wr.alloc (.cells y.cells 25)) := below_alloc _ _
      have HT := Lib.hid (O.refText_any ks[j] (wr.alloc (.cells y.cells 25)) hks4)
      have HI := Lib.hid fun w' (hb' : Below w.heap.size w w') => ih l[j] hmem y w' (Is.below hb' _ _ hv) (hmk _ hmem) (by omega)
      have HOW := Lib.hid (ho.up (F' := Or (· < w0.heap.size) wr.heap.size) hby fun k hk => by rcases hk with hk | rfl; exact .inl hk; exact .inr (Nat.le_refl _))
      have HFR2 := Lib.hid (hfr.trans ((below_lt hby).mono fun k (hk : k < w0.heap.size) => Nat.lt_of_lt_of_le hk hfr.size))
      obtain ⟨s0, s3, s4⟩ := HS0.out _ hfr
      have hbr : w.heap.size < wr.heap.size := Nat.lt_of_lt_of_le HBA.out hfr.size
      have hbne : ¬ w.heap.size = wr.heap.size := by omega
      have hgz : gk < wr.heap.size := by have : gk < w.heap.size := hgk; omega
      have hj0 : (0 : Int) ≤ (j : Int) := by omega
      have hj1 : (j : Int) < (ks.length : Int) := by omega
      have HAT : Hid (∀ w', Fr (Or (· < w0.heap.size) wr.heap.size) (wr.alloc (.cells y.cells 25)) w' → At w' wr.heap.size 0 y) := fun w' hf => (at_of_block (hp_new rfl)).fr (.inr rfl) hf
      have HF0 := Lib.hid hfr
      obtain ⟨k2, n2, t2, ka2, kn2, kc2, la2, ln2, lc2⟩ := y
      simp only [X.v, X.cells] at *
      clear ho hy hv hbs hbu hbt hbt2 hjl hmem hel hby hbw hg hks hkt hkt2 hksz htl hks4 hck hgk hfr
      generalize l[j] = u at *
      generalize ks[j] = key at *
      go_wp2_with fail
      refine HT.out.mono ?_
      rintro e w2 ⟨v2, rfl, h2, hb⟩
      obtain ⟨A2, cc2, rfl, hY2⟩ := gives_byt h2
      have ho2 := HOW.out.below hb
      have hzz : wr.heap.size + 1 ≤ w2.heap.size := by have := hb.size; simpa using this
      have hF2 : ∀ k, Or (· < w0.heap.size) wr.heap.size k → k < w2.heap.size := fun k hk => by
        rcases hk with hk | rfl
        · have := HF0.out.size; omega
        · omega
      have HFb := Lib.hid (Fr.of hb (F := Or (· < w0.heap.size) wr.heap.size) fun k hk => by
        simp
        rcases hk with hk | rfl
        · have := HF0.out.size; omega
        · omega)
      clear h2 hb HT c0 c1 c2 c3 c4 s0 s3 s4 hck0
      go_wp2_with (refine app_row rfl _ _ (by rfl) (Or (· < w0.heap.size) wr.heap.size) hF2 _ (RE [] ks l j) (by rfl) ho2 A2 _ cc2 (O.text key.data.toList) (by rfl) rfl hY2 hlt1 ?_; intro v3 w3 h3 hf3; obtain ⟨d0, d1, d2, d3, d4⟩ := HAT.out _ (HFb.out.trans hf3))
      have hfr3 := HFR2.out.trans ((HFb.out.trans hf3).mono fun k hk => .inl hk)
      have hbw3 := HW0.out.trans (hfr3.below.mono HW0.out.size)
      have HFR3 := Lib.hid hfr3
      have HO3 := Lib.hid (h3.less (F' := (· < w0.heap.size)) fun k hk => .inl hk)
      clear h3 hf3 HFb ho2 hF2 hfr3 hY2
      refine (HI.out w3 hbw3).mono ?_
      rintro e w5 ⟨v5, rfl, h5, hf5⟩
      obtain ⟨A5, cc5, rfl, _, hY5⟩ := own_byt h5
      have ho5 := HO3.out.below hf5.below
      have hfr5 := HFR3.out.trans (hf5.mono fun k (hk : k < w0.heap.size) => Nat.lt_of_lt_of_le hk HFR3.out.size)
      have HFR5 := Lib.hid hfr5
      have hz5 : ∀ k, k < w0.heap.size → k < w5.heap.size := fun k hk => Nat.lt_of_lt_of_le hk hfr5.size
      clear h5 hf5 hfr5 HI HFR2 HFR3 d0 d1 d2 d3 d4 hbw3 HO3
      go_wp2_with (refine app_row rfl _ _ (by rfl) (· < w0.heap.size) hz5 _ (RE [] ks l j ++ O.text key.data.toList) (by rfl) ho5 A5 _ cc5 u.enc (by rfl) rfl hY5 hlt2 ?_; intro v6 w6 h6 hf6)
      rw [← HST.out] at h6
      have hfr6 := HFR5.out.trans hf6
      clear hf6 hY5 ho5 HST
      go_roundw
      case rel => exact ⟨j + 1, by omega, by go_num, h6, hfr6⟩
      case measure => simp [intOf]; omega
    · obtain rfl : j = l.length := by omega
      rw [HDN.out] at ho
      have HO3 := Lib.hid (ho.less (F' := (· < w.heap.size)) fun k (hk : k < w.heap.size) => Nat.lt_of_lt_of_le hk HW0.out.size)
      have HF3 := Lib.hid ((below_lt HW0.out).trans (hfr.mono fun k (hk : k < w.heap.size) => Nat.lt_of_lt_of_le hk HW0.out.size))
      clear ho hfr
      go_wp2_with fail
      go_ret
      exact ⟨_, rfl, HO3.out, HF3.out⟩
theorem atW_all : ∀ v : V, AtW v := by
  refine V.ind fun k n s ks l ih => ?_
  by_cases h5 : k = 5
  · subst h5
    exact aw_list n s ks l ih
  by_cases h6 : k = 6
  · subst h6
    exact aw_rec n s ks l ih
  intro x w hx hm hbk
  have hss : (V.mk k n s ks l).s.size ≤ 4194304 := by simp only [V.bulk, V.s] at *; omega
  rcases own_cases (may_own hm) with h | h | ⟨h, hn⟩ | ⟨h, hn⟩ | ⟨h, _⟩ | h | ⟨h, _⟩
  · exact aw_word _ x w hx (.inl h)
  · exact aw_word _ x w hx (.inr h)
  · exact aw_bool _ x w hx h hn
  · exact aw_num _ x w hx h hn
  · exact aw_text _ x w hx h hss
  · exact absurd h h5
  · exact absurd h h6

set_option maxRecDepth 4000 in
set_option maxHeartbeats 400000 in
theorem refEncode_any (v : V) (x : X) (w : World) (hx : Is w v x) (hb : v.bulk ≤ 4194304) : Calls Try.prog 9 #[x.v] w (GivesE w v.wrt v.chk) := by
  have HC := Lib.hid fun w' (hb' : Below w.heap.size w w') => refChk_any v x w' (Is.below hb' _ _ hx) hb
  have HE : Hid (∀ w', Below w.heap.size w w' → v.chk = 0 → Calls Try.prog 20 #[x.v] w' (App w' (· < w'.heap.size) v.enc)) := fun w' hb' h => atW_all v x w' (Is.below hb' _ _ hx) (chk_may h).1 hb
  obtain ⟨k, n, s, ka, kn, kc, la, ln, lc⟩ := x
  simp only [X.v] at *
  by_cases h : v.chk = 0
  · have HW : Hid (v.wrt = v.enc) := by show _ = _; unfold V.wrt; rw [if_pos h]
    have HE2 := Lib.hid fun w' hb' => HE.out w' hb' h
    rw [h] at HC ⊢
    rw [HW.out]
    clear HE hx h HW
    go_enter Try.func9, Try.ntmps9
    go_wp2_with fail
    refine (HC.out _ (below_alloc _ _)).mono ?_
    rintro e w1 ⟨rfl, hb1⟩
    have hb0 := (below_alloc w (.cells #[.int .i64 k, .int .i64 n, .string s, .slice ka kn kc, .slice la ln lc] 25)).trans (hb1.mono (by simp))
    have c0 := (hb1.cell (p := ⟨w.heap.size, 0, none⟩) (by simp)).trans (show _ = some (.int .i64 k) by simp)
    have c1 := (hb1.cell (p := ⟨w.heap.size, 1, none⟩) (by simp)).trans (show _ = some (.int .i64 n) by simp)
    have c2 := (hb1.cell (p := ⟨w.heap.size, 2, none⟩) (by simp)).trans (show _ = some (.string s) by simp)
    have c3 := (hb1.cell (p := ⟨w.heap.size, 3, none⟩) (by simp)).trans (show _ = some (.slice ka kn kc) by simp)
    have c4 := (hb1.cell (p := ⟨w.heap.size, 4, none⟩) (by simp)).trans (show _ = some (.slice la ln lc) by simp)
    clear hb1
    go_wp2_with fail
    refine (HE2.out _ hb0).mono ?_
    rintro e w2 ⟨v2, rfl, h2, hf2⟩
    obtain ⟨_, A, c, rfl, hlc, hB⟩ := O.Byt.of_own h2.1
    go_wp2_with fail
    go_ret2
    exact ⟨A, c, rfl, hlc, hB, hb0.trans (hf2.below.mono hb0.size)⟩
  · have HW : Hid (v.wrt = []) := by show _ = _; unfold V.wrt; rw [if_neg h]
    rw [HW.out]
    have hc : v.chk = 30 ∨ v.chk = 31 := by
      unfold V.chk at *
      split
      · split
        · exact .inr rfl
        · rename_i h1 h2
          rw [if_pos h1, if_neg h2] at h
          exact absurd rfl h
      · exact .inl rfl
    generalize v.chk = q at *
    clear HE hx h HW
    rcases hc with rfl | rfl
    · go_enter Try.func9, Try.ntmps9
      go_wp2_with fail
      refine (HC.out _ (below_alloc _ _)).mono ?_
      rintro e w1 ⟨rfl, hb1⟩
      go_wp2_with fail
      go_ret2
      exact ⟨none, 0, rfl, Nat.le_refl _, .inl rfl, (below_alloc w _).trans (hb1.mono (by simp))⟩
    · go_enter Try.func9, Try.ntmps9
      go_wp2_with fail
      refine (HC.out _ (below_alloc _ _)).mono ?_
      rintro e w1 ⟨rfl, hb1⟩
      go_wp2_with fail
      go_ret2
      exact ⟨none, 0, rfl, Nat.le_refl _, .inl rfl, (below_alloc w _).trans (hb1.mono (by simp))⟩
end Go.Proofs.Ytnkknlhdbhfjlaa
