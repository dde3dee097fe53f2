/-
  appendValue of a Record; Encode, by contract.
-/
import Derived.Test.YtnkknlhdbhfjlaaEc
namespace Go.Proofs.Ytnkknlhdbhfjlaa
open Go.RowKit

set_option maxRecDepth 100000 in
set_option maxHeartbeats 2000000 in
theorem ae_rec (n : Int) (s : ByteArray) (ks : List ByteArray) (l : List V) (ih : ∀ v ∈ l, AtE v) : AtE (.mk 6 n s ks l) := by
  intro F B val pre x w hF hBF hBw h0 hx hm hbk hlim
  have hx' : Is w (.mk 6 n s ks l) x := IsB.to (Below.refl B w) hBw _ _ hx
  have H4 : RowB w B x.la l := (by rw [isB_iff] at hx; exact hx.2.2.2.2)
  have H3 : StrsB w B x.ka ks := (by rw [isB_iff] at hx; exact hx.2.1.2.2)
  obtain ⟨ka, kc, la, lc, rfl, h1, h2, h3, -⟩ := hx'.open
  simp only [V.k, V.n, V.s, V.ks, V.l] at *
  have hkl : ks.length = l.length := by
    rcases own_cases (may_own hm) with h | h | ⟨h, _⟩ | ⟨h, _⟩ | ⟨h, _⟩ | h | ⟨_, h, _⟩ <;> first | simp only [V.k] at h | skip
    all_goals first | exact h | (exfalso; omega)
  have hmk : ∀ u ∈ l, u.may = true := fun u hu => may_kids hm u hu
  have hkb : keysBulk ks + V.bulks l + 1 ≤ V.bulk (.mk 6 n s ks l) := by simp only [V.bulk]; omega
  have hll : ks.length ≤ 4194304 := by have := length_le_bulks l; omega
  have hdone := RE_done pre (.mk 6 n s ks l) rfl hkl
  simp only [V.l, V.ks] at hdone
  have HDN := Lib.hid hdone
  have hF' : ∀ k, Or F w.heap.size k → k < (w.alloc (.cells #[.int .i64 6, .int .i64 n, .string s, .slice ka ks.length kc, .slice la l.length lc] 25)).heap.size := fun k hk => by
    simp
    rcases hk with hk | rfl
    · have := hF k hk; omega
    · omega
  have HO := Lib.hid (h0.up (F' := Or F w.heap.size) (below_alloc w (.cells #[.int .i64 6, .int .i64 n, .string s, .slice ka ks.length kc, .slice la l.length lc] 25)) fun k hk => by rcases hk with hk | rfl; exact .inl hk; exact .inr (Nat.le_refl _))
  have HP := own_at hF' HO.out
  have HF := Lib.hid hF'
  have HBF : Hid (∀ k, k < B → Or F w.heap.size k) := fun k hk => .inl (hBF k hk)
  have HFR := Lib.hid ((Fr.refl F w).alloc hF (.cells #[.int .i64 6, .int .i64 n, .string s, .slice ka ks.length kc, .slice la l.length lc] 25))
  have HR := Lib.hid (H4.to ((below_alloc w (.cells #[.int .i64 6, .int .i64 n, .string s, .slice ka ks.length kc, .slice la l.length lc] 25)).mono hBw) (Nat.le_refl B))
  have HRK := Lib.hid (H3.to ((below_alloc w (.cells #[.int .i64 6, .int .i64 n, .string s, .slice ka ks.length kc, .slice la l.length lc] 25)).mono hBw) (Nat.le_refl B))
  have HBW := Lib.hid hBw
  have HKL := Lib.hid hkl
  have HSS : Hid (∀ w', Fr (Or F w.heap.size) (w.alloc (.cells #[.int .i64 6, .int .i64 n, .string s, .slice ka ks.length kc, .slice la l.length lc] 25)) w' → w'.cell? ⟨w.heap.size, 3, none⟩ = some (.slice ka ks.length kc)) := fun w' hf => (hf.cell (p := ⟨w.heap.size, 3, none⟩) (.inr rfl)).trans (by simp)
  have HSL : Hid (∀ w', Fr (Or F w.heap.size) (w.alloc (.cells #[.int .i64 6, .int .i64 n, .string s, .slice ka ks.length kc, .slice la l.length lc] 25)) w' → w'.cell? ⟨w.heap.size, 4, none⟩ = some (.slice la l.length lc)) := fun w' hf => (hf.cell (p := ⟨w.heap.size, 4, none⟩) (.inr rfl)).trans (by simp)
  have HL0 : Hid (RE pre ks l 0 = (pre ++ [8]) ++ O.num ks.length) := by
    show _ = _
    unfold RE zipEnc
    simp
  simp only [X.v]
  generalize hbv : V.bulk (.mk 6 n s ks l) = bv at *
  clear hx hx' h1 h2 h3 hm h0 hF hBF hbv hF' H4 H3 hdone hBw hkl
  go_enter Try.func18, Try.ntmps18
  go_wp2_with fail
  go_region_held3 (fun w' => w'.cell? ⟨w.heap.size, 3, none⟩ = some (.slice ka ks.length kc)) (first | go_keep)
    ((first
      | (refine step_app_row rfl _ _ (by rfl) (Or F w.heap.size) (HP.out _ ?b).2.1 _ pre (by rfl) (HP.out _ ?b).1 _ _ _ [8] (by rfl) rfl (byt_new (heap2_at _ _ _) rfl) (by simp; omega) ?_; (case b => first | exact (below_alloc _ _).drew | exact below_alloc _ _); intro v1 w1 h1 hf1; have hf0 := (HP.out _ (below_alloc _ (.cells #[.int .u8 8] 5)).drew).2.2.trans hf1; have s2 := HSS.out _ hf0)
      | (go_at_call 31; refine (appendCount_any (Or F w.heap.size) _ _ ks.length _ ?f h1 hll (by simp; omega)).mono ?_; (case f => exact fun k hk => Nat.lt_of_lt_of_le (HF.out k hk) hf0.size); rintro e w2 ⟨v2, rfl, h2, hf2⟩; have s3 := HSS.out _ (hf0.trans hf2))))
  rw [← HL0.out] at h2
  have HO1 := Lib.hid h2
  have HFR1 := Lib.hid (hf0.trans hf2)
  clear h1 h2 hf0 hf1 hf2 s2 HP
  generalize w.alloc (.cells #[.int .i64 6, .int .i64 n, .string s, .slice ka ks.length kc, .slice la l.length lc] 25) = w0 at *
  go_wp2_with fail
  clear s3
  go_loopw [0, 75] (fun t i wr => ∃ j : Nat, j ≤ ks.length ∧ i = .int .i64 j ∧ Own wr (Or F w.heap.size) t (RE pre ks l j) ∧ Fr (Or F w.heap.size) w0 wr)
    (fun _ i _ => ks.length - (intOf i).toNat)
  case atStart => exact ⟨0, Nat.zero_le _, rfl, HO1.out, HFR1.out⟩
  case round =>
    obtain ⟨j, hj, rfl, ho, hfr⟩ := hrel
    have hbt := bulks_take' l j
    have hkt := keysBulk_take' ks j
    have hjl := RE_len pre ks l j
    by_cases hlt : j < ks.length
    · have hlt2 : j < l.length := by have := HKL.out; omega
      obtain ⟨g, o, rfl, hg, y, hy, hv⟩ := HR.out.at_ hlt2
      obtain ⟨gk, ok, rfl, hgk, hck⟩ := HRK.out.at_ hlt
      obtain ⟨c0, c1, c2, c3, c4⟩ := hy.fr (F := Or F w.heap.size) (HBF.out g hg) hfr
      have hck' := (hfr.cell (p := ⟨gk, ok + j, none⟩) (HBF.out gk hgk)).trans hck
      have hmem := List.getElem_mem hlt2
      have hbu := bulk_le_of_mem hmem
      have hbs := bulks_snoc' l j hlt2
      have hbt2 := bulks_take' l (j + 1)
      have hks := keysBulk_snoc' ks j hlt
      have hkt2 := keysBulk_take' ks (j + 1)
      have hksz := key_le_keysBulk (List.getElem_mem hlt)
      have htl := text_length ks[j]
      have HST := Lib.hid (RE_step pre ks l j hlt hlt2)
      have hlt1 : (RE pre ks l j ++ O.text ks[j].data.toList).length + 11 * l[j].bulk ≤ 140737300000000 := by rw [List.length_append]; omega
      have hlt0 : (RE pre ks l j).length + ks[j].size ≤ 140737488355000 := by omega
      have hks4 : ks[j].size ≤ 4194304 := by omega
      have hFr : ∀ k, Or F w.heap.size k → k < wr.heap.size := fun k hk => Nat.lt_of_lt_of_le (HF.out k hk) hfr.size
      have HT := Lib.hid ((appendText_any (Or F w.heap.size) _ _ ks[j] wr.drew hFr (ho.below (Below.refl _ _).drew) hks4 hlt0).mono fun e w' (h : App _ _ _ e w') => (show App wr (Or F w.heap.size) _ e w' from by
        obtain ⟨v', h1, h2, h3⟩ := h
        exact ⟨v', h1, h2, (Fr.refl _ _).drew.trans h3⟩))
      have HI := Lib.hid fun (w2 : World) (hf2 : Fr (Or F w.heap.size) wr w2) v2 (h2 : Own w2 (Or F w.heap.size) v2 (RE pre ks l j ++ O.text ks[j].data.toList)) => ih l[j] hmem (Or F w.heap.size) B v2 _ y w2 (fun k hk => Nat.lt_of_lt_of_le (hFr k hk) hf2.size) HBF.out (by have h1 := HFR.out.size; have h2 := hfr.size; have h3 := HBW.out; have h4 := hf2.size; omega) h2
          (IsB.to ((hfr.trans hf2).mono HBF.out).below (Nat.le_refl B) _ _ hv) (hmk _ hmem) (by omega) hlt1
      have hgz : g < wr.heap.size := hFr g (HBF.out g hg)
      obtain ⟨k2, n2, t2, ka2, kn2, kc2, la2, ln2, lc2⟩ := y
      simp only [X.v] at *
      have HS5 : Hid (∀ w', Fr (Or F w.heap.size) wr w' → w'.cell? ⟨w.heap.size, 4, none⟩ = some (.slice (some ⟨g, o, none⟩) l.length lc) ∧ w'.cell? ⟨g, o + j * 5, none⟩ = some (.int .i64 k2) ∧ w'.cell? ⟨g, o + j * 5 + 1, none⟩ = some (.int .i64 n2) ∧ w'.cell? ⟨g, o + j * 5 + 2, none⟩ = some (.string t2) ∧ w'.cell? ⟨g, o + j * 5 + 3, none⟩ = some (.slice ka2 kn2 kc2) ∧ w'.cell? ⟨g, o + j * 5 + 4, none⟩ = some (.slice la2 ln2 lc2)) := fun w' hf => by
        have hG := HBF.out g hg
        exact ⟨HSL.out w' (hfr.trans hf), (hf.cell (p := ⟨g, o + j * 5, none⟩) hG).trans c0, (hf.cell (p := ⟨g, o + j * 5 + 1, none⟩) hG).trans c1, (hf.cell (p := ⟨g, o + j * 5 + 2, none⟩) hG).trans c2, (hf.cell (p := ⟨g, o + j * 5 + 3, none⟩) hG).trans c3, (hf.cell (p := ⟨g, o + j * 5 + 4, none⟩) hG).trans c4⟩
      obtain ⟨p4, -⟩ := HS5.out wr (Fr.refl _ _)
      have hj0 : (0 : Int) ≤ (j : Int) := by omega
      have hj1 : (j : Int) < (l.length : Int) := by omega
      have HFRW := Lib.hid hfr
      clear ho hy hv hlt1 hbs hbu hbt hbt2 hjl hmem hks hkt hkt2 hksz htl hlt0 hks4 hck hfr hFr
      generalize l[j] = u at *
      generalize ks[j] = key at *
      go_wp2_with fail
      go_region_held3 (fun w' => w'.cell? ⟨w.heap.size, 4, none⟩ = some (.slice (some ⟨g, o, none⟩) l.length lc) ∧ w'.cell? ⟨g, o + j * 5, none⟩ = some (.int .i64 k2) ∧ w'.cell? ⟨g, o + j * 5 + 1, none⟩ = some (.int .i64 n2) ∧ w'.cell? ⟨g, o + j * 5 + 2, none⟩ = some (.string t2) ∧ w'.cell? ⟨g, o + j * 5 + 3, none⟩ = some (.slice ka2 kn2 kc2) ∧ w'.cell? ⟨g, o + j * 5 + 4, none⟩ = some (.slice la2 ln2 lc2)) (first | go_keep)
        ((first
          | (go_at_call 30; refine HT.out.mono ?_; rintro e w2 ⟨v2, rfl, h2, hf2⟩; obtain ⟨d0, d1, d2, d3, d4, d5⟩ := HS5.out _ hf2)
          | (go_at_call 18; refine (HI.out _ hf2 _ h2).mono ?_; rintro e w3 ⟨v3, rfl, h3, hf3⟩; obtain ⟨e0, e1, e2, e3, e4, e5⟩ := HS5.out _ (hf2.trans hf3))))
      have HO3 : Hid (Own w3 (Or F w.heap.size) v3 (RE pre ks l (j + 1))) := by
        show Own _ _ _ _
        rw [HST.out]
        exact h3
      have hfr3 := HFRW.out.trans (hf2.trans hf3)
      clear h3 hf3 h2 hf2 HI HT c0 c1 c2 c3 c4 HST d0 d1 d2 d3 d4 d5 e0 e1 e2 e3 e4 e5 p4 HS5 hck' HFRW
      go_wp2_with fail
      go_roundw
      case rel => exact ⟨j + 1, by omega, by go_num, HO3.out, hfr3⟩
      case measure => simp [intOf]; omega
    · obtain rfl : j = ks.length := by omega
      rw [show RE pre ks l ks.length = pre ++ V.enc (.mk 6 n s ks l) from by rw [← HDN.out, HKL.out]] at ho
      have HO3 := Lib.hid (ho.less (F' := F) fun k hk => .inl hk)
      have HF3 := Lib.hid (HFR.out.trans (hfr.mono fun k hk => .inl hk))
      clear ho hfr
      go_wp2_with fail
      go_ret
      exact ⟨_, rfl, HO3.out, HF3.out⟩

theorem atE_all : ∀ v : V, AtE v := by
  refine V.ind fun k n s ks l ih => ?_
  by_cases h5 : k = 5
  · subst h5
    exact ae_list n s ks l ih
  by_cases h6 : k = 6
  · subst h6
    exact ae_rec n s ks l ih
  intro F B val pre x w hF hBF hBw h0 hx hm hbk hlim
  have hx' : Is w (.mk k n s ks l) x := IsB.to (Below.refl B w) hBw _ _ hx
  have hss : (V.mk k n s ks l).s.size ≤ 4194304 := by simp only [V.bulk, V.s] at *; omega
  rcases own_cases (may_own hm) with h | h | ⟨h, hn⟩ | ⟨h, hn⟩ | ⟨h, _⟩ | h | ⟨h, _⟩
  · exact ae_word F val pre _ x w hF h0 hx' (by omega) (.inl h)
  · exact ae_word F val pre _ x w hF h0 hx' (by omega) (.inr h)
  · exact ae_bool F val pre _ x w hF h0 hx' (by omega) h hn
  · exact ae_num F val pre _ x w hF h0 hx' (by omega) h hn
  · exact ae_text F val pre _ x w hF h0 hx' (by omega) h hss
  · exact absurd h h5
  · exact absurd h h6

/-- what Encode answers: the bytes, the error -/
def V.wrt (v : V) : Bs := if v.chk = 0 then v.enc else []
def GivesE (w : World) (l : Bs) (n : Int) (e : Ending) (w' : World) : Prop := ∃ A c, e = .returned (.tuple #[.slice A l.length c, .int .i64 n]) ∧ l.length ≤ c ∧ O.Byt w' A l ∧ Below w.heap.size w w'
theorem chk_may {v : V} (h : v.chk = 0) : v.may = true ∧ v.deep ≤ 20 := by
  unfold V.chk at h
  by_cases hm : v.may = true
  · rw [if_pos hm] at h
    by_cases hd : 20 < v.deep
    · rw [if_pos hd] at h; cases h
    · exact ⟨hm, by omega⟩
  · rw [if_neg hm] at h; cases h
set_option maxRecDepth 4000 in
set_option maxHeartbeats 400000 in
theorem encode_any (v : V) (x : X) (w : World) (hx : Is w v x) (hb : v.bulk ≤ 4194304) : Calls Try.prog 8 #[x.v] w (GivesE w v.wrt v.chk) := by
  have HC := Lib.hid fun w' (hb' : Below w.heap.size w w') => chk_any v x w' (Is.below hb' _ _ hx) hb
  have HE : Hid (∀ w', Below w.heap.size w w' → v.chk = 0 → Calls Try.prog 18 #[.slice none 0 0, x.v] w' (App w' (· < w'.heap.size) v.enc)) := fun w' hb' h => by
    have := atE_all v (· < w'.heap.size) w'.heap.size (.slice none 0 0) [] x w' (fun _ h => h) (fun _ h => h) (Nat.le_refl _) (Own.nil _ _) (Is.below hb' _ _ hx) (chk_may h).1 hb (by simp; omega)
    simpa using this
  obtain ⟨k, n, s, ka, kn, kc, la, ln, lc⟩ := x
  simp only [X.v] at *
  by_cases h : v.chk = 0
  · have HW : Hid (v.wrt = v.enc) := by show _ = _; unfold V.wrt; rw [if_pos h]
    have HE2 := Lib.hid fun w' hb' => HE.out w' hb' h
    rw [h] at HC ⊢
    rw [HW.out]
    clear HE hx h HW
    go_enter Try.func8, Try.ntmps8
    go_wp2_with fail
    refine (HC.out _ (below_alloc _ _)).mono ?_
    rintro e w1 ⟨rfl, hb1⟩
    have hb0 := (below_alloc w (.cells #[.int .i64 k, .int .i64 n, .string s, .slice ka kn kc, .slice la ln lc] 25)).trans (hb1.mono (by simp))
    have c0 := (hb1.cell (p := ⟨w.heap.size, 0, none⟩) (by simp)).trans (show _ = some (.int .i64 k) by simp)
    have c1 := (hb1.cell (p := ⟨w.heap.size, 1, none⟩) (by simp)).trans (show _ = some (.int .i64 n) by simp)
    have c2 := (hb1.cell (p := ⟨w.heap.size, 2, none⟩) (by simp)).trans (show _ = some (.string s) by simp)
    have c3 := (hb1.cell (p := ⟨w.heap.size, 3, none⟩) (by simp)).trans (show _ = some (.slice ka kn kc) by simp)
    have c4 := (hb1.cell (p := ⟨w.heap.size, 4, none⟩) (by simp)).trans (show _ = some (.slice la ln lc) by simp)
    clear hb1
    go_wp2_with fail
    refine (HE2.out _ hb0).mono ?_
    rintro e w2 ⟨v2, rfl, h2, hf2⟩
    obtain ⟨_, A, c, rfl, hlc, hB⟩ := O.Byt.of_own h2.1
    go_wp2_with fail
    go_ret2
    exact ⟨A, c, rfl, hlc, hB, hb0.trans (hf2.below.mono hb0.size)⟩
  · have HW : Hid (v.wrt = []) := by show _ = _; unfold V.wrt; rw [if_neg h]
    rw [HW.out]
    have hc : v.chk = 30 ∨ v.chk = 31 := by
      unfold V.chk at *
      split
      · split
        · exact .inr rfl
        · rename_i h1 h2
          rw [if_pos h1, if_neg h2] at h
          exact absurd rfl h
      · exact .inl rfl
    generalize v.chk = q at *
    clear HE hx h HW
    rcases hc with rfl | rfl
    · go_enter Try.func8, Try.ntmps8
      go_wp2_with fail
      refine (HC.out _ (below_alloc _ _)).mono ?_
      rintro e w1 ⟨rfl, hb1⟩
      go_wp2_with fail
      go_ret2
      exact ⟨none, 0, rfl, Nat.le_refl _, .inl rfl, (below_alloc w _).trans (hb1.mono (by simp))⟩
    · go_enter Try.func8, Try.ntmps8
      go_wp2_with fail
      refine (HC.out _ (below_alloc _ _)).mono ?_
      rintro e w1 ⟨rfl, hb1⟩
      go_wp2_with fail
      go_ret2
      exact ⟨none, 0, rfl, Nat.le_refl _, .inl rfl, (below_alloc w _).trans (hb1.mono (by simp))⟩
end Go.Proofs.Ytnkknlhdbhfjlaa
