/-
  The reference's write, Encode, by contract.
-/
import Derived.Test.YtnkknlhdbhfjlaaWa
namespace Go.Proofs.Ytnkknlhdbhfjlaa
open Go.RowKit

theorem gives_own' {w w' : World} {G : Nat → Prop} (hG : ∀ k, G k → k < w.heap.size) {v : Value} {l : Bs} (h : w'.ownsRow w.heap.size 5 1 v l.length (l.map bv)) : Own w' G v l :=
  ⟨O.own_lower h (Nat.zero_le _), fun k hk hlt => by have := (h.lt k hk).1; have := hG k hlt; omega⟩
theorem own_byt {w : World} {F : Nat → Prop} {v : Value} {l : Bs} (h : Own w F v l) : ∃ A c, v = .slice A l.length c ∧ l.length ≤ c ∧ O.Byt w A l := by
  obtain ⟨_, A, c, h1, h2, h3⟩ := O.Byt.of_own h.1
  exact ⟨A, c, h1, h2, h3⟩

set_option maxRecDepth 100000 in
set_option maxHeartbeats 2000000 in
theorem aw_list (n : Int) (s : ByteArray) (ks : List ByteArray) (l : List V) (ih : ∀ v ∈ l, AtW v) : AtW (.mk 5 n s ks l) := by
  intro x w hx hm hbk
  obtain ⟨ka, kc, la, lc, rfl, h1, h2, h3, h4⟩ := hx.open
  simp only [V.k, V.n, V.s, V.ks, V.l] at *
  have hmk : ∀ u ∈ l, u.may = true := fun u hu => may_kids hm u hu
  have hkb : V.bulks l + 1 ≤ V.bulk (.mk 5 n s ks l) := by simp only [V.bulk]; omega
  have hll : l.length ≤ 4194304 := by have := length_le_bulks l; omega
  have hdone := LE_done [] (.mk 5 n s ks l) rfl
  rw [List.nil_append] at hdone
  simp only [V.l] at hdone
  have HDN := Lib.hid hdone
  have hnl := O.num_length l.length
  have HL0 : Hid (LE [] l 0 = [7] ++ O.num l.length) := by
    show _ = _
    unfold LE
    simp
  have hwl : IntKind.u64.wrap (l.length : Int) = (l.length : Int) := O.wrap_len (by omega)
  have HNM := Lib.hid fun w => O.refNum_any l.length w (O.len_lim (by omega))
  simp only [X.v]
  generalize hbv : V.bulk (.mk 5 n s ks l) = bv' at *
  clear hx h1 h2 h3 hm hbv hdone
  generalize ks.length = kn at *
  generalize O.num l.length = t at *
  obtain ⟨w0, hw0⟩ : ∃ w0, w0 = w.alloc (.cells #[.int .i64 5, .int .i64 n, .string s, .slice ka kn kc, .slice la l.length lc] 25) := ⟨_, rfl⟩
  have HZ : Hid (w0.heap.size = w.heap.size + 1) := by subst hw0; exact Lib.hid (by simp)
  have HBA : Hid (w.heap.size < w0.heap.size) := by subst hw0; exact Lib.hid (by simp)
  have HO : Hid (Own (w0.alloc (.cells #[.int .u8 7] 5)) (· < w0.heap.size) (.slice (some ⟨w.heap.size + 1, 0, none⟩) 1 1) [7]) := by
    have := own_lit w0 (· < w0.heap.size) (fun k hk => hk) 7 7 rfl
    rw [HZ.out] at this ⊢
    exact Lib.hid this
  have HB : Hid (Below w0.heap.size w0 (w0.alloc (.cells #[.int .u8 7] 5))) := Lib.hid (below_alloc _ _)
  have HW0 : Hid (Below w.heap.size w w0) := by subst hw0; exact Lib.hid (below_alloc _ _)
  have HS0 : Hid (∀ w', Fr (· < w0.heap.size) w0 w' → w'.cell? ⟨w.heap.size, 0, none⟩ = some (.int .i64 5) ∧ w'.cell? ⟨w.heap.size, 4, none⟩ = some (.slice la l.length lc)) := fun w' hf => by
    have h := HBA.out
    exact ⟨(hf.cell (p := ⟨w.heap.size, 0, none⟩) h).trans (by subst hw0; simp), (hf.cell (p := ⟨w.heap.size, 4, none⟩) h).trans (by subst hw0; simp)⟩
  have HR := Lib.hid h4
  clear h4
  subst hw0
  go_enter Try.func20, Try.ntmps20
  go_wp2_with fail
  refine (HNM.out _).mono ?_
  rintro e w2 ⟨v2, rfl, h2, hb⟩
  obtain ⟨A, c, rfl, hY⟩ := gives_byt h2
  have ho := HO.out.below hb
  have hb2 := HB.out.trans (hb.mono HB.out.size)
  have HB2 := Lib.hid hb2
  have hz2 : ∀ k, k < (w.alloc (.cells #[.int .i64 5, .int .i64 n, .string s, .slice ka kn kc, .slice la l.length lc] 25)).heap.size → k < w2.heap.size := fun k hk => Nat.lt_of_lt_of_le hk hb2.size
  clear h2 HNM hb hb2 HO HB
  generalize w.alloc (.cells #[.int .i64 5, .int .i64 n, .string s, .slice ka kn kc, .slice la l.length lc] 25) = w0 at *
  go_wp2_with (refine app_row rfl _ _ (by rfl) (· < w0.heap.size) hz2 _ [7] (by rfl) ho A _ c t (by rfl) rfl hY (by simp; omega) ?_; intro v1 w1 h1 hf1; obtain ⟨s0, s4⟩ := HS0.out _ ((below_lt HB2.out).trans hf1))
  rw [← HL0.out] at h1
  have hf0 := (below_lt HB2.out).trans hf1
  have HO1 := Lib.hid h1
  have HFR1 := Lib.hid hf0
  clear h1 hf0 hf1 hY ho hz2 HB2 s0 s4
  go_loopw [3, 61] (fun t i wr => ∃ j : Nat, j ≤ l.length ∧ i = .int .i64 j ∧ Own wr (· < w0.heap.size) t (LE [] l j) ∧ Fr (· < w0.heap.size) w0 wr)
    (fun _ i _ => l.length - (intOf i).toNat)
  case atStart => exact ⟨0, Nat.zero_le _, rfl, HO1.out, HFR1.out⟩
  case round =>
    obtain ⟨j, hj, rfl, ho, hfr⟩ := hrel
    have hbt := bulks_take' l j
    have hjl := LE_len [] l j
    by_cases hlt : j < l.length
    · obtain ⟨g, o, rfl, hg, y, hy, hv⟩ := HR.out.at_ hlt
      have hg0 : g < w0.heap.size := Nat.lt_of_lt_of_le hg HW0.out.size
      have hbw : Below w.heap.size w wr := HW0.out.trans (hfr.below.mono HW0.out.size)
      obtain ⟨c0, c1, c2, c3, c4⟩ := hy.below hg hbw
      have hmem := List.getElem_mem hlt
      have hbu := bulk_le_of_mem hmem
      have hbs := bulks_snoc' l j hlt
      have hbt2 := bulks_take' l (j + 1)
      have hel := enc_len l[j]
      have HST := Lib.hid (LE_step [] l j hlt)
      have hlt1 : (LE [] l j).length + 11 * l[j].bulk ≤ 140737300000000 := by simp only [List.length_nil] at hjl; omega
      have hlt2 : (LE [] l j).length + l[j].enc.length ≤ 140737488355320 := by omega
      have hby : Below wr.heap.size wr (wr.alloc (.cells y.cells 25)) := below_alloc _ _
      have HI := Lib.hid (ih l[j] hmem y (wr.alloc (.cells y.cells 25)) (Is.below (hbw.trans (hby.mono hbw.size)) _ _ hv) (hmk _ hmem) (by omega))
      have HOW := Lib.hid (ho.below hby)
      have HFR2 := Lib.hid (hfr.trans ((below_lt hby).mono fun k (hk : k < w0.heap.size) => Nat.lt_of_lt_of_le hk hfr.size))
      obtain ⟨s0, s4⟩ := HS0.out _ hfr
      have hbr : w.heap.size < wr.heap.size := Nat.lt_of_lt_of_le HBA.out hfr.size
      have hbne : ¬ w.heap.size = wr.heap.size := by omega
      obtain ⟨k2, n2, t2, ka2, kn2, kc2, la2, ln2, lc2⟩ := y
      simp only [X.v, X.cells] at *
      clear ho hy hv hlt1 hbs hbu hbt hbt2 hjl hmem hel hby hbw hg
      generalize l[j] = u at *
      go_wp2_with fail
      refine HI.out.mono ?_
      rintro e w3 ⟨v3, rfl, h3, hf3⟩
      obtain ⟨A3, cc3, rfl, _, hY3⟩ := own_byt h3
      have ho3 := HOW.out.below hf3.below
      have hfr3 := HFR2.out.trans (hf3.mono fun k (hk : k < w0.heap.size) => Nat.lt_of_lt_of_le hk HFR2.out.size)
      have HFR3 := Lib.hid hfr3
      have hz3 : ∀ k, k < w0.heap.size → k < w3.heap.size := fun k hk => Nat.lt_of_lt_of_le hk hfr3.size
      clear h3 hf3 hfr hfr3 HI HFR2 c0 c1 c2 c3 c4 s0 s4
      go_wp2_with (refine app_row rfl _ _ (by rfl) (· < w0.heap.size) hz3 _ (LE [] l j) (by rfl) ho3 A3 _ cc3 u.enc (by rfl) rfl hY3 hlt2 ?_; intro v4 w4 h4 hf4)
      rw [← HST.out] at h4
      have hfr4 := HFR3.out.trans hf4
      clear hf4 hY3 ho3 HST
      go_roundw
      case rel => exact ⟨j + 1, by omega, by go_num, h4, hfr4⟩
      case measure => simp [intOf]; omega
    · obtain rfl : j = l.length := by omega
      rw [HDN.out] at ho
      have HO3 := Lib.hid (ho.less (F' := (· < w.heap.size)) fun k (hk : k < w.heap.size) => Nat.lt_of_lt_of_le hk HW0.out.size)
      have HF3 := Lib.hid ((below_lt HW0.out).trans (hfr.mono fun k (hk : k < w.heap.size) => Nat.lt_of_lt_of_le hk HW0.out.size))
      clear ho hfr
      go_wp2_with fail
      go_ret
      exact ⟨_, rfl, HO3.out, HF3.out⟩
end Go.Proofs.Ytnkknlhdbhfjlaa
