/-
  appendValue, Encode, by contract.
-/
import Derived.Test.YtnkknlhdbhfjlaaEb
import Derived.Test.YtnkknlhdbhfjlaaC
namespace Go.Proofs.Ytnkknlhdbhfjlaa
open Go.RowKit

theorem old_alloc' {w : World} {o : Obj} {a : Addr} {v : Value} (h : w.cell? a = some v) : (w.alloc o).cell? a = some v := by
  rw [World.cell?_alloc_some w a o (by rw [h]; rfl), h]
set_option maxRecDepth 100000 in
set_option maxHeartbeats 2000000 in
theorem ae_list (n : Int) (s : ByteArray) (ks : List ByteArray) (l : List V) (ih : ∀ v ∈ l, AtE v) : AtE (.mk 5 n s ks l) := by
  intro F B val pre x w hF hBF hBw h0 hx hm hbk hlim
  have hx' : Is w (.mk 5 n s ks l) x := IsB.to (Below.refl B w) hBw _ _ hx
  have H4 : RowB w B x.la l := (by rw [isB_iff] at hx; exact hx.2.2.2.2)
  obtain ⟨ka, kc, la, lc, rfl, h1, h2, h3, -⟩ := hx'.open
  simp only [V.k, V.n, V.s, V.ks, V.l] at *
  have hmk : ∀ u ∈ l, u.may = true := fun u hu => may_kids hm u hu
  have hkb : V.bulks l + 1 ≤ V.bulk (.mk 5 n s ks l) := by simp only [V.bulk]; omega
  have hll : l.length ≤ 4194304 := by have := length_le_bulks l; omega
  have hdone := LE_done pre (.mk 5 n s ks l) rfl
  simp only [V.l] at hdone
  have HDN := Lib.hid hdone
  have hF' : ∀ k, Or F w.heap.size k → k < (w.alloc (.cells #[.int .i64 5, .int .i64 n, .string s, .slice ka ks.length kc, .slice la l.length lc] 25)).heap.size := fun k hk => by
    simp
    rcases hk with hk | rfl
    · have := hF k hk; omega
    · omega
  have HO := Lib.hid (h0.up (F' := Or F w.heap.size) (below_alloc w (.cells #[.int .i64 5, .int .i64 n, .string s, .slice ka ks.length kc, .slice la l.length lc] 25)) fun k hk => by rcases hk with hk | rfl; exact .inl hk; exact .inr (Nat.le_refl _))
  have HP := own_at hF' HO.out
  have HF := Lib.hid hF'
  have HBF : Hid (∀ k, k < B → Or F w.heap.size k) := fun k hk => .inl (hBF k hk)
  have HFR := Lib.hid ((Fr.refl F w).alloc hF (.cells #[.int .i64 5, .int .i64 n, .string s, .slice ka ks.length kc, .slice la l.length lc] 25))
  have HR := Lib.hid (H4.to ((below_alloc w (.cells #[.int .i64 5, .int .i64 n, .string s, .slice ka ks.length kc, .slice la l.length lc] 25)).mono hBw) (Nat.le_refl B))
  have HBW := Lib.hid hBw
  have HSS : Hid (∀ w', Fr (Or F w.heap.size) (w.alloc (.cells #[.int .i64 5, .int .i64 n, .string s, .slice ka ks.length kc, .slice la l.length lc] 25)) w' → w'.cell? ⟨w.heap.size, 4, none⟩ = some (.slice la l.length lc)) := fun w' hf => (hf.cell (p := ⟨w.heap.size, 4, none⟩) (.inr rfl)).trans (by simp)
  have HL0 : Hid (LE pre l 0 = (pre ++ [7]) ++ O.num l.length) := by
    show _ = _
    unfold LE
    simp
  simp only [X.v]
  generalize hbv : V.bulk (.mk 5 n s ks l) = bv at *
  clear hx hx' h1 h2 h3 hm h0 hF hBF hbv hF' H4 hdone hBw
  generalize ks.length = kn at *
  go_enter Try.func18, Try.ntmps18
  go_wp2_with fail
  go_region_held3 (fun w' => w'.cell? ⟨w.heap.size, 4, none⟩ = some (.slice la l.length lc)) (first | go_keep)
    ((first
      | (refine step_app_row rfl _ _ (by rfl) (Or F w.heap.size) (HP.out _ ?b).2.1 _ pre (by rfl) (HP.out _ ?b).1 _ _ _ [7] (by rfl) rfl (byt_new (heap2_at _ _ _) rfl) (by simp; omega) ?_; (case b => first | exact (below_alloc _ _).drew | exact below_alloc _ _); intro v1 w1 h1 hf1; have hf0 := (HP.out _ (below_alloc _ (.cells #[.int .u8 7] 5)).drew).2.2.trans hf1; have s2 := HSS.out _ hf0)
      | (go_at_call 31; refine (appendCount_any (Or F w.heap.size) _ _ l.length _ ?f h1 hll (by simp; omega)).mono ?_; (case f => exact fun k hk => Nat.lt_of_lt_of_le (HF.out k hk) hf0.size); rintro e w2 ⟨v2, rfl, h2, hf2⟩; have s3 := HSS.out _ (hf0.trans hf2))))
  rw [← HL0.out] at h2
  have HO1 := Lib.hid h2
  have HFR1 := Lib.hid (hf0.trans hf2)
  clear h1 h2 hf0 hf1 hf2 s2 HP
  generalize w.alloc (.cells #[.int .i64 5, .int .i64 n, .string s, .slice ka kn kc, .slice la l.length lc] 25) = w0 at *
  go_wp2_with fail
  clear s3
  go_loopw [0, 56] (fun t i wr => ∃ j : Nat, j ≤ l.length ∧ i = .int .i64 j ∧ Own wr (Or F w.heap.size) t (LE pre l j) ∧ Fr (Or F w.heap.size) w0 wr)
    (fun _ i _ => l.length - (intOf i).toNat)
  case atStart => exact ⟨0, Nat.zero_le _, rfl, HO1.out, HFR1.out⟩
  case round =>
    obtain ⟨j, hj, rfl, ho, hfr⟩ := hrel
    have hbt := bulks_take' l j
    have hjl := LE_len pre l j
    by_cases hlt : j < l.length
    · obtain ⟨g, o, rfl, hg, y, hy, hv⟩ := HR.out.at_ hlt
      obtain ⟨c0, c1, c2, c3, c4⟩ := hy.fr (F := Or F w.heap.size) (HBF.out g hg) hfr
      have hmem := List.getElem_mem hlt
      have hbu := bulk_le_of_mem hmem
      have hbs := bulks_snoc' l j hlt
      have hbt2 := bulks_take' l (j + 1)
      have HST := Lib.hid (LE_step pre l j hlt)
      have hlt1 : (LE pre l j).length + 11 * l[j].bulk ≤ 140737300000000 := by omega
      have HI := Lib.hid (ih l[j] hmem (Or F w.heap.size) B _ _ y (wr.alloc (.cells y.cells 25)) (fun k hk => by
          have h1 := HF.out k hk
          have h2 := hfr.size
          simp; omega) HBF.out (by have h1 := HFR.out.size; have h2 := hfr.size; have h3 := HBW.out; simp; omega) (ho.below (below_alloc _ _))
          (IsB.to ((hfr.mono HBF.out).below.trans ((below_alloc _ _).mono (by have h1 := HFR.out.size; have h2 := hfr.size; have h3 := HBW.out; omega))) (Nat.le_refl B) _ _ hv) (hmk _ hmem) (by omega) hlt1)
      have HFR2 := Lib.hid (hfr.alloc HF.out (.cells y.cells 25))
      obtain ⟨k2, n2, t2, ka2, kn2, kc2, la2, ln2, lc2⟩ := y
      simp only [X.v, X.cells] at *
      clear ho hy hv hlt1 hbs hbu hbt hbt2 hjl hmem
      generalize l[j] = u at *
      go_wp2_with fail
      refine HI.out.mono ?_
      rintro e w3 ⟨v3, rfl, h3, hf3⟩
      have HO3 : Hid (Own w3 (Or F w.heap.size) v3 (LE pre l (j + 1))) := by
        show Own _ _ _ _
        rw [HST.out]
        exact h3
      have hfr3 := HFR2.out.trans hf3
      clear h3 hf3 hfr HI HFR2 c0 c1 c2 c3 c4 HST
      go_wp2_with fail
      go_roundw
      case rel => exact ⟨j + 1, by omega, by go_num, HO3.out, hfr3⟩
      case measure => simp [intOf]; omega
    · obtain rfl : j = l.length := by omega
      rw [HDN.out] at ho
      have HO3 := Lib.hid (ho.less (F' := F) fun k hk => .inl hk)
      have HF3 := Lib.hid (HFR.out.trans (hfr.mono fun k hk => .inl hk))
      clear ho hfr
      go_wp2_with fail
      go_ret
      exact ⟨_, rfl, HO3.out, HF3.out⟩
end Go.Proofs.Ytnkknlhdbhfjlaa
