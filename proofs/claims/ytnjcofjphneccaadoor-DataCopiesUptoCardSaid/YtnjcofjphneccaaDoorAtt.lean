/-
  appendText, by contract.
-/
import Derived.Test.YtnjcofjphneccaaDoorAt
import Derived.Deep.RegionHeld3
namespace Go.Proofs.YtnjcofjphneccaaDoor
open Go.RowKit

theorem tx_list (n : Int) (s : ByteArray) (ks : List ByteArray) (l : List V) : V.tx (.mk 5 n s ks l) = 91 :: (joinC (V.txs l) ++ [93]) := by
  rw [V.tx, if_neg (by decide), if_neg (by decide), if_neg (by decide), if_neg (by decide), if_neg (by decide), if_pos rfl]
theorem tx_rec (n : Int) (s : ByteArray) (ks : List ByteArray) (l : List V) : V.tx (.mk 6 n s ks l) = 123 :: (joinC (List.zipWith pair ks (V.txs l)) ++ [125]) := by
  rw [V.tx, if_neg (by decide), if_neg (by decide), if_neg (by decide), if_neg (by decide), if_neg (by decide), if_neg (by decide)]
/-- what stands ahead of element j -/
def sep (j : Nat) : Bs := if j = 0 then [] else [44]
theorem txs_length (l : List V) : (V.txs l).length = l.length := by rw [txs_map, List.length_map]
theorem list_step (pre : Bs) (l : List V) (j : Nat) (h : j < l.length) : pre ++ 91 :: joinC ((V.txs l).take (j + 1)) = ((pre ++ 91 :: joinC ((V.txs l).take j)) ++ sep j) ++ l[j].tx := by
  have h1 : j < (V.txs l).length := by rw [txs_length]; exact h
  have h2 : (V.txs l)[j] = l[j].tx := by simp [txs_map]
  rw [snoc_get _ _ h1, joinC_snoc, h2, List.length_take, Nat.min_eq_left (Nat.le_of_lt h1)]
  unfold sep
  simp
theorem list_len_sum (m : List V) (hk : ∀ u ∈ m, u.may = true) : ((V.txs m).map fun p => p.length + 1).sum ≤ 23 * V.bulks m := by
  induction m with
  | nil => simp [V.txs, V.bulks]
  | cons v r ih =>
    have h1 := tx_len v (hk v (by simp))
    have h2 := ih fun u hu => hk u (by simp [hu])
    simp only [V.txs, List.map_cons, List.sum_cons, V.bulks]
    omega
theorem list_len (l : List V) (hl : ∀ u ∈ l, u.may = true) (j : Nat) : (joinC ((V.txs l).take j)).length ≤ 23 * V.bulks (l.take j) := by
  have h := joinC_len ((V.txs l).take j)
  refine Nat.le_trans h ?_
  have e : (V.txs l).take j = V.txs (l.take j) := by rw [txs_map, txs_map, List.map_take]
  rw [e]
  exact list_len_sum _ fun u hu => hl u (List.mem_of_mem_take hu)
theorem bulks_snoc (l : List V) (j : Nat) (h : j < l.length) : V.bulks (l.take (j + 1)) = V.bulks (l.take j) + l[j].bulk := by
  rw [snoc_get l j h, bulks_append]; simp [V.bulks]

/-- appendText for every value of less bulk -/
def AtH (v : V) : Prop := ∀ (F : Nat → Prop) (B : Nat) (val : Value) (l : Bs) (x : X) (w : World), (∀ k, F k → k < w.heap.size) → (∀ k, k < B → F k) → B ≤ w.heap.size → Own w F val l → IsB w B v x → Tab w → 0 < B → v.may = true → v.bulk ≤ 4194304 → l.length + 23 * v.bulk ≤ 140737300000000 →
    Calls Tryd.prog 35 #[val, x.v] w (App w F (l ++ v.tx))

set_option maxRecDepth 100000 in
set_option maxHeartbeats 4000000 in
theorem at_list (n : Int) (s : ByteArray) (ks : List ByteArray) (l : List V) (ih : ∀ v ∈ l, AtH v) : AtH (.mk 5 n s ks l) := by
  intro F B val pre x w hF hBF hBw h0 hx hT hgB hm hbk hlim
  obtain ⟨ka, kc, la, lc, rfl, h1, h2, h3, h4⟩ := hx.open
  simp only [V.k, V.n, V.s, V.ks, V.l] at *
  have hmk : ∀ u ∈ l, u.may = true := fun u hu => may_kid hm hu
  have hbl : V.bulks l + 1 ≤ V.bulk (.mk 5 n s ks l) := by simp only [V.bulk]; omega
  have hll : l.length ≤ 4194304 := by have := length_le_bulks l; omega
  have HTX := Lib.hid (tx_list n s ks l)
  have hg0 : Below w.heap.size w (w.alloc (.cells #[.int .i64 5, .int .i64 n, .string s, .slice ka ks.length kc, .slice la l.length lc] 25)) := below_alloc w _
  have hF' : ∀ k, Or F w.heap.size k → k < (w.alloc (.cells #[.int .i64 5, .int .i64 n, .string s, .slice ka ks.length kc, .slice la l.length lc] 25)).heap.size := fun k hk => by
    simp
    rcases hk with hk | rfl
    · have := hF k hk; omega
    · omega
  have HP := Lib.hid fun s W g => part_one (Or F w.heap.size) val pre s _ W g hF' (h0.up hg0 fun k hk => by rcases hk with hk | rfl; exact .inl hk; exact .inr (Nat.le_refl _))
  have H4 := Lib.hid (h4.to (hg0.mono hBw) (Nat.le_refl B))
  have HT0 := Lib.hid (hT.below hg0)
  have HF := Lib.hid hF'
  have HBF : Hid (∀ k, k < B → Or F w.heap.size k) := fun k hk => .inl (hBF k hk)
  have HFF := Lib.hid hF
  have HG0 := Lib.hid ((Fr.refl F w).alloc hF (.cells #[.int .i64 5, .int .i64 n, .string s, .slice ka ks.length kc, .slice la l.length lc] 25))
  have HC4 : Hid ((w.alloc (.cells #[.int .i64 5, .int .i64 n, .string s, .slice ka ks.length kc, .slice la l.length lc] 25)).cell? ⟨w.heap.size, 4, none⟩ = some (.slice la l.length lc)) := by
    show _ = _
    simp
  simp only [X.v]
  generalize hbv : V.bulk (.mk 5 n s ks l) = bv at *
  clear hx h1 h2 h3 h4 hm h0 hT hF hBF hbv hF' hg0
  generalize ks.length = kn at *
  go_enter Tryd.func35, Tryd.ntmps35
  go_wp2_with fail
  refine (HP.out ⟨#[91]⟩ _ _ (below_alloc _ _) (by simp) (heap2_at w _ _) (by show pre.length + 1 ≤ _; omega)).mono ?_
  rintro e w1 ⟨v1, rfl, ho, hf⟩
  generalize w.alloc (.cells #[.int .i64 5, .int .i64 n, .string s, .slice ka kn kc, .slice la l.length lc] 25) = w0 at *
  have HO1 : Hid (Own w1 (Or F w.heap.size) v1 (pre ++ 91 :: joinC ((V.txs l).take 0))) := Lib.hid ho
  have c4 : w1.cell? ⟨w.heap.size, 4, none⟩ = some (.slice la l.length lc) := (hf.cell (p := ⟨w.heap.size, 4, none⟩) (.inr rfl)).trans HC4.out
  clear ho
  go_wp2_with fail
  go_loopw [0, 54] (fun t i wr => ∃ j : Nat, j ≤ l.length ∧ i = .int .i64 j ∧ Own wr (Or F w.heap.size) t (pre ++ 91 :: joinC ((V.txs l).take j)) ∧ Fr (Or F w.heap.size) w0 wr)
    (fun _ i _ => l.length - (intOf i).toNat)
  case atStart => exact ⟨0, Nat.zero_le _, rfl, HO1.out, hf⟩
  case round =>
    obtain ⟨j, hj, rfl, ho, hfr⟩ := hrel
    clear c4 hf
    have hjl := list_len l hmk j
    have hbt := bulks_take_le l j
    by_cases hlt : j < l.length
    · obtain ⟨g, o, rfl, hg, y, hy, hv⟩ := H4.out.at_ hlt
      obtain ⟨c0, c1, c2, c3, c4⟩ := hy.fr (F := Or F w.heap.size) (HBF.out g hg) hfr
      have hmem := List.getElem_mem hlt
      have hbu := bulk_le_of_mem hmem
      have hbs := bulks_snoc l j hlt
      have hbt2 := bulks_take_le l (j + 1)
      have HST := Lib.hid (list_step pre l j hlt)
      have hmu := hmk _ hmem
      have hlt1 : (pre ++ 91 :: joinC ((V.txs l).take j)).length + 23 * l[j].bulk + 1 ≤ 140737300000000 := by
        rw [List.length_append, List.length_cons]
        omega
      have HI := Lib.hid (ih l[j] hmem)
      have HV := Lib.hid (IsB.to (hfr.mono HBF.out).below (Nat.le_refl B) _ _ hv)
      obtain ⟨k2, n2, t2, ka2, kn2, kc2, la2, ln2, lc2⟩ := y
      simp only at *
      have hF2 : ∀ k, Or (Or F w.heap.size) wr.heap.size k → k < (wr.alloc (.cells #[.int .i64 k2, .int .i64 n2, .string t2, .slice ka2 kn2 kc2, .slice la2 ln2 lc2] 25)).heap.size := fun k hk => by
        simp
        rcases hk with hk | rfl
        · have h1 := HF.out k hk
          have h2 := hfr.size
          omega
        · omega
      have HO2 := Lib.hid (ho.up (F' := Or (Or F w.heap.size) wr.heap.size) (below_alloc wr (.cells #[.int .i64 k2, .int .i64 n2, .string t2, .slice ka2 kn2 kc2, .slice la2 ln2 lc2] 25)) fun k hk => by rcases hk with hk | rfl; exact .inl hk; exact .inr (Nat.le_refl _))
      have HFR2 := Lib.hid (hfr.alloc HF.out (.cells #[.int .i64 k2, .int .i64 n2, .string t2, .slice ka2 kn2 kc2, .slice la2 ln2 lc2] 25))
      have hsl : (⟨(sep j).toArray⟩ : ByteArray).size ≤ 1 := by
        show (sep j).toArray.size ≤ 1
        rw [List.size_toArray]
        unfold sep
        split <;> simp
      have HCm : Hid (∀ w, Calls Tryd.prog 47 #[.int .i64 j] w fun e w' => e = .returned (.string ⟨(sep j).toArray⟩) ∧ w = w') := fun w => comma_any j w
      have HPa := Lib.hid fun W g => part_one _ _ _ ⟨(sep j).toArray⟩ _ W g hF2 HO2.out
      have HVV := Lib.hid (fun (w2 : World) (hf : Fr (Or (Or F w.heap.size) wr.heap.size) (wr.alloc (.cells #[.int .i64 k2, .int .i64 n2, .string t2, .slice ka2 kn2 kc2, .slice la2 ln2 lc2] 25)) w2) (v1 : Value) (h1 : Own w2 (Or (Or F w.heap.size) wr.heap.size) v1 ((pre ++ 91 :: joinC ((V.txs l).take j)) ++ sep j)) =>
        HI.out (Or (Or F w.heap.size) wr.heap.size) B v1 _ _ w2 (fun k hk => Nat.lt_of_lt_of_le (hF2 k hk) hf.size) (fun k hk => .inl (HBF.out k hk)) (by have h1 := hfr.size; have h2 := hf.size; have h3 := HG0.out.size; simp at h2; omega) h1
          (IsB.to ((((below_alloc wr (.cells #[.int .i64 k2, .int .i64 n2, .string t2, .slice ka2 kn2 kc2, .slice la2 ln2 lc2] 25)).mono (by have h1 := hfr.size; have h3 := HG0.out.size; omega)).trans (hf.mono fun k hk => .inl (HBF.out k hk)).below)) (Nat.le_refl B) _ _ HV.out)
          ((HT0.out.of ((hfr.block _ (HBF.out _ hgB)))).below (below_alloc wr (.cells #[.int .i64 k2, .int .i64 n2, .string t2, .slice ka2 kn2 kc2, .slice la2 ln2 lc2] 25)) |>.of (hf.block _ (.inl (HBF.out _ hgB)))) hgB hmu (by omega) (by rw [List.length_append]; have : (sep j).length ≤ 1 := by { unfold sep; split <;> simp }; omega))
      simp only [X.v] at HVV
      have HSS : Hid (∀ w' : World, Fr (Or (Or F w.heap.size) wr.heap.size) (wr.alloc (.cells #[.int .i64 k2, .int .i64 n2, .string t2, .slice ka2 kn2 kc2, .slice la2 ln2 lc2] 25)) w' → w'.cell? ⟨wr.heap.size, 0, none⟩ = some (.int .i64 k2) ∧ w'.cell? ⟨wr.heap.size, 1, none⟩ = some (.int .i64 n2) ∧ w'.cell? ⟨wr.heap.size, 2, none⟩ = some (.string t2) ∧ w'.cell? ⟨wr.heap.size, 3, none⟩ = some (.slice ka2 kn2 kc2) ∧ w'.cell? ⟨wr.heap.size, 4, none⟩ = some (.slice la2 ln2 lc2)) := fun w' hf => by
        have hw : Or (Or F w.heap.size) wr.heap.size wr.heap.size := .inr rfl
        exact ⟨(hf.cell (p := ⟨wr.heap.size, 0, none⟩) hw).trans (by simp), (hf.cell (p := ⟨wr.heap.size, 1, none⟩) hw).trans (by simp), (hf.cell (p := ⟨wr.heap.size, 2, none⟩) hw).trans (by simp), (hf.cell (p := ⟨wr.heap.size, 3, none⟩) hw).trans (by simp), (hf.cell (p := ⟨wr.heap.size, 4, none⟩) hw).trans (by simp)⟩
      have HQ : Hid ((pre ++ 91 :: joinC ((V.txs l).take j)).length + 1 ≤ 140737300000000) := by show _ ≤ _; omega
      clear ho hF2 hy hv
      generalize l[j] = u at *
      generalize hbb : pre ++ 91 :: joinC ((V.txs l).take j) = L at *
      generalize hsj : (⟨(sep j).toArray⟩ : ByteArray) = sj at *
      have HSJ : Hid (sj.data.toList = sep j) := by subst hsj; exact Lib.hid rfl
      clear hbb hsj hjl hbt hbt2 hbu hbs hlt1
      go_wp2_with fail
      go_region_held3 (fun w' => w'.cell? ⟨wr.heap.size, 0, none⟩ = some (.int .i64 k2) ∧ w'.cell? ⟨wr.heap.size, 1, none⟩ = some (.int .i64 n2) ∧ w'.cell? ⟨wr.heap.size, 2, none⟩ = some (.string t2) ∧ w'.cell? ⟨wr.heap.size, 3, none⟩ = some (.slice ka2 kn2 kc2) ∧ w'.cell? ⟨wr.heap.size, 4, none⟩ = some (.slice la2 ln2 lc2))
        (first | go_keep) ((first
          | (go_at_call 47; refine (HCm.out _).mono ?_; rintro e w' ⟨rfl, rfl⟩)
          | (go_at_call 43; refine (HPa.out _ (wr.heap.size + 1) ?c1 ?c2 ?c3 ?c4).mono ?_; (case c1 => exact (below_alloc _ _).drew); (case c2 => simp); (case c3 => exact heap2_at _ _ _); (case c4 => have := HQ.out; omega); rintro e w2 ⟨v2, rfl, ho2, hf2⟩; obtain ⟨e0, e1, e2, e3, e4⟩ := HSS.out _ hf2)
          | (go_at_call 35; refine (HVV.out _ hf2 _ ?c5).mono ?_; (case c5 => rw [← HSJ.out]; exact ho2); rintro e w3 ⟨v3, rfl, ho3, hf3⟩; obtain ⟨d0, d1, d2, d3, d4⟩ := HSS.out _ (hf2.trans hf3))))
      have HO3 : Hid (Own w3 (Or F w.heap.size) v3 (pre ++ 91 :: joinC ((V.txs l).take (j + 1)))) := by
        show Own _ _ _ _
        rw [HST.out]
        exact ho3.less fun k hk => .inl hk
      have hfr3 := HFR2.out.trans ((hf2.trans hf3).mono fun k hk => .inl hk)
      clear d0 d1 d2 d3 d4 e0 e1 e2 e3 e4 ho2 ho3 hf2 hf3 hfr HSS HVV HPa HCm HFR2 HO2 c0 c1 c2 c3 c4
      go_wp2_with fail
      go_roundw
      case rel => exact ⟨j + 1, by omega, by go_num, HO3.out, hfr3⟩
      case measure => simp [intOf]; omega
    · obtain rfl : j = l.length := by omega
      rw [List.take_of_length_le (Nat.le_of_eq (txs_length l))] at ho hjl
      rw [List.take_length] at hjl
      have hlt1 : (pre ++ 91 :: joinC (V.txs l)).length + 1 ≤ 140737300000000 := by
        rw [List.length_append, List.length_cons]
        omega
      have HE : Hid ((pre ++ 91 :: joinC (V.txs l)) ++ [93] = pre ++ V.tx (.mk 5 n s ks l)) := by
        show _ = _
        rw [HTX.out]
        simp
      have HP2 := Lib.hid fun W g => part_one (Or F w.heap.size) _ _ ⟨#[93]⟩ wr W g (fun k hk => Nat.lt_of_lt_of_le (HF.out k hk) hfr.size) ho
      clear HP ho
      go_wp2_with fail
      refine (HP2.out _ _ (below_alloc _ _) (Nat.le_refl _) (by show (wr.heap.push _)[wr.heap.size]? = _; simp) (by show _ + 1 ≤ _; omega)).mono ?_
      rintro e w2 ⟨v2, rfl, ho2, hf2⟩
      have HO2 := Lib.hid ho2
      clear ho2
      go_wp2_with fail
      go_ret
      refine ⟨v2, rfl, ?_, ?_⟩
      · rw [← HE.out]
        exact HO2.out.less fun k hk => .inl hk
      · exact HG0.out.trans ((hfr.trans hf2).mono fun k hk => .inl hk)
theorem old_alloc' {w : World} {o : Obj} {a : Addr} {v : Value} (h : w.cell? a = some v) : (w.alloc o).cell? a = some v := by
  rw [World.cell?_alloc_some w a o (by rw [h]; rfl), h]
theorem part_three (F : Nat → Prop) (val : Value) (l : Bs) (a b c : ByteArray) (w W : World) (g : Nat) (hF : ∀ k, F k → k < w.heap.size) (h : Own w F val l) (hW : Below w.heap.size w W) (hg0 : w.heap.size ≤ g) (hgs : W.heap[g]? = some (.cells #[.string a, .string b, .string c] 9 (0, 0))) (hlim : l.length + (a.size + b.size + c.size) ≤ 140737488355320) :
    Calls Tryd.prog 43 #[val, .slice (some ⟨g, 0, none⟩) 3 3] W fun e w' => ∃ v', e = .returned v' ∧ Own w' F v' (l ++ (a.data.toList ++ (b.data.toList ++ c.data.toList))) ∧ Fr F w w' := by
  have hlt : g < W.heap.size := (Array.getElem?_eq_some_iff.1 hgs).1
  have e3 : flatS [a, b, c] = a.data.toList ++ (b.data.toList ++ c.data.toList) := by simp [flatS]
  have := appendParts_any (Or F g) val l g [a, b, c] W (fun k hk => by rcases hk with hk | rfl; exact Nat.lt_of_lt_of_le (hF k hk) hW.size; exact hlt)
    (h.up hW fun k hk => by rcases hk with hk | rfl; exact .inl hk; exact .inr hg0) (.inr rfl)
    (fun j hj => by
      have : j = 0 ∨ j = 1 ∨ j = 2 := by simp at hj; omega
      rcases this with rfl | rfl | rfl <;> (rw [cell_of_row W g _ _ _ _ hgs]; rfl)) (by rw [e3, List.length_append, List.length_append, size_list, size_list, size_list]; omega) (by simp)
  refine Calls.mono (this) ?_
  rintro e w' ⟨v', rfl, ho, hf⟩
  rw [e3] at ho
  exact ⟨v', rfl, ho.less fun k hk => .inl hk, (Fr.of hW hF).trans (hf.mono fun k hk => .inl hk)⟩
theorem zip_get (ks : List ByteArray) (l : List V) (j : Nat) (h1 : j < ks.length) (h2 : j < l.length) (h : j < (List.zipWith pair ks (V.txs l)).length) : (List.zipWith pair ks (V.txs l))[j] = quote (us ks[j].data.toList) ++ 58 :: l[j].tx := by
  rw [List.getElem_zipWith]
  simp [pair, txs_map]
theorem rec_step (pre : Bs) (ks : List ByteArray) (l : List V) (j : Nat) (h1 : j < ks.length) (h : j < l.length) :
    pre ++ 123 :: joinC ((List.zipWith pair ks (V.txs l)).take (j + 1)) = ((pre ++ 123 :: joinC ((List.zipWith pair ks (V.txs l)).take j)) ++ (sep j ++ (quote (us ks[j].data.toList) ++ [58]))) ++ l[j].tx := by
  have hz : j < (List.zipWith pair ks (V.txs l)).length := by rw [List.length_zipWith, txs_length]; omega
  rw [snoc_get _ _ hz, joinC_snoc, zip_get ks l j h1 h hz, List.length_take, Nat.min_eq_left (Nat.le_of_lt hz)]
  unfold sep
  simp
theorem keysBulk_take (ks : List ByteArray) (j : Nat) : keysBulk (ks.take j) ≤ keysBulk ks := by
  induction ks generalizing j with
  | nil => simp
  | cons k r ih =>
    cases j with
    | zero => simp [keysBulk]
    | succ j => have := ih j; simp only [List.take_succ_cons, keysBulk]; omega
theorem keysBulk_snoc (ks : List ByteArray) (j : Nat) (h : j < ks.length) : keysBulk (ks.take (j + 1)) = keysBulk (ks.take j) + (ks[j].size + 1) := by
  induction ks generalizing j with
  | nil => simp at h
  | cons k r ih =>
    cases j with
    | zero => simp [keysBulk]
    | succ j => have := ih j (by simpa using h); simp only [List.take_succ_cons, keysBulk, List.getElem_cons_succ] at *; omega
theorem rec_len (ks : List ByteArray) (l : List V) (hl : ∀ u ∈ l, u.may = true) (j : Nat) : (joinC ((List.zipWith pair ks (V.txs l)).take j)).length ≤ 22 * keysBulk (ks.take j) + 23 * V.bulks (l.take j) := by
  have h := joinC_len ((List.zipWith pair ks (V.txs l)).take j)
  refine Nat.le_trans h ?_
  have e : (List.zipWith pair ks (V.txs l)).take j = List.zipWith pair (ks.take j) (V.txs (l.take j)) := by rw [txs_map, txs_map, List.take_zipWith, List.map_take]
  rw [e]
  refine Nat.le_trans (sum_zip _ _) ?_
  have h2 := list_len_sum (l.take j) fun u hu => hl u (List.mem_of_mem_take hu)
  omega

set_option maxRecDepth 100000 in
set_option maxHeartbeats 4000000 in
theorem at_rec (n : Int) (s : ByteArray) (ks : List ByteArray) (l : List V) (ih : ∀ v ∈ l, AtH v) : AtH (.mk 6 n s ks l) := by
  intro F B val pre x w hF hBF hBw h0 hx hT hgB hm hbk hlim
  obtain ⟨ka, kc, la, lc, rfl, h1, h2, h3, h4⟩ := hx.open
  simp only [V.k, V.n, V.s, V.ks, V.l] at *
  have hmk : ∀ u ∈ l, u.may = true := fun u hu => may_kid hm hu
  have hown := own_keys (own_of_may hm) rfl
  simp only [V.ks, V.l] at hown
  obtain ⟨hkl, hke, -⟩ := hown
  have hkb : 23 * keysBulk ks + 23 * V.bulks l + 23 ≤ 23 * V.bulk (.mk 6 n s ks l) := by simp only [V.bulk]; omega
  have hbl : V.bulks l + 1 ≤ V.bulk (.mk 6 n s ks l) := by simp only [V.bulk]; omega
  have hll : l.length ≤ 4194304 := by have := length_le_bulks l; omega
  have HTX := Lib.hid (tx_rec n s ks l)
  have hg0 : Below w.heap.size w (w.alloc (.cells #[.int .i64 6, .int .i64 n, .string s, .slice ka ks.length kc, .slice la l.length lc] 25)) := below_alloc w _
  have hF' : ∀ k, Or F w.heap.size k → k < (w.alloc (.cells #[.int .i64 6, .int .i64 n, .string s, .slice ka ks.length kc, .slice la l.length lc] 25)).heap.size := fun k hk => by
    simp
    rcases hk with hk | rfl
    · have := hF k hk; omega
    · omega
  have HP := Lib.hid fun s W g => part_one (Or F w.heap.size) val pre s _ W g hF' (h0.up hg0 fun k hk => by rcases hk with hk | rfl; exact .inl hk; exact .inr (Nat.le_refl _))
  have H4 := Lib.hid (h4.to (hg0.mono hBw) (Nat.le_refl B))
  have H3 := Lib.hid (h3.to (hg0.mono hBw) (Nat.le_refl B))
  have HKE := Lib.hid hke
  have HKL := Lib.hid hkl
  have HKB := Lib.hid hkb
  have HT0 := Lib.hid (hT.below hg0)
  have HF := Lib.hid hF'
  have HBF : Hid (∀ k, k < B → Or F w.heap.size k) := fun k hk => .inl (hBF k hk)
  have HFF := Lib.hid hF
  have HG0 := Lib.hid ((Fr.refl F w).alloc hF (.cells #[.int .i64 6, .int .i64 n, .string s, .slice ka ks.length kc, .slice la l.length lc] 25))
  have HC4 : Hid ((w.alloc (.cells #[.int .i64 6, .int .i64 n, .string s, .slice ka ks.length kc, .slice la l.length lc] 25)).cell? ⟨w.heap.size, 4, none⟩ = some (.slice la l.length lc)) := by
    show _ = _
    simp
  have HC3 : Hid ((w.alloc (.cells #[.int .i64 6, .int .i64 n, .string s, .slice ka ks.length kc, .slice la l.length lc] 25)).cell? ⟨w.heap.size, 3, none⟩ = some (.slice ka ks.length kc)) := by
    show _ = _
    simp
  simp only [X.v]
  generalize hbv : V.bulk (.mk 6 n s ks l) = bv at *
  clear hx h1 h2 h3 h4 hm h0 hT hF hBF hbv hF' hg0 hkl hke
  go_enter Tryd.func35, Tryd.ntmps35
  go_wp2_with fail
  refine (HP.out ⟨#[123]⟩ _ _ (below_alloc _ _) (by simp) (heap2_at w _ _) (by show pre.length + 1 ≤ _; omega)).mono ?_
  rintro e w1 ⟨v1, rfl, ho, hf⟩
  generalize w.alloc (.cells #[.int .i64 6, .int .i64 n, .string s, .slice ka ks.length kc, .slice la l.length lc] 25) = w0 at *
  have HO1 : Hid (Own w1 (Or F w.heap.size) v1 (pre ++ 123 :: joinC ((List.zipWith pair ks (V.txs l)).take 0))) := Lib.hid ho
  have c4 : w1.cell? ⟨w.heap.size, 4, none⟩ = some (.slice la l.length lc) := (hf.cell (p := ⟨w.heap.size, 4, none⟩) (.inr rfl)).trans HC4.out
  clear ho
  go_wp2_with fail
  go_loopw [0, 76] (fun t i wr => ∃ j : Nat, j ≤ l.length ∧ i = .int .i64 j ∧ Own wr (Or F w.heap.size) t (pre ++ 123 :: joinC ((List.zipWith pair ks (V.txs l)).take j)) ∧ Fr (Or F w.heap.size) w0 wr)
    (fun _ i _ => l.length - (intOf i).toNat)
  case atStart => exact ⟨0, Nat.zero_le _, rfl, HO1.out, hf⟩
  case round =>
    obtain ⟨j, hj, rfl, ho, hfr⟩ := hrel
    clear c4 hf
    have hjl := rec_len ks l hmk j
    have hbt := bulks_take_le l j
    by_cases hlt : j < l.length
    · obtain ⟨g, o, rfl, hg, y, hy, hv⟩ := H4.out.at_ hlt
      obtain ⟨c0, c1, c2, c3, c4⟩ := hy.fr (F := Or F w.heap.size) (HBF.out g hg) hfr
      have hlk : j < ks.length := by have := HKL.out; omega
      obtain ⟨gk, ok, rfl, hgk, hck⟩ := H3.out.at_ hlk
      have hck' := (hfr.cell (p := ⟨gk, ok + j, none⟩) (HBF.out gk hgk)).trans hck
      have hkey := HKE.out _ (List.getElem_mem hlk)
      have hkb1 := key_le_keysBulk (List.getElem_mem hlk)
      have hp3 : wr.cell? ⟨w.heap.size, 3, none⟩ = some (.slice (some ⟨gk, ok, none⟩) ks.length kc) := (hfr.cell (p := ⟨w.heap.size, 3, none⟩) (.inr rfl)).trans HC3.out
      have hwz : w.heap.size < wr.heap.size := Nat.lt_of_lt_of_le (HF.out _ (.inr rfl)) hfr.size
      have hgz : gk < wr.heap.size := Nat.lt_of_lt_of_le (HF.out _ (HBF.out gk hgk)) hfr.size
      have hj0 : (0 : Int) ≤ (j : Int) := by omega
      have hj1 : (j : Int) < (ks.length : Int) := by omega
      have hmem := List.getElem_mem hlt
      have hbu := bulk_le_of_mem hmem
      have hks := keysBulk_snoc ks j hlk
      have hkt := keysBulk_take ks (j + 1)
      have hql := quote_len ks[j]
      have hkbo := HKB.out
      have hbs := bulks_snoc l j hlt
      have hbt2 := bulks_take_le l (j + 1)
      have HST := Lib.hid (rec_step pre ks l j hlk hlt)
      have hmu := hmk _ hmem
      have hlt1 : (pre ++ 123 :: joinC ((List.zipWith pair ks (V.txs l)).take j)).length + 23 * l[j].bulk + (4 + 3 * ks[j].size) ≤ 140737300000000 := by
        rw [List.length_append, List.length_cons]
        omega
      have HI := Lib.hid (ih l[j] hmem)
      have HV := Lib.hid (IsB.to (hfr.mono HBF.out).below (Nat.le_refl B) _ _ hv)
      obtain ⟨k2, n2, t2, ka2, kn2, kc2, la2, ln2, lc2⟩ := y
      simp only at *
      have hF2 : ∀ k, Or (Or F w.heap.size) wr.heap.size k → k < (wr.alloc (.cells #[.int .i64 k2, .int .i64 n2, .string t2, .slice ka2 kn2 kc2, .slice la2 ln2 lc2] 25)).heap.size := fun k hk => by
        simp
        rcases hk with hk | rfl
        · have h1 := HF.out k hk
          have h2 := hfr.size
          omega
        · omega
      have HO2 := Lib.hid (ho.up (F' := Or (Or F w.heap.size) wr.heap.size) (below_alloc wr (.cells #[.int .i64 k2, .int .i64 n2, .string t2, .slice ka2 kn2 kc2, .slice la2 ln2 lc2] 25)) fun k hk => by rcases hk with hk | rfl; exact .inl hk; exact .inr (Nat.le_refl _))
      have HFR2 := Lib.hid (hfr.alloc HF.out (.cells #[.int .i64 k2, .int .i64 n2, .string t2, .slice ka2 kn2 kc2, .slice la2 ln2 lc2] 25))
      have hsl : (⟨(sep j).toArray⟩ : ByteArray).size ≤ 1 := by
        show (sep j).toArray.size ≤ 1
        rw [List.size_toArray]
        unfold sep
        split <;> simp
      have HCm : Hid (∀ w, Calls Tryd.prog 47 #[.int .i64 j] w fun e w' => e = .returned (.string ⟨(sep j).toArray⟩) ∧ w = w') := fun w => comma_any j w
      have hqs : (⟨(quote (us ks[j].data.toList)).toArray⟩ : ByteArray).size ≤ 2 + 3 * ks[j].size := by
        show (quote (us ks[j].data.toList)).toArray.size ≤ _
        rw [List.size_toArray]
        exact hql
      have HPa := Lib.hid fun W g => part_three _ _ _ ⟨(sep j).toArray⟩ ⟨(quote (us ks[j].data.toList)).toArray⟩ ⟨#[58]⟩ _ W g hF2 HO2.out
      have HQt := Lib.hid ((quoted_lit_any ks[j] (wr.alloc (.cells #[.int .i64 k2, .int .i64 n2, .string t2, .slice ka2 kn2 kc2, .slice la2 ln2 lc2] 25)).drew (by omega) hkey).mono fun e w' (h : _ ∧ _) => (⟨h.1, (Below.refl _ _).drew.trans h.2⟩ : e = _ ∧ Below (wr.alloc (.cells #[.int .i64 k2, .int .i64 n2, .string t2, .slice ka2 kn2 kc2, .slice la2 ln2 lc2] 25)).heap.size (wr.alloc (.cells #[.int .i64 k2, .int .i64 n2, .string t2, .slice ka2 kn2 kc2, .slice la2 ln2 lc2] 25)) w'))
      have HFB : Hid (∀ w', Below (wr.alloc (.cells #[.int .i64 k2, .int .i64 n2, .string t2, .slice ka2 kn2 kc2, .slice la2 ln2 lc2] 25)).heap.size (wr.alloc (.cells #[.int .i64 k2, .int .i64 n2, .string t2, .slice ka2 kn2 kc2, .slice la2 ln2 lc2] 25)) w' → Fr (Or (Or F w.heap.size) wr.heap.size) (wr.alloc (.cells #[.int .i64 k2, .int .i64 n2, .string t2, .slice ka2 kn2 kc2, .slice la2 ln2 lc2] 25)) w') := fun w' h => Fr.of h hF2
      have hlb : ((pre ++ 123 :: joinC ((List.zipWith pair ks (V.txs l)).take j)) ++ (sep j ++ (quote (us ks[j].data.toList) ++ [58]))).length + 23 * l[j].bulk ≤ 140737300000000 := by
        have : (sep j).length ≤ 1 := by
          unfold sep
          split <;> simp
        simp only [List.length_append, List.length_cons, List.length_nil] at hlt1 ⊢
        omega
      have HVV := Lib.hid (fun (w2 : World) (hf : Fr (Or (Or F w.heap.size) wr.heap.size) (wr.alloc (.cells #[.int .i64 k2, .int .i64 n2, .string t2, .slice ka2 kn2 kc2, .slice la2 ln2 lc2] 25)) w2) (v1 : Value) (h1 : Own w2 (Or (Or F w.heap.size) wr.heap.size) v1 ((pre ++ 123 :: joinC ((List.zipWith pair ks (V.txs l)).take j)) ++ (sep j ++ (quote (us ks[j].data.toList) ++ [58])))) =>
        HI.out (Or (Or F w.heap.size) wr.heap.size) B v1 _ _ w2 (fun k hk => Nat.lt_of_lt_of_le (hF2 k hk) hf.size) (fun k hk => .inl (HBF.out k hk)) (by have h1 := hfr.size; have h2 := hf.size; have h3 := HG0.out.size; simp at h2; omega) h1
          (IsB.to ((((below_alloc wr (.cells #[.int .i64 k2, .int .i64 n2, .string t2, .slice ka2 kn2 kc2, .slice la2 ln2 lc2] 25)).mono (by have h1 := hfr.size; have h3 := HG0.out.size; omega)).trans (hf.mono fun k hk => .inl (HBF.out k hk)).below)) (Nat.le_refl B) _ _ HV.out)
          ((HT0.out.of ((hfr.block _ (HBF.out _ hgB)))).below (below_alloc wr (.cells #[.int .i64 k2, .int .i64 n2, .string t2, .slice ka2 kn2 kc2, .slice la2 ln2 lc2] 25)) |>.of (hf.block _ (.inl (HBF.out _ hgB)))) hgB hmu (by omega) hlb)
      simp only [X.v] at HVV
      have HSS : Hid (∀ w' : World, Fr (Or (Or F w.heap.size) wr.heap.size) (wr.alloc (.cells #[.int .i64 k2, .int .i64 n2, .string t2, .slice ka2 kn2 kc2, .slice la2 ln2 lc2] 25)) w' → w'.cell? ⟨wr.heap.size, 0, none⟩ = some (.int .i64 k2) ∧ w'.cell? ⟨wr.heap.size, 1, none⟩ = some (.int .i64 n2) ∧ w'.cell? ⟨wr.heap.size, 2, none⟩ = some (.string t2) ∧ w'.cell? ⟨wr.heap.size, 3, none⟩ = some (.slice ka2 kn2 kc2) ∧ w'.cell? ⟨wr.heap.size, 4, none⟩ = some (.slice la2 ln2 lc2) ∧ w'.cell? ⟨w.heap.size, 3, none⟩ = some (.slice (some ⟨gk, ok, none⟩) ks.length kc) ∧ w'.cell? ⟨gk, ok + j, none⟩ = some (.string ks[j])) := fun w' hf => by
        have hw : Or (Or F w.heap.size) wr.heap.size wr.heap.size := .inr rfl
        exact ⟨(hf.cell (p := ⟨wr.heap.size, 0, none⟩) hw).trans (by simp), (hf.cell (p := ⟨wr.heap.size, 1, none⟩) hw).trans (by simp), (hf.cell (p := ⟨wr.heap.size, 2, none⟩) hw).trans (by simp), (hf.cell (p := ⟨wr.heap.size, 3, none⟩) hw).trans (by simp), (hf.cell (p := ⟨wr.heap.size, 4, none⟩) hw).trans (by simp), (hf.cell (p := ⟨w.heap.size, 3, none⟩) (.inl (.inr rfl))).trans (old_alloc' hp3), (hf.cell (p := ⟨gk, ok + j, none⟩) (.inl (HBF.out gk hgk))).trans (old_alloc' hck')⟩
      have HQ : Hid ((pre ++ 123 :: joinC ((List.zipWith pair ks (V.txs l)).take j)).length + (4 + 3 * ks[j].size) ≤ 140737300000000) := by show _ ≤ _; omega
      clear ho hF2 hy hv hck
      generalize l[j] = u at *
      generalize ks[j] = key at *
      generalize quote (us key.data.toList) = qt at *
      generalize hbb : pre ++ 123 :: joinC ((List.zipWith pair ks (V.txs l)).take j) = L at *
      generalize hsj : (⟨(sep j).toArray⟩ : ByteArray) = sj at *
      generalize hqj : (⟨qt.toArray⟩ : ByteArray) = qj at *
      have HSJ : Hid (sj.data.toList ++ (qj.data.toList ++ [58]) = sep j ++ (qt ++ [58])) := by subst hsj hqj; exact Lib.hid rfl
      clear hbb hsj hqj hlb hjl hbt hbt2 hbu hbs hlt1 hks hkt hql hkbo hkey hkb1
      go_wp2_with fail
      go_region_held3 (fun w' => w'.cell? ⟨wr.heap.size, 0, none⟩ = some (.int .i64 k2) ∧ w'.cell? ⟨wr.heap.size, 1, none⟩ = some (.int .i64 n2) ∧ w'.cell? ⟨wr.heap.size, 2, none⟩ = some (.string t2) ∧ w'.cell? ⟨wr.heap.size, 3, none⟩ = some (.slice ka2 kn2 kc2) ∧ w'.cell? ⟨wr.heap.size, 4, none⟩ = some (.slice la2 ln2 lc2) ∧ w'.cell? ⟨w.heap.size, 3, none⟩ = some (.slice (some ⟨gk, ok, none⟩) ks.length kc) ∧ w'.cell? ⟨gk, ok + j, none⟩ = some (.string key))
        (first | go_keep) ((first
          | (go_at_call 47; refine (HCm.out _).mono ?_; rintro e w' ⟨rfl, rfl⟩)
          | (go_at_call 46; refine HQt.out.mono ?_; rintro e wq ⟨rfl, hbq⟩; obtain ⟨q0, q1, q2, q3, q4, q5, q6⟩ := HSS.out _ (HFB.out _ hbq))
          | (go_at_call 43; refine (HPa.out _ wq.heap.size ?c1 ?c2 ?c3 ?c4).mono ?_; (case c1 => exact hbq.trans ((below_alloc _ _).mono hbq.size)); (case c2 => exact hbq.size); (case c3 => show (wq.heap.push _)[wq.heap.size]? = _; simp); (case c4 => have := HQ.out; show _ + (_ + _ + 1) ≤ _; omega); rintro e w2 ⟨v2, rfl, ho2, hf2⟩; obtain ⟨e0, e1, e2, e3, e4, e5, e6⟩ := HSS.out _ hf2)
          | (go_at_call 35; refine (HVV.out _ hf2 _ ?c5).mono ?_; (case c5 => rw [← HSJ.out]; exact ho2); rintro e w3 ⟨v3, rfl, ho3, hf3⟩; obtain ⟨d0, d1, d2, d3, d4, d5, d6⟩ := HSS.out _ (hf2.trans hf3))))
      have HO3 : Hid (Own w3 (Or F w.heap.size) v3 (pre ++ 123 :: joinC ((List.zipWith pair ks (V.txs l)).take (j + 1)))) := by
        show Own _ _ _ _
        rw [HST.out]
        exact ho3.less fun k hk => .inl hk
      have hfr3 := HFR2.out.trans ((hf2.trans hf3).mono fun k hk => .inl hk)
      clear d0 d1 d2 d3 d4 d5 d6 e0 e1 e2 e3 e4 e5 e6 q0 q1 q2 q3 q4 q5 q6 hbq HQt HFB hp3 hck' ho2 ho3 hf2 hf3 hfr HSS HVV HPa HCm HFR2 HO2 c0 c1 c2 c3 c4
      go_wp2_with fail
      go_roundw
      case rel => exact ⟨j + 1, by omega, by go_num, HO3.out, hfr3⟩
      case measure => simp [intOf]; omega
    · obtain rfl : j = l.length := by omega
      have hkbt := keysBulk_take ks l.length
      have hkbo := HKB.out
      rw [List.take_of_length_le (by rw [List.length_zipWith, txs_length]; omega)] at ho hjl
      have hlt1 : (pre ++ 123 :: joinC (List.zipWith pair ks (V.txs l))).length + 1 ≤ 140737300000000 := by
        rw [List.length_append, List.length_cons]
        omega
      have HE : Hid ((pre ++ 123 :: joinC (List.zipWith pair ks (V.txs l))) ++ [125] = pre ++ V.tx (.mk 6 n s ks l)) := by
        show _ = _
        rw [HTX.out]
        simp
      have HP2 := Lib.hid fun W g => part_one (Or F w.heap.size) _ _ ⟨#[125]⟩ wr W g (fun k hk => Nat.lt_of_lt_of_le (HF.out k hk) hfr.size) ho
      clear HP ho
      go_wp2_with fail
      refine (HP2.out _ _ (below_alloc _ _) (Nat.le_refl _) (by show (wr.heap.push _)[wr.heap.size]? = _; simp) (by show _ + 1 ≤ _; omega)).mono ?_
      rintro e w2 ⟨v2, rfl, ho2, hf2⟩
      have HO2 := Lib.hid ho2
      clear ho2
      go_wp2_with fail
      go_ret
      refine ⟨v2, rfl, ?_, ?_⟩
      · rw [← HE.out]
        exact HO2.out.less fun k hk => .inl hk
      · exact HG0.out.trans ((hfr.trans hf2).mono fun k hk => .inl hk)

theorem atH_all : ∀ v : V, AtH v := by
  refine V.ind fun k n s ks l ih => ?_
  by_cases h5 : k = 5
  · subst h5
    exact at_list n s ks l ih
  by_cases h6 : k = 6
  · subst h6
    exact at_rec n s ks l ih
  intro F B val pre x w hF hBF hBw h0 hx hT hgB hm hbk hlim
  have ho := own_of_may hm
  have hx' : Is w (.mk k n s ks l) x := IsB.to (Below.refl B w) hBw _ _ hx
  have hbp := bulk_pos (.mk k n s ks l)
  rcases own_kind ho with h | h | h | h | h | h | h
  · exact at_word F val pre _ x w hF h0 hx' (by omega) (.inl h)
  · exact at_word F val pre _ x w hF h0 hx' (by omega) (.inr h)
  · exact at_bool F val pre _ x w hF h0 hx' (by omega) h
  · exact at_num F val pre _ x w hF h0 hx' (by omega) hT h (own_num ho h)
  · exact at_text F val pre _ x w hF h0 hx' (by omega) hbk h (own_text ho h)
  · exact absurd h h5
  · exact absurd h h6
end Go.Proofs.YtnjcofjphneccaaDoor
