/-
  appendNum; appendValue where there is nothing within, by contract.
-/
import Derived.Test.YtnkknlhdbhfjlaaEa
namespace Go.Proofs.Ytnkknlhdbhfjlaa
open Go.RowKit

theorem heap2_at (w : World) (a b : Obj) : ((w.alloc a).alloc b).heap[w.heap.size + 1]? = some b := by
  show ((w.heap.push a).push b)[w.heap.size + 1]? = some b
  rw [Array.getElem?_push, if_pos (by simp)]
theorem own_at {w : World} {F : Nat → Prop} {v : Value} {l : Bs} (hF : ∀ k, F k → k < w.heap.size) (h : Own w F v l) : Hid (∀ W, Below w.heap.size w W → Own W F v l ∧ (∀ k, F k → k < W.heap.size) ∧ Fr F w W) :=
  fun _ hb => ⟨h.below hb, fun k hk => Nat.lt_of_lt_of_le (hF k hk) hb.size, Fr.of hb hF⟩
theorem below2 (w : World) (a b : Obj) : Below w.heap.size w ((w.alloc a).alloc b) := (below_alloc w _).trans ((below_alloc _ _).mono (by simp))

set_option maxRecDepth 4000 in
theorem appendNum_neg (F : Nat → Prop) (val : Value) (l : Bs) (n : Int) (w : World) (hF : ∀ k, F k → k < w.heap.size) (h0 : Own w F val l) (hn : -9007199254740991 ≤ n) (hneg : n < 0) (hlim : l.length ≤ 140737488355000) :
    Calls Try.prog 29 #[val, .int .i64 n] w (App w F (l ++ 5 :: O.num (-1 - n).toNat)) := by
  obtain ⟨m, hm⟩ : ∃ m : Nat, m = (-1 - n).toNat := ⟨_, rfl⟩
  have hmn : (m : Int) = -1 - n := by omega
  have e1 : IntKind.i64.wrap (-1 - n) = (m : Int) := by rw [hmn]; exact IntWalk.i64_in _ (by omega)
  have e2 : IntKind.u64.wrap (m : Int) = (m : Int) := O.wrap_pos (by omega) (by omega)
  have HT := Lib.hid fun w => O.num_any m w (by rw [O.lim_nine]; omega)
  have hlen := O.num_length m
  rw [← hm]
  have HE : Hid (l ++ 5 :: O.num m = (l ++ [5]) ++ O.num m) := by show _ = _; simp
  rw [HE.out]
  clear HE hm hmn hn
  generalize O.num m = t at *
  have HP := own_at hF h0
  clear h0 hF
  go_enter Try.func29, Try.ntmps29
  go_wp2_with (refine app_row rfl _ _ (by rfl) F (HP.out _ ?b).2.1 _ l (by rfl) (HP.out _ ?b).1 _ _ _ [5] (by rfl) rfl (byt_new (hp_new rfl) rfl) (by simp; omega) ?_; (case b => exact below_alloc _ _); intro v1 w1 h1 hf1)
  have HP1 := own_at (fun k hk => Nat.lt_of_lt_of_le ((HP.out _ (below_alloc _ _)).2.1 k hk) hf1.size) h1
  have HF1 := Lib.hid ((HP.out _ (below_alloc w (.cells #[.int .u8 5] 5))).2.2.trans hf1)
  clear h1 hf1 HP
  go_wp2_with fail
  refine (HT.out _).mono ?_
  rintro e w2 ⟨v2, rfl, h2, hb⟩
  obtain ⟨A, c, rfl, hB⟩ := gives_byt h2
  have HP2 := Lib.hid (HP1.out _ hb)
  clear h2 HP1 HT hb
  go_wp2_with (refine app_row rfl _ _ (by rfl) F HP2.out.2.1 _ (l ++ [5]) (by rfl) HP2.out.1 A _ c t (by rfl) rfl hB (by simp; omega) ?_; intro v' w' h1 h2)
  go_ret
  exact ⟨_, rfl, h1, HF1.out.trans (HP2.out.2.2.trans h2)⟩
set_option maxRecDepth 4000 in
theorem appendNum_pos (F : Nat → Prop) (val : Value) (l : Bs) (m : Nat) (w : World) (hF : ∀ k, F k → k < w.heap.size) (h0 : Own w F val l) (hn : m ≤ 9007199254740991) (hlim : l.length ≤ 140737488355000) :
    Calls Try.prog 29 #[val, .int .i64 m] w (App w F (l ++ 4 :: O.num m)) := by
  have e2 : IntKind.u64.wrap (m : Int) = (m : Int) := O.wrap_pos (by omega) (by omega)
  have e0 : ¬ (m : Int) < 0 := by omega
  have HT := Lib.hid fun w => O.num_any m w (by rw [O.lim_nine]; omega)
  have hlen := O.num_length m
  have HE : Hid (l ++ 4 :: O.num m = (l ++ [4]) ++ O.num m) := by show _ = _; simp
  rw [HE.out]
  clear HE hn
  generalize O.num m = t at *
  have HP := own_at hF h0
  clear h0 hF
  go_enter Try.func29, Try.ntmps29
  go_wp2_with (refine app_row rfl _ _ (by rfl) F (HP.out _ ?b).2.1 _ l (by rfl) (HP.out _ ?b).1 _ _ _ [4] (by rfl) rfl (byt_new (hp_new rfl) rfl) (by simp; omega) ?_; (case b => exact below_alloc _ _); intro v1 w1 h1 hf1)
  have HP1 := own_at (fun k hk => Nat.lt_of_lt_of_le ((HP.out _ (below_alloc _ _)).2.1 k hk) hf1.size) h1
  have HF1 := Lib.hid ((HP.out _ (below_alloc w (.cells #[.int .u8 4] 5))).2.2.trans hf1)
  clear h1 hf1 HP
  go_wp2_with fail
  refine (HT.out _).mono ?_
  rintro e w2 ⟨v2, rfl, h2, hb⟩
  obtain ⟨A, c, rfl, hB⟩ := gives_byt h2
  have HP2 := Lib.hid (HP1.out _ hb)
  clear h2 HP1 HT hb
  go_wp2_with (refine app_row rfl _ _ (by rfl) F HP2.out.2.1 _ (l ++ [4]) (by rfl) HP2.out.1 A _ c t (by rfl) rfl hB (by simp; omega) ?_; intro v' w' h1 h2)
  go_ret
  exact ⟨_, rfl, h1, HF1.out.trans (HP2.out.2.2.trans h2)⟩

/-- appendValue, at one value -/
def AtE (v : V) : Prop := ∀ (F : Nat → Prop) (B : Nat) (val : Value) (pre : Bs) (x : X) (w : World), (∀ k, F k → k < w.heap.size) → (∀ k, k < B → F k) → B ≤ w.heap.size → Own w F val pre → IsB w B v x → v.may = true → v.bulk ≤ 4194304 → pre.length + 11 * v.bulk ≤ 140737300000000 →
  Calls Try.prog 18 #[val, x.v] w (App w F (pre ++ v.enc))

set_option maxRecDepth 100000 in
set_option maxHeartbeats 1000000 in
theorem ae_word (F : Nat → Prop) (val : Value) (l : Bs) (v : V) (x : X) (w : World) (hF : ∀ k, F k → k < w.heap.size) (h0 : Own w F val l) (hx : Is w v x) (hlim : l.length ≤ 140737400000000)
    (hk : v.k = 0 ∨ v.k = 1) : Calls Try.prog 18 #[val, x.v] w (App w F (l ++ v.enc)) := by
  obtain ⟨ka, kc, la, lc, rfl, h1, h2, h3, h4⟩ := hx.open
  have HT0 : Hid (v.k = 0 → v.enc = [0]) := fun h => enc0 h
  have HT1 : Hid (v.k = 1 → v.enc = [1]) := fun h => enc1 h
  have HP := own_at hF h0
  simp only [X.v]
  clear hx h1 h2 h3 h4 h0 hF
  generalize v.n = n at *
  generalize v.s = s at *
  generalize v.ks.length = kn at *
  generalize v.l.length = ln at *
  rcases hk with hk | hk
  · rw [HT0.out hk, hk]
    clear HT0 HT1 hk
    go_enter Try.func18, Try.ntmps18
    go_wp2_with (refine app_row rfl _ _ (by rfl) F (HP.out _ ?b).2.1 _ l (by rfl) (HP.out _ ?b).1 _ _ _ [0] (by rfl) rfl (byt_new (heap2_at _ _ _) rfl) (by simp; omega) ?_; (case b => exact below2 _ _ _); intro v1 w1 h1 hf1)
    go_ret
    exact ⟨_, rfl, h1, (HP.out _ (below2 _ _ _)).2.2.trans hf1⟩
  · rw [HT1.out hk, hk]
    clear HT0 HT1 hk
    go_enter Try.func18, Try.ntmps18
    go_wp2_with (refine app_row rfl _ _ (by rfl) F (HP.out _ ?b).2.1 _ l (by rfl) (HP.out _ ?b).1 _ _ _ [1] (by rfl) rfl (byt_new (heap2_at _ _ _) rfl) (by simp; omega) ?_; (case b => exact below2 _ _ _); intro v1 w1 h1 hf1)
    go_ret
    exact ⟨_, rfl, h1, (HP.out _ (below2 _ _ _)).2.2.trans hf1⟩

set_option maxRecDepth 100000 in
set_option maxHeartbeats 1000000 in
theorem ae_bool (F : Nat → Prop) (val : Value) (l : Bs) (v : V) (x : X) (w : World) (hF : ∀ k, F k → k < w.heap.size) (h0 : Own w F val l) (hx : Is w v x) (hlim : l.length ≤ 140737400000000)
    (hk : v.k = 2) (hn : v.n = 0 ∨ v.n = 1) : Calls Try.prog 18 #[val, x.v] w (App w F (l ++ v.enc)) := by
  obtain ⟨ka, kc, la, lc, rfl, h1, h2, h3, h4⟩ := hx.open
  have HT := Lib.hid (enc2 hk)
  have HP := own_at hF h0
  simp only [X.v]
  rw [hk, HT.out]
  clear hx h1 h2 h3 h4 h0 hF HT hk
  generalize v.s = s at *
  generalize v.ks.length = kn at *
  generalize v.l.length = ln at *
  rcases hn with hn | hn
  · rw [hn]
    clear hn
    go_enter Try.func18, Try.ntmps18
    go_wp2_with (refine app_row rfl _ _ (by rfl) F (HP.out _ ?b).2.1 _ l (by rfl) (HP.out _ ?b).1 _ _ _ [2] (by rfl) rfl (byt_new (heap2_at _ _ _) rfl) (by simp; omega) ?_; (case b => exact below2 _ _ _); intro v1 w1 h1 hf1)
    go_ret
    exact ⟨_, rfl, h1, (HP.out _ (below2 _ _ _)).2.2.trans hf1⟩
  · rw [hn]
    clear hn
    go_enter Try.func18, Try.ntmps18
    go_wp2_with (refine app_row rfl _ _ (by rfl) F (HP.out _ ?b).2.1 _ l (by rfl) (HP.out _ ?b).1 _ _ _ [3] (by rfl) rfl (byt_new (heap2_at _ _ _) rfl) (by simp; omega) ?_; (case b => exact below2 _ _ _); intro v1 w1 h1 hf1)
    go_ret
    exact ⟨_, rfl, h1, (HP.out _ (below2 _ _ _)).2.2.trans hf1⟩

set_option maxRecDepth 100000 in
set_option maxHeartbeats 1000000 in
theorem ae_num (F : Nat → Prop) (val : Value) (l : Bs) (v : V) (x : X) (w : World) (hF : ∀ k, F k → k < w.heap.size) (h0 : Own w F val l) (hx : Is w v x) (hlim : l.length ≤ 140737400000000)
    (hk : v.k = 3) (hn : -9007199254740991 ≤ v.n ∧ v.n ≤ 9007199254740991) : Calls Try.prog 18 #[val, x.v] w (App w F (l ++ v.enc)) := by
  obtain ⟨ka, kc, la, lc, rfl, h1, h2, h3, h4⟩ := hx.open
  have HN : Hid (∀ W, Below w.heap.size w W → Calls Try.prog 29 #[val, .int .i64 v.n] W (App W F (l ++ v.enc))) := fun W hb => by
    have hW := fun k hk => Nat.lt_of_lt_of_le (hF k hk) hb.size
    by_cases h : v.n < 0
    · rw [enc3n hk h]
      exact appendNum_neg F val l v.n W hW (h0.below hb) hn.1 h (by omega)
    · rw [enc3p hk h]
      obtain ⟨m, hm⟩ : ∃ m : Nat, v.n = (m : Int) := ⟨v.n.toNat, by omega⟩
      rw [hm, Int.toNat_natCast]
      exact appendNum_pos F val l m W hW (h0.below hb) (by omega) (by omega)
  have HP := own_at hF h0
  simp only [X.v]
  rw [hk]
  clear hx h1 h2 h3 h4 h0 hF hk hn
  generalize v.n = n at *
  generalize v.s = s at *
  generalize v.ks.length = kn at *
  generalize v.l.length = ln at *
  generalize v.enc = t at *
  go_enter Try.func18, Try.ntmps18
  go_wp2_with fail
  refine (HN.out _ (below_alloc _ _)).mono ?_
  rintro e w1 ⟨v1, rfl, h1, hf1⟩
  go_wp2_with fail
  go_ret
  exact ⟨_, rfl, h1, (HP.out _ (below_alloc _ _)).2.2.trans hf1⟩

set_option maxRecDepth 100000 in
set_option maxHeartbeats 1000000 in
theorem ae_text (F : Nat → Prop) (val : Value) (l : Bs) (v : V) (x : X) (w : World) (hF : ∀ k, F k → k < w.heap.size) (h0 : Own w F val l) (hx : Is w v x) (hlim : l.length ≤ 140737400000000)
    (hk : v.k = 4) (hs : v.s.size ≤ 4194304) : Calls Try.prog 18 #[val, x.v] w (App w F (l ++ v.enc)) := by
  obtain ⟨ka, kc, la, lc, rfl, h1, h2, h3, h4⟩ := hx.open
  have HT : Hid (l ++ v.enc = (l ++ [6]) ++ O.text v.s.data.toList) := by
    show _ = _
    rw [enc4 hk]
    simp
  simp only [X.v]
  rw [hk, HT.out]
  clear hx h1 h2 h3 h4 hk HT
  generalize v.n = n at *
  generalize v.s = s at *
  generalize v.ks.length = kn at *
  generalize v.l.length = ln at *
  have HF := Lib.hid hF
  have HF1 : Hid (∀ k, Or F w.heap.size k → k < (w.alloc (.cells #[.int .i64 4, .int .i64 n, .string s, .slice ka kn kc, .slice la ln lc] 25)).heap.size) := fun k hk => by
    simp
    rcases hk with hk | rfl
    · have := hF k hk; omega
    · omega
  have HO := Lib.hid (h0.up (F' := Or F w.heap.size) (below_alloc w (.cells #[.int .i64 4, .int .i64 n, .string s, .slice ka kn kc, .slice la ln lc] 25)) fun k hk => by rcases hk with hk | rfl; exact .inl hk; exact .inr (Nat.le_refl _))
  have HFR := Lib.hid ((Fr.refl F w).alloc hF (.cells #[.int .i64 4, .int .i64 n, .string s, .slice ka kn kc, .slice la ln lc] 25))
  have HSS : Hid (∀ w', Fr (Or F w.heap.size) (w.alloc (.cells #[.int .i64 4, .int .i64 n, .string s, .slice ka kn kc, .slice la ln lc] 25)) w' → w'.cell? ⟨w.heap.size, 2, none⟩ = some (.string s)) := fun w' hf => (hf.cell (p := ⟨w.heap.size, 2, none⟩) (.inr rfl)).trans (by simp)
  have HP := own_at HF1.out HO.out
  clear hF h0
  go_enter Try.func18, Try.ntmps18
  go_wp2_with fail
  go_region_held3 (fun w' => w'.cell? ⟨w.heap.size, 2, none⟩ = some (.string s)) (first | go_keep)
    ((first
      | (refine step_app_row rfl _ _ (by rfl) (Or F w.heap.size) (HP.out _ ?b).2.1 _ l (by rfl) (HP.out _ ?b).1 _ _ _ [6] (by rfl) rfl (byt_new (heap2_at _ _ _) rfl) (by simp; omega) ?_; (case b => first | exact (below_alloc _ _).drew | exact below_alloc _ _); intro v1 w1 h1 hf1; have hf0 := (HP.out _ (below_alloc _ (.cells #[.int .u8 6] 5)).drew).2.2.trans hf1; have s2 := HSS.out _ hf0)
      | (go_at_call 30; refine (appendText_any (Or F w.heap.size) _ _ s _ ?f h1 hs (by simp; omega)).mono ?_; (case f => exact fun k hk => Nat.lt_of_lt_of_le (HF1.out k hk) hf0.size); rintro e w2 ⟨v2, rfl, h2, hf2⟩; have s3 := HSS.out _ (hf0.trans hf2))))
  have HO2 := Lib.hid (h2.less (F' := F) fun k hk => .inl hk)
  have HF2 := Lib.hid (HFR.out.trans ((hf0.trans hf2).mono fun k hk => .inl hk))
  clear h1 h2 hf0 hf1 hf2 s2 s3 HSS HP
  go_wp2_with fail
  go_ret
  exact ⟨_, rfl, HO2.out, HF2.out⟩
end Go.Proofs.Ytnkknlhdbhfjlaa
