/-
  isWrong: an early error wherever it stands. (gen_zn.py)
-/
import Derived.Test.YtgehgccgologpaaZm
namespace Go.Proofs.Ytgehgccgologpaa.Z
open Go.RowKit Go.Shelf Go.Proofs.Ytgehgccgologpaa Go.Proofs.Ytgehgccgologpaa.R Go.Proofs.Ytgehgccgologpaa.T

theorem delS_l : delS.toList = [100, 101, 108, 101, 116, 101] := by rw [ByteArray.toList_eq]; rfl
theorem del_iff (s : ByteArray) : decide (s = delS) = (s.toList == [100, 101, 108, 101, 116, 101]) := by
  rw [← delS_l, Bool.eq_iff_iff, decide_eq_true_eq, beq_iff_eq]
  refine ⟨fun e => by rw [e], fun e => ?_⟩
  rw [ByteArray.toList_eq, ByteArray.toList_eq] at e
  exact ByteArray.ext (Array.toList_inj.1 e)
theorem pred_bar : PredS 42 bar := fun s w' => isBarred_any s w'
/-- what a call of one node has at hand: its copy, and what lies ahead -/
structure Pre (w : World) (v : V) (xka : Option Addr) (xkc : Nat) (xla : Option Addr) (xlc : Nat) (W0 : World) : Prop where
  bl : Below w.heap.size w W0
  at' : At W0 w.heap.size 0 ⟨v.k, v.nm, v.n, v.s, xka, v.ks.length, xkc, xla, v.l.length, xlc⟩
  lt : w.heap.size < W0.heap.size
theorem pre_new (w : World) (v : V) (xka : Option Addr) (xkc : Nat) (xla : Option Addr) (xlc : Nat) : Pre w v xka xkc xla xlc (w.alloc (.cells #[.int .i64 v.k, .string v.nm, .int .i64 v.n, .string v.s, .slice xka v.ks.length xkc, .slice xla v.l.length xlc] 25)) :=
  ⟨below_alloc _ _, at_new w ⟨v.k, v.nm, v.n, v.s, xka, v.ks.length, xkc, xla, v.l.length, xlc⟩, by simp⟩
theorem Pre.low {w : World} {v : V} {xka : Option Addr} {xkc : Nat} {xla : Option Addr} {xlc : Nat} {W0 W1 : World} (h : Pre w v xka xkc xla xlc W0) (hb : Below W0.heap.size W0 W1) : Pre w v xka xkc xla xlc W1 :=
  ⟨h.bl.trans (hb.mono h.bl.size), h.at'.below h.lt hb, Nat.lt_of_lt_of_le h.lt hb.size⟩
theorem bulk_parts (v : V) : v.bulk = 1 + v.nm.size + v.s.size + keysBulk v.ks + V.bulks v.l := by cases v; rfl

set_option maxRecDepth 8000 in
theorem wrong_23 (v : V) (x : X) (w : World) (hx : Is w v x) (hk : v.k = 23) : Calls Try.prog 26 #[x.v] w (AnsB w (bar v.nm)) := by
  obtain ⟨xka, xkc, xla, xlc, rfl, -, -, -, -⟩ := hx.open
  have HC := Lib.hid fun w' => isBarred_any v.nm w'
  have HB := Lib.hid (below_alloc w)
  simp only [X.v]
  rw [hk]
  clear hx hk
  go_enter Try.func26, Try.ntmps26
  go_wp2_with fail
  refine (HC.out _).mono ?_
  rintro e w1 ⟨rfl, rfl⟩
  go_wp2_with fail
  go_ret
  exact ⟨rfl, HB.out _⟩
set_option maxRecDepth 8000 in
theorem wrong_35 (v : V) (x : X) (w : World) (hx : Is w v x) (hk : v.k = 35) : Calls Try.prog 26 #[x.v] w (AnsB w (bar v.nm)) := by
  obtain ⟨xka, xkc, xla, xlc, rfl, -, -, -, -⟩ := hx.open
  have HC := Lib.hid fun w' => isBarred_any v.nm w'
  have HB := Lib.hid (below_alloc w)
  simp only [X.v]
  rw [hk]
  clear hx hk
  go_enter Try.func26, Try.ntmps26
  go_wp2_with fail
  refine (HC.out _).mono ?_
  rintro e w1 ⟨rfl, rfl⟩
  go_wp2_with fail
  go_ret
  exact ⟨rfl, HB.out _⟩
set_option maxRecDepth 8000 in
set_option maxHeartbeats 1000000 in
theorem wrong_39 (v : V) (x : X) (w : World) (hx : Is w v x) (hk : v.k = 39) (hb : v.bulk ≤ 4194304) : Calls Try.prog 26 #[x.v] w (AnsB w (bar v.nm || v.ks.any bar || dup v.ks)) := by
  obtain ⟨xka, xkc, xla, xlc, rfl, -, -, hks, -⟩ := hx.open
  have hbp := bulk_parts v
  have hkl : v.ks.length ≤ 4194304 := by have := length_le_keysBulk v.ks; omega
  have hkz : ∀ s ∈ v.ks, s.size ≤ 4194304 := fun s hs => by have := key_le_keysBulk hs; omega
  have HP := Lib.hid (pre_new w v xka xkc xla xlc)
  have HC := Lib.hid fun w' => isBarred_any v.nm w'
  have HS := Lib.hid fun w' (h : Below w.heap.size w w') => containsS_any 42 (enters_of Try.func42 (by kernel_rfl) rfl) bar v.ks xka xkc w' (hks.to h h.size) hkl pred_bar
  have HV := Lib.hid fun w' => values_any xka v.ks.length xkc w'
  have HT := Lib.hid fun w' (h : Below w.heap.size w w') => twice_names v.ks xka xkc w' (hks.to h h.size) hkz hkl
  simp only [X.v]
  rw [hk] at HP ⊢
  obtain ⟨W0, hW0⟩ : ∃ W0, w.alloc (.cells #[.int .i64 39, .string v.nm, .int .i64 v.n, .string v.s, .slice xka v.ks.length xkc, .slice xla v.l.length xlc] 25) = W0 := ⟨_, rfl⟩
  rw [hW0] at HP
  obtain ⟨c0, c1, c2, c3, c4, c5⟩ := HP.out.at'.six
  have HW0 := Lib.hid hW0
  rw [hk] at c0
  clear hx hk hb hbp hks hkl hkz hW0
  cases h1 : bar v.nm with
  | true =>
    rw [h1] at HC
    clear h1
    go_enter Try.func26, Try.ntmps26
    go_wp2_with fail
    rw [HW0.out]
    refine (HC.out _).mono ?_
    rintro e w1 ⟨rfl, rfl⟩
    go_wp2_with fail
    go_ret
    exact ⟨rfl, HP.out.bl⟩
  | false =>
    rw [h1] at HC
    clear h1
    rw [Bool.false_or]
    cases h2 : v.ks.any bar with
    | true =>
      rw [h2] at HS
      clear h2
      go_enter Try.func26, Try.ntmps26
      go_wp2_with fail
      rw [HW0.out]
      refine (HC.out _).mono ?_
      rintro e w1 ⟨rfl, rfl⟩
      go_wp2_with fail
      refine (HS.out _ HP.out.bl).mono ?_
      rintro e w1 ⟨rfl, rfl⟩
      go_wp2_with fail
      go_ret
      exact ⟨rfl, HP.out.bl⟩
    | false =>
      rw [h2] at HS
      clear h2
      rw [Bool.false_or]
      have HT2 := Lib.hid (HT.out W0 HP.out.bl)
      have HB2 := Lib.hid (below_alloc W0 (.cells #[.slice xka v.ks.length xkc] 22))
      go_enter Try.func26, Try.ntmps26
      go_wp2_with fail
      rw [HW0.out]
      refine (HC.out _).mono ?_
      rintro e w1 ⟨rfl, rfl⟩
      go_wp2_with fail
      refine (HS.out _ HP.out.bl).mono ?_
      rintro e w1 ⟨rfl, rfl⟩
      go_wp2_with fail
      refine (HV.out _).mono ?_
      rintro e w1 ⟨rfl, rfl⟩
      go_wp2_with fail
      refine HT2.out.mono ?_
      rintro e w1 ⟨rfl, hb1⟩
      have HB1 := Lib.hid (HP.out.bl.trans ((HB2.out.mono HP.out.bl.size).trans (hb1.mono (Nat.le_trans HP.out.bl.size HB2.out.size))))
      clear hb1
      go_wp2_with fail
      go_ret
      exact ⟨rfl, HB1.out⟩
set_option maxRecDepth 8000 in
set_option maxHeartbeats 1000000 in
theorem wrong_10 (v : V) (x : X) (w : World) (hx : Is w v x) (hk : v.k = 10) (hb : v.bulk ≤ 4194304) : Calls Try.prog 26 #[x.v] w (AnsB w (bar v.nm || v.ks.any bar || dup v.ks)) := by
  obtain ⟨xka, xkc, xla, xlc, rfl, -, -, hks, -⟩ := hx.open
  have hbp := bulk_parts v
  have hkl : v.ks.length ≤ 4194304 := by have := length_le_keysBulk v.ks; omega
  have hkz : ∀ s ∈ v.ks, s.size ≤ 4194304 := fun s hs => by have := key_le_keysBulk hs; omega
  have HP := Lib.hid (pre_new w v xka xkc xla xlc)
  have HC := Lib.hid fun w' => isBarred_any v.nm w'
  have HS := Lib.hid fun w' (h : Below w.heap.size w w') => containsS_any 42 (enters_of Try.func42 (by kernel_rfl) rfl) bar v.ks xka xkc w' (hks.to h h.size) hkl pred_bar
  have HV := Lib.hid fun w' => values_any xka v.ks.length xkc w'
  have HT := Lib.hid fun w' (h : Below w.heap.size w w') => twice_names v.ks xka xkc w' (hks.to h h.size) hkz hkl
  simp only [X.v]
  rw [hk] at HP ⊢
  obtain ⟨W0, hW0⟩ : ∃ W0, w.alloc (.cells #[.int .i64 10, .string v.nm, .int .i64 v.n, .string v.s, .slice xka v.ks.length xkc, .slice xla v.l.length xlc] 25) = W0 := ⟨_, rfl⟩
  rw [hW0] at HP
  obtain ⟨c0, c1, c2, c3, c4, c5⟩ := HP.out.at'.six
  have HW0 := Lib.hid hW0
  rw [hk] at c0
  clear hx hk hb hbp hks hkl hkz hW0
  cases h1 : bar v.nm with
  | true =>
    rw [h1] at HC
    clear h1
    go_enter Try.func26, Try.ntmps26
    go_wp2_with fail
    rw [HW0.out]
    refine (HC.out _).mono ?_
    rintro e w1 ⟨rfl, rfl⟩
    go_wp2_with fail
    go_ret
    exact ⟨rfl, HP.out.bl⟩
  | false =>
    rw [h1] at HC
    clear h1
    rw [Bool.false_or]
    cases h2 : v.ks.any bar with
    | true =>
      rw [h2] at HS
      clear h2
      go_enter Try.func26, Try.ntmps26
      go_wp2_with fail
      rw [HW0.out]
      refine (HC.out _).mono ?_
      rintro e w1 ⟨rfl, rfl⟩
      go_wp2_with fail
      refine (HS.out _ HP.out.bl).mono ?_
      rintro e w1 ⟨rfl, rfl⟩
      go_wp2_with fail
      go_ret
      exact ⟨rfl, HP.out.bl⟩
    | false =>
      rw [h2] at HS
      clear h2
      rw [Bool.false_or]
      have HT2 := Lib.hid (HT.out W0 HP.out.bl)
      have HB2 := Lib.hid (below_alloc W0 (.cells #[.slice xka v.ks.length xkc] 22))
      go_enter Try.func26, Try.ntmps26
      go_wp2_with fail
      rw [HW0.out]
      refine (HC.out _).mono ?_
      rintro e w1 ⟨rfl, rfl⟩
      go_wp2_with fail
      refine (HS.out _ HP.out.bl).mono ?_
      rintro e w1 ⟨rfl, rfl⟩
      go_wp2_with fail
      refine (HV.out _).mono ?_
      rintro e w1 ⟨rfl, rfl⟩
      go_wp2_with fail
      refine HT2.out.mono ?_
      rintro e w1 ⟨rfl, hb1⟩
      have HB1 := Lib.hid (HP.out.bl.trans ((HB2.out.mono HP.out.bl.size).trans (hb1.mono (Nat.le_trans HP.out.bl.size HB2.out.size))))
      clear hb1
      go_wp2_with fail
      go_ret
      exact ⟨rfl, HB1.out⟩
set_option maxRecDepth 8000 in
set_option maxHeartbeats 1000000 in
theorem wrong_20 (v : V) (x : X) (w : World) (hx : Is w v x) (hk : v.k = 20) (hb : v.bulk ≤ 4194304) (hne : ¬ v.l = []) : Calls Try.prog 26 #[x.v] w (AnsB w (hd v.l fun x => isNam x && bar x.nm)) := by
  obtain ⟨xka, xkc, xla, xlc, rfl, -, -, -, hrow⟩ := hx.open
  obtain ⟨u, r, hl⟩ : ∃ u r, v.l = u :: r := by
    rcases h : v.l with _ | ⟨u, r⟩
    · exact absurd h hne
    · exact ⟨u, r, rfl⟩
  have HP := Lib.hid (pre_new w v xka xkc xla xlc)
  simp only [X.v]
  rw [hk] at HP ⊢
  obtain ⟨W0, hW0⟩ : ∃ W0, w.alloc (.cells #[.int .i64 20, .string v.nm, .int .i64 v.n, .string v.s, .slice xka v.ks.length xkc, .slice xla v.l.length xlc] 25) = W0 := ⟨_, rfl⟩
  rw [hW0] at HP
  have HROW := Lib.hid fun w' (h : Below w.heap.size w w') => RowB.below hrow h
  obtain ⟨g, o, hA, hg, y, hat, hy⟩ := (HROW.out W0 HP.out.bl).at_ (i := 0) (by rw [hl]; simp)
  have hu : v.l[0]'(by rw [hl]; simp) = u := by simp [hl]
  rw [hu] at hy
  rw [Nat.zero_mul, Nat.add_zero] at hat
  obtain ⟨yka, ykc, yla, ylc, rfl, -, -, -, -⟩ := hy.open
  have hn1 : 0 < v.l.length := by rw [hl]; simp
  have hlen : (v.l.length : Int) ≤ 4194304 := by have := bulk_parts v; have := length_le_bulks v.l; omega
  have hn0 : (0 : Int) < (v.l.length : Int) := by omega
  obtain ⟨c0, c1, c2, c3, c4, c5⟩ := HP.out.at'.six
  obtain ⟨d0, d1, d2, d3, d4, d5⟩ := hat.six
  have HAT := Lib.hid hat
  have HG := Lib.hid hg
  have HW0 := Lib.hid hW0
  have HN := Lib.hid fun w' => isName_x ⟨u.k, u.nm, u.n, u.s, yka, u.ks.length, ykc, yla, u.l.length, ylc⟩ w'
  have HC := Lib.hid fun w' => isBarred_any u.nm w'
  simp only [X.v] at HN
  rw [hk] at c0
  have HV : Hid ((hd v.l fun x => isNam x && bar x.nm) = (decide (u.k = 3) && bar u.nm)) := by
    show _ = _
    rw [hl]
    rfl
  rw [HV.out]
  subst hA
  clear hx hk hb hne hl hrow hu hy hat hg hW0 HV
  cases h1 : decide (u.k = 3) with
  | true =>
    rw [h1] at HN
    rw [Bool.true_and]
    clear h1
    go_enter Try.func26, Try.ntmps26
    go_upto_region 11 with (fail)
    rw [HW0.out]
    go_wp2_with fail
    refine (HN.out _).mono ?_
    rintro e w1 ⟨rfl, hb1⟩
    have HP1 := Lib.hid (HP.out.low hb1)
    obtain ⟨e0, e1, e2, e3, e4, e5⟩ := HP1.out.at'.six
    obtain ⟨f0, f1, f2, f3, f4, f5⟩ := (HAT.out.below HG.out hb1).six
    clear hb1 c0 c1 c2 c3 c4 c5 d0 d1 d2 d3 d4 d5
    go_wp2_with fail
    refine (HC.out _).mono ?_
    rintro e w2 ⟨rfl, rfl⟩
    go_wp2_with fail
    go_ret
    exact ⟨rfl, HP1.out.bl⟩
  | false =>
    rw [h1] at HN
    rw [Bool.false_and]
    clear h1
    go_enter Try.func26, Try.ntmps26
    go_upto_region 11 with (fail)
    rw [HW0.out]
    go_wp2_with fail
    refine (HN.out _).mono ?_
    rintro e w1 ⟨rfl, hb1⟩
    have HP1 := Lib.hid (HP.out.low hb1)
    clear hb1 c0 c1 c2 c3 c4 c5 d0 d1 d2 d3 d4 d5
    go_wp2_with fail
    go_ret
    exact ⟨rfl, HP1.out.bl⟩
set_option maxRecDepth 8000 in
set_option maxHeartbeats 1000000 in
theorem wrong_16 (v : V) (x : X) (w : World) (hx : Is w v x) (hk : v.k = 16) (hb : v.bulk ≤ 4194304) (hne : ¬ v.l = []) : Calls Try.prog 26 #[x.v] w (AnsB w (hd v.l fun x => isNam x && bar x.nm)) := by
  obtain ⟨xka, xkc, xla, xlc, rfl, -, -, -, hrow⟩ := hx.open
  obtain ⟨u, r, hl⟩ : ∃ u r, v.l = u :: r := by
    rcases h : v.l with _ | ⟨u, r⟩
    · exact absurd h hne
    · exact ⟨u, r, rfl⟩
  have HP := Lib.hid (pre_new w v xka xkc xla xlc)
  simp only [X.v]
  rw [hk] at HP ⊢
  obtain ⟨W0, hW0⟩ : ∃ W0, w.alloc (.cells #[.int .i64 16, .string v.nm, .int .i64 v.n, .string v.s, .slice xka v.ks.length xkc, .slice xla v.l.length xlc] 25) = W0 := ⟨_, rfl⟩
  rw [hW0] at HP
  have HROW := Lib.hid fun w' (h : Below w.heap.size w w') => RowB.below hrow h
  obtain ⟨g, o, hA, hg, y, hat, hy⟩ := (HROW.out W0 HP.out.bl).at_ (i := 0) (by rw [hl]; simp)
  have hu : v.l[0]'(by rw [hl]; simp) = u := by simp [hl]
  rw [hu] at hy
  rw [Nat.zero_mul, Nat.add_zero] at hat
  obtain ⟨yka, ykc, yla, ylc, rfl, -, -, -, -⟩ := hy.open
  have hn1 : 0 < v.l.length := by rw [hl]; simp
  have hlen : (v.l.length : Int) ≤ 4194304 := by have := bulk_parts v; have := length_le_bulks v.l; omega
  have hn0 : (0 : Int) < (v.l.length : Int) := by omega
  obtain ⟨c0, c1, c2, c3, c4, c5⟩ := HP.out.at'.six
  obtain ⟨d0, d1, d2, d3, d4, d5⟩ := hat.six
  have HAT := Lib.hid hat
  have HG := Lib.hid hg
  have HW0 := Lib.hid hW0
  have HN := Lib.hid fun w' => isName_x ⟨u.k, u.nm, u.n, u.s, yka, u.ks.length, ykc, yla, u.l.length, ylc⟩ w'
  have HC := Lib.hid fun w' => isBarred_any u.nm w'
  simp only [X.v] at HN
  rw [hk] at c0
  have HV : Hid ((hd v.l fun x => isNam x && bar x.nm) = (decide (u.k = 3) && bar u.nm)) := by
    show _ = _
    rw [hl]
    rfl
  rw [HV.out]
  subst hA
  clear hx hk hb hne hl hrow hu hy hat hg hW0 HV
  cases h1 : decide (u.k = 3) with
  | true =>
    rw [h1] at HN
    rw [Bool.true_and]
    clear h1
    go_enter Try.func26, Try.ntmps26
    go_upto_region 11 with (fail)
    rw [HW0.out]
    go_wp2_with fail
    refine (HN.out _).mono ?_
    rintro e w1 ⟨rfl, hb1⟩
    have HP1 := Lib.hid (HP.out.low hb1)
    obtain ⟨e0, e1, e2, e3, e4, e5⟩ := HP1.out.at'.six
    obtain ⟨f0, f1, f2, f3, f4, f5⟩ := (HAT.out.below HG.out hb1).six
    clear hb1 c0 c1 c2 c3 c4 c5 d0 d1 d2 d3 d4 d5
    go_wp2_with fail
    refine (HC.out _).mono ?_
    rintro e w2 ⟨rfl, rfl⟩
    go_wp2_with fail
    go_ret
    exact ⟨rfl, HP1.out.bl⟩
  | false =>
    rw [h1] at HN
    rw [Bool.false_and]
    clear h1
    go_enter Try.func26, Try.ntmps26
    go_upto_region 11 with (fail)
    rw [HW0.out]
    go_wp2_with fail
    refine (HN.out _).mono ?_
    rintro e w1 ⟨rfl, hb1⟩
    have HP1 := Lib.hid (HP.out.low hb1)
    clear hb1 c0 c1 c2 c3 c4 c5 d0 d1 d2 d3 d4 d5
    go_wp2_with fail
    go_ret
    exact ⟨rfl, HP1.out.bl⟩
set_option maxRecDepth 8000 in
set_option maxHeartbeats 1000000 in
theorem wrong_30 (v : V) (x : X) (w : World) (hx : Is w v x) (hk : v.k = 30) (hb : v.bulk ≤ 4194304) (hne : ¬ v.l = []) : Calls Try.prog 26 #[x.v] w (AnsB w (hd v.l fun x => isNam x && bar x.nm)) := by
  obtain ⟨xka, xkc, xla, xlc, rfl, -, -, -, hrow⟩ := hx.open
  obtain ⟨u, r, hl⟩ : ∃ u r, v.l = u :: r := by
    rcases h : v.l with _ | ⟨u, r⟩
    · exact absurd h hne
    · exact ⟨u, r, rfl⟩
  have HP := Lib.hid (pre_new w v xka xkc xla xlc)
  simp only [X.v]
  rw [hk] at HP ⊢
  obtain ⟨W0, hW0⟩ : ∃ W0, w.alloc (.cells #[.int .i64 30, .string v.nm, .int .i64 v.n, .string v.s, .slice xka v.ks.length xkc, .slice xla v.l.length xlc] 25) = W0 := ⟨_, rfl⟩
  rw [hW0] at HP
  have HROW := Lib.hid fun w' (h : Below w.heap.size w w') => RowB.below hrow h
  obtain ⟨g, o, hA, hg, y, hat, hy⟩ := (HROW.out W0 HP.out.bl).at_ (i := 0) (by rw [hl]; simp)
  have hu : v.l[0]'(by rw [hl]; simp) = u := by simp [hl]
  rw [hu] at hy
  rw [Nat.zero_mul, Nat.add_zero] at hat
  obtain ⟨yka, ykc, yla, ylc, rfl, -, -, -, -⟩ := hy.open
  have hn1 : 0 < v.l.length := by rw [hl]; simp
  have hlen : (v.l.length : Int) ≤ 4194304 := by have := bulk_parts v; have := length_le_bulks v.l; omega
  have hn0 : (0 : Int) < (v.l.length : Int) := by omega
  obtain ⟨c0, c1, c2, c3, c4, c5⟩ := HP.out.at'.six
  obtain ⟨d0, d1, d2, d3, d4, d5⟩ := hat.six
  have HAT := Lib.hid hat
  have HG := Lib.hid hg
  have HW0 := Lib.hid hW0
  have HN := Lib.hid fun w' => isName_x ⟨u.k, u.nm, u.n, u.s, yka, u.ks.length, ykc, yla, u.l.length, ylc⟩ w'
  have HC := Lib.hid fun w' => isBarred_any u.nm w'
  simp only [X.v] at HN
  rw [hk] at c0
  have HV : Hid ((hd v.l fun x => isNam x && bar x.nm) = (decide (u.k = 3) && bar u.nm)) := by
    show _ = _
    rw [hl]
    rfl
  rw [HV.out]
  subst hA
  clear hx hk hb hne hl hrow hu hy hat hg hW0 HV
  cases h1 : decide (u.k = 3) with
  | true =>
    rw [h1] at HN
    rw [Bool.true_and]
    clear h1
    go_enter Try.func26, Try.ntmps26
    go_upto_region 11 with (fail)
    rw [HW0.out]
    go_wp2_with fail
    refine (HN.out _).mono ?_
    rintro e w1 ⟨rfl, hb1⟩
    have HP1 := Lib.hid (HP.out.low hb1)
    obtain ⟨e0, e1, e2, e3, e4, e5⟩ := HP1.out.at'.six
    obtain ⟨f0, f1, f2, f3, f4, f5⟩ := (HAT.out.below HG.out hb1).six
    clear hb1 c0 c1 c2 c3 c4 c5 d0 d1 d2 d3 d4 d5
    go_wp2_with fail
    refine (HC.out _).mono ?_
    rintro e w2 ⟨rfl, rfl⟩
    go_wp2_with fail
    go_ret
    exact ⟨rfl, HP1.out.bl⟩
  | false =>
    rw [h1] at HN
    rw [Bool.false_and]
    clear h1
    go_enter Try.func26, Try.ntmps26
    go_upto_region 11 with (fail)
    rw [HW0.out]
    go_wp2_with fail
    refine (HN.out _).mono ?_
    rintro e w1 ⟨rfl, hb1⟩
    have HP1 := Lib.hid (HP.out.low hb1)
    clear hb1 c0 c1 c2 c3 c4 c5 d0 d1 d2 d3 d4 d5
    go_wp2_with fail
    go_ret
    exact ⟨rfl, HP1.out.bl⟩
set_option maxRecDepth 8000 in
set_option maxHeartbeats 1000000 in
theorem wrong_15 (v : V) (x : X) (w : World) (hx : Is w v x) (hk : v.k = 15) (hb : v.bulk ≤ 4194304) (hne : ¬ v.l = []) : Calls Try.prog 26 #[x.v] w (AnsB w (decide (v.nm = delS) && hd v.l isNam)) := by
  obtain ⟨xka, xkc, xla, xlc, rfl, -, -, -, hrow⟩ := hx.open
  obtain ⟨u, r, hl⟩ : ∃ u r, v.l = u :: r := by
    rcases h : v.l with _ | ⟨u, r⟩
    · exact absurd h hne
    · exact ⟨u, r, rfl⟩
  have HP := Lib.hid (pre_new w v xka xkc xla xlc)
  simp only [X.v]
  rw [hk] at HP ⊢
  obtain ⟨W0, hW0⟩ : ∃ W0, w.alloc (.cells #[.int .i64 15, .string v.nm, .int .i64 v.n, .string v.s, .slice xka v.ks.length xkc, .slice xla v.l.length xlc] 25) = W0 := ⟨_, rfl⟩
  rw [hW0] at HP
  have HROW := Lib.hid fun w' (h : Below w.heap.size w w') => RowB.below hrow h
  obtain ⟨g, o, hA, hg, y, hat, hy⟩ := (HROW.out W0 HP.out.bl).at_ (i := 0) (by rw [hl]; simp)
  have hu : v.l[0]'(by rw [hl]; simp) = u := by simp [hl]
  rw [hu] at hy
  rw [Nat.zero_mul, Nat.add_zero] at hat
  obtain ⟨yka, ykc, yla, ylc, rfl, -, -, -, -⟩ := hy.open
  have hn1 : 0 < v.l.length := by rw [hl]; simp
  have hlen : (v.l.length : Int) ≤ 4194304 := by have := bulk_parts v; have := length_le_bulks v.l; omega
  have hn0 : (0 : Int) < (v.l.length : Int) := by omega
  obtain ⟨c0, c1, c2, c3, c4, c5⟩ := HP.out.at'.six
  obtain ⟨d0, d1, d2, d3, d4, d5⟩ := hat.six
  have HAT := Lib.hid hat
  have HG := Lib.hid hg
  have HW0 := Lib.hid hW0
  have HN := Lib.hid fun w' => isName_x ⟨u.k, u.nm, u.n, u.s, yka, u.ks.length, ykc, yla, u.l.length, ylc⟩ w'
  have HC := Lib.hid fun w' => isBarred_any u.nm w'
  simp only [X.v] at HN
  rw [hk] at c0
  have HV : Hid (hd v.l isNam = decide (u.k = 3)) := by
    show _ = _
    rw [hl]
    rfl
  rw [HV.out]
  subst hA
  have hdel := del_iff v.nm
  clear hx hk hb hne hl hrow hu hy hat hg hW0 HV HC
  cases h1 : decide (v.nm = delS) with
  | true =>
    rw [h1] at hdel
    rw [Bool.true_and]
    have e1 := hdel.symm
    clear h1 hdel
    go_enter Try.func26, Try.ntmps26
    go_upto_region 13 with (fail)
    rw [HW0.out]
    go_wp2_with fail
    refine (HN.out _).mono ?_
    rintro e w1 ⟨rfl, hb1⟩
    have HP1 := Lib.hid (HP.out.low hb1)
    clear hb1 c0 c1 c2 c3 c4 c5 d0 d1 d2 d3 d4 d5
    go_wp2_with fail
    go_ret
    exact ⟨rfl, HP1.out.bl⟩
  | false =>
    rw [h1] at hdel
    rw [Bool.false_and]
    have e1 := hdel.symm
    clear h1 hdel
    go_enter Try.func26, Try.ntmps26
    go_upto_region 13 with (fail)
    rw [HW0.out]
    go_wp2_with fail
    go_ret
    exact ⟨rfl, HP.out.bl⟩
set_option maxRecDepth 8000 in
set_option maxHeartbeats 1000000 in
theorem wrong_8 (v : V) (x : X) (w : World) (hx : Is w v x) (hk : v.k = 8) (hb : v.bulk ≤ 4194304) : Calls Try.prog 26 #[x.v] w (AnsB w (dup (v.l.map V.s))) := by
  obtain ⟨xka, xkc, xla, xlc, rfl, -, -, -, hrow⟩ := hx.open
  have hbp := bulk_parts v
  have hll : v.l.length ≤ 4194304 := by have := length_le_bulks v.l; omega
  have hlz : ∀ s ∈ v.l.map V.s, s.size ≤ 4194304 := fun s hs => by
    obtain ⟨u, hu, rfl⟩ := List.mem_map.1 hs
    have h1 := bulk_le_of_mem hu
    have h2 := bulk_parts u
    omega
  have HP := Lib.hid (pre_new w v xka xkc xla xlc)
  have HV := Lib.hid fun w' => texts_any xla v.l.length xlc w'
  have HT := Lib.hid fun w' (h : Below w.heap.size w w') => twice_texts v.l xla xlc w' (RowB.below hrow h) hlz hll
  simp only [X.v]
  rw [hk] at HP ⊢
  obtain ⟨W0, hW0⟩ : ∃ W0, w.alloc (.cells #[.int .i64 8, .string v.nm, .int .i64 v.n, .string v.s, .slice xka v.ks.length xkc, .slice xla v.l.length xlc] 25) = W0 := ⟨_, rfl⟩
  rw [hW0] at HP
  obtain ⟨c0, c1, c2, c3, c4, c5⟩ := HP.out.at'.six
  have HW0 := Lib.hid hW0
  rw [hk] at c0
  have HT2 := Lib.hid (HT.out W0 HP.out.bl)
  have HB2 := Lib.hid (below_alloc W0 (.cells #[.slice xla v.l.length xlc] 23))
  clear hx hk hb hbp hrow hll hlz hW0
  go_enter Try.func26, Try.ntmps26
  go_wp2_with fail
  rw [HW0.out]
  refine (HV.out _).mono ?_
  rintro e w1 ⟨rfl, rfl⟩
  go_wp2_with fail
  refine HT2.out.mono ?_
  rintro e w1 ⟨rfl, hb1⟩
  have HB1 := Lib.hid (HP.out.bl.trans ((HB2.out.mono HP.out.bl.size).trans (hb1.mono (Nat.le_trans HP.out.bl.size HB2.out.size))))
  clear hb1
  go_wp2_with fail
  go_ret
  exact ⟨rfl, HB1.out⟩
set_option maxRecDepth 8000 in
theorem wrong_no (v : V) (x : X) (w : World) (hx : Is w v x) (hk : ¬ (v.k = 23 ∨ v.k = 35 ∨ v.k = 39 ∨ v.k = 10 ∨ v.k = 20 ∨ v.k = 16 ∨ v.k = 30 ∨ v.k = 15 ∨ v.k = 8)) : Calls Try.prog 26 #[x.v] w (AnsB w false) := by
  obtain ⟨xka, xkc, xla, xlc, rfl, -, -, -, -⟩ := hx.open
  have HB := Lib.hid (below_alloc w)
  simp only [X.v]
  generalize v.k = k at *
  have e1 := beqF (a := k) (b := 23) (by omega)
  have e2 := beqF (a := k) (b := 35) (by omega)
  have e3 := beqF (a := k) (b := 39) (by omega)
  have e4 := beqF (a := k) (b := 10) (by omega)
  have e5 := beqF (a := k) (b := 20) (by omega)
  have e6 := beqF (a := k) (b := 16) (by omega)
  have e7 := beqF (a := k) (b := 30) (by omega)
  have e8 := beqF (a := k) (b := 15) (by omega)
  have e9 := beqF (a := k) (b := 8) (by omega)
  clear hx hk
  go_enter Try.func26, Try.ntmps26
  go_wp2_with fail
  go_ret
  exact ⟨rfl, HB.out _⟩
theorem isWrong_any (v : V) (x : X) (w : World) (hx : Is w v x) (hb : v.bulk ≤ 4194304) (hne : v.k = 20 ∨ v.k = 16 ∨ v.k = 30 ∨ v.k = 15 → ¬ v.l = []) : Calls Try.prog 26 #[x.v] w (AnsB w (wrong v)) := by
  unfold wrong
  split
  · rename_i h
    rcases h with h | h
    · exact wrong_23 v x w hx h
    · exact wrong_35 v x w hx h
  split
  · rename_i h
    rcases h with h | h
    · exact wrong_39 v x w hx h hb
    · exact wrong_10 v x w hx h hb
  split
  · rename_i h
    have hn := hne (by omega)
    rcases h with h | h | h
    · exact wrong_20 v x w hx h hb hn
    · exact wrong_16 v x w hx h hb hn
    · exact wrong_30 v x w hx h hb hn
  split
  · rename_i h
    exact wrong_15 v x w hx h hb (hne (by omega))
  split
  · rename_i h
    exact wrong_8 v x w hx h hb
  · exact wrong_no v x w hx (by omega)
end Go.Proofs.Ytgehgccgologpaa.Z
