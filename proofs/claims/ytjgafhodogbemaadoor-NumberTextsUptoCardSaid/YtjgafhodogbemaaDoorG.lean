/-
  Read, by contract.
-/
import Derived.Test.YtjgafhodogbemaaDoorF
namespace Go.Proofs.YtjgafhodogbemaaDoor.N
open Go.RowKit Go.Proofs.YtjgafhodogbemaaDoor

theorem pos_some {b n : Int} {l : List Nat} (hb : 1 ≤ b) (h : pos b l = some n) : 0 ≤ n ∧ n ≤ 9007199254740991 := by
  unfold pos at h
  split at h
  · cases h
  · exact ⟨dgs_ge b hb l 0 n (Int.le_refl _) h, dgs_le b l 0 n (by omega) h⟩
theorem nv_pos {b : Int} (hb : 1 ≤ b) (l : List Nat) : 0 ≤ nv (pos b l) ∧ nv (pos b l) ≤ 9007199254740991 := by
  cases h : pos b l with
  | none => exact ⟨Int.le_refl _, by decide⟩
  | some n => exact pos_some hb h
theorem nv_opp (o : Option Int) : nv (opp o) = -nv o := by cases o <;> rfl
theorem er_opp (o : Option Int) : er (opp o) = er o := by cases o <;> rfl
set_option maxRecDepth 8000 in
set_option maxHeartbeats 1000000 in
theorem read_bz {s : ByteArray} {t : List Nat} (hm : s.size ≤ 140737488355328) (he : s.size % 2 = 0) (ht : tr s = bz t) (hu : Un t) (hl : 2 * t.length ≤ 140737488355328) (w : World) :
    Calls Tryd.prog 22 #[.string s] w fun e w' => e = .returned (.tuple #[.int .i64 (nv (num t)), .int .i64 (er (num t))]) ∧ Below w.heap.size w w' := by
  have H0 : Hid (∀ w, Calls Tryd.prog 33 #[.string s] w fun e w' => e = .returned (.bool true) ∧ w = w') := Lib.hid fun w => by
    have := check_any s w (by unfold maxLen; omega)
    rw [decide_eq_true he] at this
    exact this
  have HT := Lib.hid fun w => ht ▸ trim_any s w hm
  have hz : (bz t).size ≤ maxLen := by rw [bz_size]; unfold maxLen; omega
  have HA : Hid (∀ w, Calls Tryd.prog 35 #[.string (bz t), .int .i64 0] w fun e w' => e = .returned (.int .i64 (atI t 0)) ∧ Below w.heap.size w w') := Lib.hid fun w => by
    have := at_any (bz t) 0 w hz
    unfold atOf at this
    rw [bz_us hu] at this
    exact this
  have HX : Hid (∀ w, Calls Tryd.prog 36 #[.string (bz t)] w fun e w' => e = .returned (.bool (hx t)) ∧ Below w.heap.size w w') := Lib.hid fun w => by
    have := isHex_any (bz t) w hz
    rw [bz_us hu] at this
    exact this
  have HK1 := Lib.hid fun w => behind_any hu 1 1 rfl w hl
  have HK2 := Lib.hid fun w => behind_any hu 2 2 rfl w hl
  have HD1 := Lib.hid fun w => readDigits_any (hu.drop 1) 10 (.inl rfl) w (by rw [List.length_drop]; omega)
  have HD2 := Lib.hid fun w => readDigits_any (hu.drop 2) 16 (.inr rfl) w (by rw [List.length_drop]; omega)
  have HE := bz_empty t
  have hN : Hid (num t = if t = [] then some 0 else if hx t then pos 16 (t.drop 2) else if atI t 0 = 45 then opp (pos 10 (t.drop 1)) else if atI t 0 = 43 then pos 10 (t.drop 1) else pos 10 t) := Lib.hid rfl
  have HD0 := Lib.hid fun w => readDigits_any hu 10 (.inl rfl) w hl
  have hNg := Lib.hid (nv_pos (b := 10) (by omega) (t.drop 1))
  clear ht hu hz
  generalize t.drop 1 = t1 at *
  generalize t.drop 2 = t2 at *
  generalize num t = nt at *
  generalize hx t = hxt at *
  generalize atI t 0 = x at *
  go_enter Tryd.func22, Tryd.ntmps22
  go_wp2_with fail
  refine (H0.out _).mono ?_
  rintro e w' ⟨rfl, rfl⟩
  go_wp2_with fail
  refine (HT.out _).mono ?_
  rintro e w1 ⟨rfl, hb1⟩
  go_wp2_with fail
  refine (HA.out _).mono ?_
  rintro e w2 ⟨rfl, hb2⟩
  have HB := Lib.hid (hb1.trans (hb2.mono hb1.size))
  clear hb1 hb2 H0 HT HA
  by_cases h0 : t = []
  · have HR : Hid (nt = some 0) := Lib.hid (by rw [hN.out, if_pos h0])
    have HE1 : (bz t).toList.isEmpty = true := by rw [HE, h0]; rfl
    clear HE hN HX HK1 HK2 HD1 HD2 h0
    go_wp2_with fail
    go_ret2
    exact ⟨by rw [HR.out]; rfl, HB.out⟩
  · have HE1 : (bz t).toList.isEmpty = false := by rw [HE]; cases t <;> simp_all
    have hN : Hid (nt = if hxt then pos 16 t2 else if x = 45 then opp (pos 10 t1) else if x = 43 then pos 10 t1 else pos 10 t) := Lib.hid (by rw [hN.out, if_neg h0])
    clear HE h0
    go_wp2_with fail
    refine (HX.out _).mono ?_
    rintro e w3 ⟨rfl, hb3⟩
    have HB3 := Lib.hid (HB.out.trans (hb3.mono HB.out.size))
    clear hb3 HX HB
    cases hxt with
    | true =>
      have HR : Hid (nt = pos 16 t2) := Lib.hid hN.out
      clear hN
      go_wp2_with fail
      refine (HK2.out _).mono ?_
      rintro e w4 ⟨rfl, hb4⟩
      have HB4 := Lib.hid (HB3.out.trans (hb4.mono HB3.out.size))
      clear hb4 HB3
      go_wp2_with fail
      refine (HD2.out _).mono ?_
      rintro e w5 ⟨rfl, hb5⟩
      go_wp2_with fail
      go_ret2
      exact ⟨by rw [HR.out]; rfl, HB4.out.trans (hb5.mono HB4.out.size)⟩
    | false =>
      have hN : Hid (nt = if x = 45 then opp (pos 10 t1) else if x = 43 then pos 10 t1 else pos 10 t) := Lib.hid hN.out
      by_cases h45 : x = 45
      · subst h45
        have HR : Hid (nt = opp (pos 10 t1)) := Lib.hid hN.out
        have HQ := Lib.hid (nv_opp (pos 10 t1))
        have HQ2 := Lib.hid (er_opp (pos 10 t1))
        clear hN
        go_wp2_with fail
        refine (HK1.out _).mono ?_
        rintro e w4 ⟨rfl, hb4⟩
        have HB4 := Lib.hid (HB3.out.trans (hb4.mono HB3.out.size))
        clear hb4 HB3
        go_wp2_with fail
        refine (HD1.out _).mono ?_
        rintro e w5 ⟨rfl, hb5⟩
        have hn := hNg.out
        have e1 : IntKind.i64.wrap (-nv (pos 10 t1)) = -nv (pos 10 t1) := IntWalk.i64_in _ (by omega)
        clear hn
        go_wp2_with fail
        go_ret2
        exact ⟨by rw [HR.out, HQ.out, HQ2.out]; rfl, HB4.out.trans (hb5.mono HB4.out.size)⟩
      · by_cases h43 : x = 43
        · subst h43
          have HR : Hid (nt = pos 10 t1) := Lib.hid hN.out
          clear hN h45
          go_wp2_with fail
          refine (HK1.out _).mono ?_
          rintro e w4 ⟨rfl, hb4⟩
          have HB4 := Lib.hid (HB3.out.trans (hb4.mono HB3.out.size))
          clear hb4 HB3
          go_wp2_with fail
          refine (HD1.out _).mono ?_
          rintro e w5 ⟨rfl, hb5⟩
          go_wp2_with fail
          go_ret2
          exact ⟨by rw [HR.out]; rfl, HB4.out.trans (hb5.mono HB4.out.size)⟩
        · have HR : Hid (nt = pos 10 t) := Lib.hid (by rw [hN.out, if_neg h45, if_neg h43])
          clear hN
          go_wp2_with fail
          refine (HD0.out _).mono ?_
          rintro e w5 ⟨rfl, hb5⟩
          go_wp2_with fail
          go_ret2
          exact ⟨by rw [HR.out]; rfl, HB3.out.trans (hb5.mono HB3.out.size)⟩
theorem read_any (s : ByteArray) (w : World) (hm : s.size ≤ 140737488355328) :
    Calls Tryd.prog 22 #[.string s] w fun e w' => e = .returned (.tuple #[.int .i64 (nv (rd s.data.toList)), .int .i64 (er (rd s.data.toList))]) ∧ Below w.heap.size w w' := by
  by_cases he : s.size % 2 = 0
  · have hr : rd s.data.toList = num (rea (fro (us s.data.toList))) := by
      unfold rd
      rw [size_list, if_pos he]
    rw [hr]
    have hl := len_tr (us s.data.toList)
    rw [us_length, size_list] at hl
    exact read_bz hm he (tr_bz s) (un_us _).tr (by omega) w
  · have HR : Hid (rd s.data.toList = none) := Lib.hid (by unfold rd; rw [size_list, if_neg he])
    have H0 : Hid (∀ w, Calls Tryd.prog 33 #[.string s] w fun e w' => e = .returned (.bool false) ∧ w = w') := Lib.hid fun w => by
      have := check_any s w (by unfold maxLen; omega)
      rw [decide_eq_false he] at this
      exact this
    go_enter Tryd.func22, Tryd.ntmps22
    go_wp2_with fail
    refine (H0.out _).mono ?_
    rintro e w' ⟨rfl, rfl⟩
    go_wp2_with fail
    go_ret2
    exact ⟨by rw [HR.out]; rfl, Below.refl _ _⟩
end Go.Proofs.YtjgafhodogbemaaDoor.N
