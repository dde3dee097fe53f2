/-
  Strings of units; behind, readDigits, by contract.
-/
import Derived.Test.YtjgafhodogbemaaDoorE
namespace Go.Proofs.YtjgafhodogbemaaDoor.N
open Go.RowKit Go.Proofs.YtjgafhodogbemaaDoor

/-- units as a string -/
def bz (u : List Nat) : ByteArray := ⟨(bs u).toArray⟩
def Un (u : List Nat) : Prop := ∀ n ∈ u, n < 65536
theorem Un.drop {u : List Nat} (h : Un u) (k : Nat) : Un (u.drop k) := fun n hn => h n (List.mem_of_mem_drop hn)
theorem un_us (l : Bs) : Un (us l) := us_lt l
theorem mem_fro {n : Nat} : ∀ {l : List Nat}, n ∈ fro l → n ∈ l := fun h => (List.dropWhile_suffix _).subset h
theorem mem_rea {n : Nat} {l : List Nat} (h : n ∈ rea l) : n ∈ l := by
  unfold rea at h
  rw [List.mem_reverse] at h
  exact List.mem_reverse.1 ((List.dropWhile_suffix _).subset h)
theorem Un.tr {u : List Nat} (h : Un u) : Un (rea (fro u)) := fun n hn => h n (mem_fro (mem_rea hn))
theorem len_tr (u : List Nat) : (rea (fro u)).length ≤ u.length := by
  have h1 := (List.dropWhile_suffix sp (l := u)).length_le
  have h2 := (List.dropWhile_suffix sp (l := (fro u).reverse)).length_le
  unfold rea
  rw [List.length_reverse]
  rw [List.length_reverse] at h2
  unfold fro at *
  omega
theorem bz_list (u : List Nat) : (bz u).data.toList = bs u := by unfold bz; simp
theorem bz_us {u : List Nat} (h : Un u) : us (bz u).data.toList = u := by rw [bz_list, us_bs u h]
theorem bz_size (u : List Nat) : (bz u).size = 2 * u.length := by rw [← size_list, bz_list, bs_length]
theorem bz_empty (u : List Nat) : (bz u).toList.isEmpty = u.isEmpty := by
  rw [← decide_eq_emptyBytes]
  cases u with
  | nil => exact decide_eq_true rfl
  | cons a r =>
    refine decide_eq_false fun h => ?_
    have := congrArg ByteArray.size h
    rw [bz_size] at this
    simp at this
theorem tr_bz (s : ByteArray) : tr s = bz (rea (fro (us s.data.toList))) := rfl
theorem cut_bz {u : List Nat} (h : Un u) (i j : Int) : cutOf (bz u) i j = bz (cutU u i j) := by
  unfold cutOf
  rw [bz_us h]
  rfl
theorem len_bz (u : List Nat) (w : World) (hm : 2 * u.length ≤ 140737488355328) :
    Calls Tryd.prog 47 #[.string (bz u)] w fun e w' => e = .returned (.int .i64 (u.length : Int)) ∧ w = w' := by
  have := len_any (bz u) w (by rw [bz_size]; unfold maxLen; omega)
  rw [bz_size, show 2 * u.length / 2 = u.length from by omega] at this
  exact this
theorem behind_any {u : List Nat} (h : Un u) (k : Nat) (x : Int) (hx : x = (k : Int)) (w : World) (hm : 2 * u.length ≤ 140737488355328) :
    Calls Tryd.prog 38 #[.string (bz u), .int .i64 x] w fun e w' => e = .returned (.string (bz (u.drop k))) ∧ Below w.heap.size w w' := by
  have HC : Hid (cutOf (bz u) x (u.length : Int) = bz (u.drop k)) := Lib.hid (by
    rw [cut_bz h]
    unfold cutU
    subst hx
    simp)
  have hz : (bz u).size ≤ 140737488355328 := by rw [bz_size]; exact hm
  have HL := Lib.hid fun w => len_bz u w hm
  have HK := Lib.hid fun (i j : Int) w => cut_any (bz u) i j w hz
  clear hz hx
  generalize bz u = s at *
  generalize bz (u.drop k) = t at *
  go_enter Tryd.func38, Tryd.ntmps38
  go_wp2_with fail
  refine (HL.out _).mono ?_
  rintro e w' ⟨rfl, rfl⟩
  go_wp2_with fail
  refine (HK.out _ _ _).mono ?_
  rintro e w5 ⟨rfl, hb5⟩
  go_wp2_with fail
  go_ret
  exact ⟨by rw [HC.out]; rfl, hb5⟩
theorem check_yes {n : Int} (h : sf n = true) (w : World) :
    Calls Tryd.prog 11 #[.int .i64 n] w fun e w' => e = .returned (.int .i64 0) ∧ w' = w := by
  have := check_n n w
  rw [er_inr, if_pos h] at this
  exact this
theorem check_no {n : Int} (h : sf n = false) (w : World) :
    Calls Tryd.prog 11 #[.int .i64 n] w fun e w' => e = .returned (.int .i64 100) ∧ w' = w := by
  have := check_n n w
  rw [er_inr, h, if_neg Bool.false_ne_true] at this
  exact this
theorem dgs_step {u : List Nat} {b acc : Int} {k : Nat} (h : k < u.length) : dgs b acc (u.drop k) = if b ≤ dgt u[k] then none else if 9007199254740991 < acc * b + dgt u[k] then none else dgs b (acc * b + dgt u[k]) (u.drop (k + 1)) := by
  rw [List.drop_eq_getElem_cons h, dgs]
set_option maxRecDepth 8000 in
set_option maxHeartbeats 2000000 in
theorem readDigits_any {u : List Nat} (h : Un u) (b : Int) (hb : b = 10 ∨ b = 16) (w : World) (hm : 2 * u.length ≤ 140737488355328) :
    Calls Tryd.prog 37 #[.string (bz u), .int .i64 b] w fun e w' => e = .returned (.tuple #[.int .i64 (nv (pos b u)), .int .i64 (er (pos b u))]) ∧ Below w.heap.size w w' := by
  have hz : (bz u).size ≤ maxLen := by rw [bz_size]; unfold maxLen; omega
  have HE := bz_empty u
  have HL := Lib.hid fun w => len_bz u w hm
  have HA : Hid (∀ (k : Nat) (x : Int), x = (k : Int) → ∀ (w : World) (hk : k < u.length), Calls Tryd.prog 35 #[.string (bz u), .int .i64 x] w fun e w' => e = .returned (.int .i64 ((u[k] : Nat) : Int)) ∧ Below w.heap.size w w') := Lib.hid fun k x hx w hk => by
    have := at_nat (bz u) k x hx w hz (by rw [bz_us h]; exact hk)
    simp only [bz_us h] at this
    exact this
  clear hz h
  generalize bz u = s at *
  by_cases h0 : u = []
  · subst h0
    have HR : Hid (pos b [] = none) := Lib.hid rfl
    have HE1 : s.toList.isEmpty = true := HE
    clear HA HL HE
    go_enter Tryd.func37, Tryd.ntmps37
    go_wp2_with fail
    go_ret2
    exact ⟨by rw [HR.out]; rfl, Below.refl _ _⟩
  · have HP : Hid (pos b u = dgs b 0 (u.drop 0)) := Lib.hid (if_neg h0)
    have HE1 : s.toList.isEmpty = false := by rw [HE]; cases u <;> simp_all
    clear HE
    go_enter Tryd.func37, Tryd.ntmps37
    go_wp2_with fail
    refine (HL.out _).mono ?_
    rintro e w' ⟨rfl, rfl⟩
    clear HL
    go_wp2_with fail
    go_loopw [6, 13] (fun v i wr => ∃ (acc : Int) (k : Nat), v = .int .i64 acc ∧ 0 ≤ acc ∧ acc ≤ 9007199254740991 ∧ k ≤ u.length ∧ i = .int .i64 k ∧ Hid (pos b u = dgs b acc (u.drop k)) ∧ Below w.heap.size w wr)
      (fun _ i _ => u.length - (intOf i).toNat)
    case atStart => exact ⟨0, 0, rfl, by omega, by omega, by omega, rfl, HP, Below.refl _ _⟩
    case round =>
      obtain ⟨acc, k, rfl, ha0, ha1, hk, rfl, hp, hbw⟩ := hrel
      by_cases hlt : k < u.length
      · have hs := Lib.hid (hp.out.trans (dgs_step hlt))
        have hd := dgt_ge u[k]
        have HD := Lib.hid fun w => digit_any (u[k] : Nat) u[k] rfl w
        have HA2 := Lib.hid fun w => HA.out k k rfl w hlt
        clear hp
        generalize hdx : dgt u[k] = d at *
        clear hdx
        by_cases hbad : b ≤ d
        · have HR : Hid (pos b u = none) := Lib.hid (by rw [hs.out, if_pos hbad])
          clear hs
          go_wp2_with fail
          refine (HA2.out _).mono ?_
          rintro e w1 ⟨rfl, hb1⟩
          go_wp2_with fail
          refine (HD.out _).mono ?_
          rintro e w2 ⟨rfl, rfl⟩
          go_wp2_with fail
          go_ret2
          exact ⟨by rw [HR.out]; rfl, hbw.trans (hb1.mono hbw.size)⟩
        · have e0 : 0 ≤ acc * b + d ∧ acc * b + d ≤ 144115188075855872 + 16 := by rcases hb with rfl | rfl <;> omega
          have e1 : IntKind.i64.wrap (acc * b) = acc * b := IntWalk.i64_in _ (by omega)
          have e2 : IntKind.i64.wrap (acc * b + d) = acc * b + d := IntWalk.i64_in _ (by omega)
          have hbad2 : d < b := by omega
          by_cases hbig : 9007199254740991 < acc * b + d
          · have HR : Hid (pos b u = none) := Lib.hid (by rw [hs.out, if_neg hbad, if_pos hbig])
            have HS := Lib.hid fun w => check_no (n := acc * b + d) ((sf_no _).2 (.inr hbig)) w
            clear hs hbig
            go_wp2_with fail
            refine (HA2.out _).mono ?_
            rintro e w1 ⟨rfl, hb1⟩
            go_wp2_with fail
            refine (HD.out _).mono ?_
            rintro e w2 ⟨rfl, rfl⟩
            go_wp2_with fail
            refine (HS.out _).mono ?_
            rintro e w3 ⟨rfl, rfl⟩
            go_wp2_with fail
            go_ret2
            exact ⟨by rw [HR.out]; rfl, hbw.trans (hb1.mono hbw.size)⟩
          · have HR : Hid (pos b u = dgs b (acc * b + d) (u.drop (k + 1))) := Lib.hid (by rw [hs.out, if_neg hbad, if_neg hbig])
            have HS := Lib.hid fun w => check_yes (n := acc * b + d) ((sf_iff _).2 (by omega)) w
            clear hs
            go_wp2_with fail
            refine (HA2.out _).mono ?_
            rintro e w1 ⟨rfl, hb1⟩
            go_wp2_with fail
            refine (HD.out _).mono ?_
            rintro e w2 ⟨rfl, rfl⟩
            go_wp2_with fail
            refine (HS.out _).mono ?_
            rintro e w3 ⟨rfl, rfl⟩
            go_wp2_with fail
            go_roundw
            case rel => exact ⟨acc * b + d, k + 1, rfl, by omega, by omega, by omega, by go_num, HR, hbw.trans (hb1.mono hbw.size)⟩
            case measure => simp [intOf]; omega
      · have HR : Hid (pos b u = some acc) := Lib.hid (by rw [hp.out, List.drop_eq_nil_of_le (by omega), dgs])
        clear hp
        go_wp2_with fail
        go_ret2
        exact ⟨by rw [HR.out]; rfl, hbw⟩
end Go.Proofs.YtjgafhodogbemaaDoor.N
