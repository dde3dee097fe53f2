/-
  Laid by wip/scope/lay.py out of wip/tree: TB Co Kd.
  Laid by wip/prune.py out of wip/token: A B C D E.
  count, all, are, by contract: a function value that asks a node (Pred) or a string (Asks1).
  PLAIN: what is asked of each kind. (gen_k.py)
-/
import Derived.Test.YtgehgccgologpaaS
import Derived.Test.YtgehgccgologpaaQ
import Derived.Test.YtgehgccgologpaaQ0
namespace Go.Proofs.Ytgehgccgologpaa.T
open Go.RowKit
open Go.RowKit Go.Proofs.Ytgehgccgologpaa
/-- a byte's question, answered -/
abbrev Asks (f : Nat) (p : UInt8 → Bool) : Prop := ∀ (c : UInt8) (w : World), Calls Try.prog f #[.int .u8 (c.toNat : Nat)] w fun e w' => e = .returned (.bool (p c)) ∧ w = w'
set_option maxRecDepth 8000 in
theorem isDigit_any : Asks 112 dg := fun c w => by
  obtain ⟨n, hn⟩ : ∃ n, c.toNat = n := ⟨_, rfl⟩
  have HD : Hid (dg c = decide (48 ≤ n ∧ n ≤ 57)) := Lib.hid (by rw [← hn]; rfl)
  rw [hn]
  go_enter Try.func112, Try.ntmps112
  go_wp2
  all_goals go_ret
  all_goals exact ⟨ret_bool (by rw [HD.out, Bool.eq_iff_iff]; simp; omega), rfl⟩
set_option maxRecDepth 8000 in
theorem refDigit_any : Asks 106 dg := fun c w => by
  obtain ⟨n, hn⟩ : ∃ n, c.toNat = n := ⟨_, rfl⟩
  have HD : Hid (dg c = decide (48 ≤ n ∧ n ≤ 57)) := Lib.hid (by rw [← hn]; rfl)
  rw [hn]
  go_enter Try.func106, Try.ntmps106
  go_wp2
  all_goals go_ret
  all_goals exact ⟨ret_bool (by rw [HD.out, Bool.eq_iff_iff]; simp; omega), rfl⟩
set_option maxRecDepth 4000 in
theorem isIdentByte_any : Asks 114 ib := fun c w => by
  have HDg := Lib.hid (isDigit_any c)
  obtain ⟨n, hn⟩ : ∃ n, c.toNat = n := ⟨_, rfl⟩
  have hD : ib c = (decide (97 ≤ n ∧ n ≤ 122 ∨ 65 ≤ n ∧ n ≤ 90 ∨ n = 95 ∨ n = 36) || dg c) := by rw [← hn]; rfl
  have HD := Lib.hid hD
  rw [hn] at HDg
  rw [hn]
  clear hD hn
  generalize dg c = d at *
  cases d
  all_goals
    go_enter Try.func114, Try.ntmps114
    go_wp2_with (go_at_call 112; refine (HDg.out _).mono ?_; rintro e w' ⟨rfl, rfl⟩)
    all_goals go_ret
    all_goals exact ⟨ret_bool (by rw [HD.out, Bool.eq_iff_iff]; simp; try omega), rfl⟩
set_option maxRecDepth 4000 in
theorem refLetter_any : Asks 107 lt := fun c w => by
  obtain ⟨n, hn⟩ : ∃ n, c.toNat = n := ⟨_, rfl⟩
  have HD : Hid (lt c = decide (97 ≤ n ∧ n ≤ 122 ∨ 65 ≤ n ∧ n ≤ 90 ∨ n = 95 ∨ n = 36)) := Lib.hid (by rw [← hn]; rfl)
  rw [hn]
  go_enter Try.func107, Try.ntmps107
  go_wp2
  all_goals go_ret
  all_goals exact ⟨ret_bool (by rw [HD.out, Bool.eq_iff_iff]; simp; try omega), rfl⟩
open Go.RowKit Go.Proofs.Ytgehgccgologpaa
set_option maxRecDepth 4000 in
theorem sizeOf_ib (s : ByteArray) (w : World) (hs : s.size ≤ 9223372036854775807) :
    Calls Try.prog 113 #[.string s, .func (.func 114) #[] #[]] w fun e w' => e = .returned (.int .i64 (run ib s.data.toList : Nat)) ∧ w = w' := by
  have HA : Hid (Asks 114 ib) := Lib.hid isIdentByte_any
  go_enter Try.func113, Try.ntmps113
  go_wp2_with fail
  go_loopw [8] (fun i wr => ∃ j : Nat, j ≤ s.size ∧ i = .int .i64 j ∧ Hid (∀ b ∈ s.data.toList.take j, ib b = true) ∧ w = wr)
    (fun i _ => s.size - (intOf i).toNat)
  case atStart => exact ⟨0, Nat.zero_le _, rfl, Lib.hid (by simp), rfl⟩
  case round =>
    obtain ⟨j, hj, rfl, hh, rfl⟩ := hrel
    by_cases hlt : j < s.size
    · have hlt' : j < s.data.toList.length := by rw [size_list]; exact hlt
      have hget : s.data.toList[j]? = some s.data.toList[j] := List.getElem?_eq_getElem hlt'
      have ix := fun w => index_run s j _ w hget
      have HE := Lib.hid fun h => run_eq (p := ib) hlt' hh.out h
      have HS : Hid (ib s.data.toList[j] = true → ∀ b ∈ s.data.toList.take (j + 1), ib b = true) := Lib.hid fun h b hb => by
        rw [List.take_succ_eq_append_getElem hlt', List.mem_append, List.mem_singleton] at hb
        rcases hb with hb | rfl
        · exact hh.out b hb
        · exact h
      generalize s.data.toList[j] = c at *
      have HC := Lib.hid (HA.out c)
      clear hget hh
      cases hc : ib c with
      | false =>
        rw [hc] at HC
        have HV := Lib.hid (HE.out hc)
        clear hc HE HS hlt'
        go_wp2_with (go_at_call 114; refine (HC.out _).mono ?_; rintro e w' ⟨rfl, rfl⟩)
        go_ret
        exact ⟨by rw [HV.out]; rfl, rfl⟩
      | true =>
        rw [hc] at HC
        have HV := Lib.hid (HS.out hc)
        clear hc HE HS hlt'
        go_wp2_with (go_at_call 114; refine (HC.out _).mono ?_; rintro e w' ⟨rfl, rfl⟩)
        go_roundw
        case rel => exact ⟨j + 1, by omega, by go_num, HV, by first | rfl | trivial⟩
        case measure => simp [intOf]; omega
    · obtain rfl : j = s.size := by omega
      have HV : Hid (run ib s.data.toList = s.size) := Lib.hid (by
        rw [← size_list]
        refine run_full fun b hb => hh.out b ?_
        rw [List.take_of_length_le (by rw [size_list]; exact Nat.le_refl _)]
        exact hb)
      go_wp2_with fail
      go_ret
      exact ⟨by rw [HV.out]; rfl, rfl⟩
open Go.RowKit Go.Proofs.Ytgehgccgologpaa
theorem hitW {s : ByteArray} {l : Bs} (h : (s.toList == l) = true) (hl : isW l = true) : isW s.data.toList = true := by
  rw [← Lib.toList_data, eq_of_beq h]; exact hl
theorem noBoth {b : Bool} {p : Prop} (h1 : b = true) (h2 : b = false) : p := by rw [h1] at h2; cases h2
set_option maxRecDepth 8000 in
set_option maxHeartbeats 2000000 in
theorem isWord_any (s : ByteArray) (w : World) :
    Calls Try.prog 111 #[.string s] w fun e w' => e = .returned (.bool (isW s.data.toList)) ∧ w = w' := by
  go_enter Try.func111, Try.ntmps111
  go_wp2
  all_goals first
    | (exfalso; exact noBoth (by assumption) (by assumption))
    | (go_ret; exact ⟨ret_bool (hitW (by assumption) (by decide +kernel)).symm, rfl⟩)
    | (go_ret; exact ⟨ret_bool (by symm; rw [← Lib.toList_data]; simp only [isW, words, List.contains_cons, List.contains_nil, *, Bool.or_false]), rfl⟩)
open Go.RowKit Go.Proofs.Ytgehgccgologpaa
/-- texts in a block of their own -/
def strsO (l : List Bs) : Obj := .cells ((l.map fun x => Value.string ⟨x.toArray⟩).toArray) 9
theorem strs_at (w : World) (l : List Bs) (j : Nat) (h : j < l.length) : (w.alloc (strsO l)).cell? ⟨w.heap.size, j, none⟩ = some (.string ⟨l[j].toArray⟩) := by
  unfold strsO
  rw [World.cell?_alloc_at _ _ _ _ rfl]
  simp [h]
set_option maxRecDepth 8000 in
theorem words_any (w : World) : Calls Try.prog 109 #[] w fun e w' => e = .returned (.slice (some ⟨w.heap.size, 0, none⟩) 45 45) ∧ w' = w.alloc (strsO words) := by
  go_enter Try.func109, Try.ntmps109
  go_wp2
  go_ret
  exact ⟨rfl, rfl⟩
theorem words_len : words.length = 45 := rfl
theorem isW_yes {l : Bs} {j : Nat} (h : j < words.length) (e : l = words[j]) : isW l = true := by
  unfold isW
  rw [List.contains_iff_mem, e]
  exact List.getElem_mem h
theorem isW_no {l : Bs} (h : ∀ i (h : i < words.length), ¬ l = words[i]) : isW l = false := by
  rw [Bool.eq_false_iff]
  intro hc
  unfold isW at hc
  rw [List.contains_iff_mem] at hc
  obtain ⟨i, hi, e⟩ := List.getElem_of_mem hc
  exact h i hi e.symm
set_option maxRecDepth 8000 in
set_option maxHeartbeats 1000000 in
theorem refIsWord_any (s : ByteArray) (w : World) :
    Calls Try.prog 77 #[.string s] w fun e w' => e = .returned (.bool (isW s.data.toList)) ∧ Below w.heap.size w w' := by
  have HW := Lib.hid words_any
  have HC := Lib.hid (strs_at w words)
  have HB := Lib.hid ((Below.refl _ _).alloc (Nat.le_refl _) (strsO words) : Below w.heap.size w (w.alloc (strsO words)))
  have HL := Lib.hid words_len
  have HY := Lib.hid (fun j h e => isW_yes (l := s.data.toList) (j := j) h e)
  have HN := Lib.hid (fun h => isW_no (l := s.data.toList) h)
  generalize isW s.data.toList = b at *
  generalize words = ws at *
  go_enter Try.func77, Try.ntmps77
  go_wp2_with (go_at_call 109; refine (HW.out _).mono ?_; rintro e w' ⟨rfl, rfl⟩)
  generalize w.alloc (strsO ws) = w1 at *
  go_loopw [7] (fun i wr => ∃ j : Nat, j ≤ 45 ∧ i = .int .i64 j ∧ Hid (∀ i, i < j → (h : i < ws.length) → ¬ s.data.toList = ws[i]) ∧ w1 = wr)
    (fun i _ => 45 - (intOf i).toNat)
  case atStart => exact ⟨0, Nat.zero_le _, rfl, Lib.hid fun i hi => by omega, rfl⟩
  case round =>
    obtain ⟨j, hj, rfl, hh, rfl⟩ := hrel
    by_cases hlt : j < 45
    · have hlt' : j < ws.length := by rw [HL.out]; exact hlt
      have hc := HC.out j hlt'
      have hlti : (j : Int) < 45 := by omega
      by_cases he : s.data.toList = ws[j]
      · have hq : (s.toList == (⟨ws[j].toArray⟩ : ByteArray).toList) = true := by
          rw [Lib.toList_data, Lib.toList_data, he]
          exact beq_self_eq_true _
        have hV := HY.out j hlt' he
        subst hV
        clear he HY HN
        generalize (⟨ws[j].toArray⟩ : ByteArray) = x at *
        go_wp2_with fail
        go_ret
        exact ⟨rfl, HB.out⟩
      · have hq : (s.toList == (⟨ws[j].toArray⟩ : ByteArray).toList) = false := by
          rw [Lib.toList_data, Lib.toList_data, beq_eq_false_iff_ne]
          exact he
        have HS : Hid (∀ i, i < j + 1 → (h : i < ws.length) → ¬ s.data.toList = ws[i]) := Lib.hid fun i hi h => by
          rcases Nat.lt_succ_iff_lt_or_eq.1 hi with hi | rfl
          · exact hh.out i hi h
          · exact he
        clear he
        generalize (⟨ws[j].toArray⟩ : ByteArray) = x at *
        go_wp2_with fail
        go_roundw
        case rel => exact ⟨j + 1, by omega, by go_num, HS, by first | rfl | trivial⟩
        case measure => simp [intOf]; omega
    · obtain rfl : j = 45 := by omega
      have hV := HN.out fun i h => hh.out i (by rw [HL.out] at h; exact h) h
      subst hV
      go_wp2_with fail
      go_ret
      exact ⟨rfl, HB.out⟩
open Go.RowKit Go.Proofs.Ytgehgccgologpaa
theorem all_run (l : Bs) : l.all ib = decide (run ib l = l.length) := by
  rw [Bool.eq_iff_iff, decide_eq_true_iff, List.all_eq_true]
  constructor
  · exact run_full
  · intro h b hb
    have := run_all (p := ib) l b
    rw [h, List.take_length] at this
    exact this hb
theorem list_nil {s : ByteArray} (h : s.data.toList = []) : s = ⟨#[]⟩ := by
  apply ByteArray.ext; apply Array.toList_inj.1; exact h
theorem bI (a b : Nat) (x : Bool) (h : x = decide (a = b)) : ((a : Int) == (b : Int)) = x := by
  rw [h, Bool.eq_iff_iff, beq_iff_eq, decide_eq_true_iff]
  omega
theorem isI_cons (c : UInt8) (r : Bs) : isI (c :: r) = (decide ((c :: r).length ≤ 32) && (!dg c && (c :: r).all ib)) := rfl
set_option maxRecDepth 4000 in
theorem isIdent_any (s : ByteArray) (w : World) (hs : s.size ≤ 9223372036854775807) :
    Calls Try.prog 88 #[.string s] w fun e w' => e = .returned (.bool (isI s.data.toList)) ∧ w = w' := by
  cases hl : s.data.toList with
  | nil =>
    obtain rfl := list_nil hl
    go_enter Try.func88, Try.ntmps88
    go_wp2
    go_ret
    exact ⟨rfl, rfl⟩
  | cons c r =>
    have hemp := notEmpty hl
    have i0 : ∀ w, (Instr.index 9 (.string s) (.int .i64 0)).run Try.prog w = .ok (.int .u8 (c.toNat : Nat)) w := fun w => index_run s 0 c w (by rw [hl]; rfl)
    have hz : s.size = (c :: r).length := by rw [← hl, size_list]
    by_cases h32 : s.size ≤ 32
    · have hd := Lib.hid (isDigit_any c)
      have h32' : (s.size : Int) ≤ 32 := by omega
      have hpos : (0 : Int) < (s.size : Int) := by rw [hz]; simp only [List.length_cons]; omega
      cases hdc : dg c with
      | true =>
        rw [hdc] at hd
        have HV : Hid (isI (c :: r) = false) := Lib.hid (by rw [isI_cons, hdc]; simp)
        clear hl hz hdc
        go_enter Try.func88, Try.ntmps88
        go_wp2_with (go_at_call 112; refine (hd.out _).mono ?_; rintro e w' ⟨rfl, rfl⟩)
        go_ret
        exact ⟨by rw [HV.out]; rfl, rfl⟩
      | false =>
        rw [hdc] at hd
        have HS := Lib.hid (sizeOf_ib s)
        have hq := bI (run ib s.data.toList) s.size (isI (c :: r)) (by
          rw [hl]
          rw [isI_cons, all_run, hdc, decide_eq_true (by rw [← hz]; exact h32), hz]
          simp)
        generalize run ib s.data.toList = k at *
        generalize isI (c :: r) = b at *
        clear hl hz hdc
        go_enter Try.func88, Try.ntmps88
        go_wp2_with (first
          | (go_at_call 112; refine (hd.out _).mono ?_; rintro e w' ⟨rfl, rfl⟩)
          | (go_at_call 113; refine (HS.out _ (by omega)).mono ?_; rintro e w' ⟨rfl, rfl⟩))
        go_ret
        exact ⟨rfl, rfl⟩
    · have h32' : 32 < (s.size : Int) := by omega
      have HV : Hid (isI (c :: r) = false) := Lib.hid (by rw [isI_cons, decide_eq_false (by rw [← hz]; exact h32)]; rfl)
      clear hl hz h32
      go_enter Try.func88, Try.ntmps88
      go_wp2
      go_ret
      exact ⟨by rw [HV.out]; rfl, rfl⟩
set_option maxRecDepth 4000 in
set_option maxHeartbeats 1000000 in
theorem refIsIdent_any (s : ByteArray) (w : World) (hs : s.size ≤ 9223372036854775807) :
    Calls Try.prog 75 #[.string s] w fun e w' => e = .returned (.bool (isI s.data.toList)) ∧ w = w' := by
  cases hl : s.data.toList with
  | nil =>
    obtain rfl := list_nil hl
    go_enter Try.func75, Try.ntmps75
    go_wp2
    go_ret
    exact ⟨rfl, rfl⟩
  | cons c r =>
    have i0 : ∀ w, (Instr.index 9 (.string s) (.int .i64 0)).run Try.prog w = .ok (.int .u8 (c.toNat : Nat)) w := fun w => index_run s 0 c w (by rw [hl]; rfl)
    have hz : s.size = (c :: r).length := by rw [← hl, size_list]
    have hpos : (1 : Int) ≤ (s.size : Int) := by rw [hz]; simp only [List.length_cons]; omega
    have hpos' : (0 : Int) < (s.size : Int) := by omega
    by_cases h32 : s.size ≤ 32
    · have hd := Lib.hid (refDigit_any c)
      have h32' : (s.size : Int) ≤ 32 := by omega
      cases hdc : dg c with
      | true =>
        rw [hdc] at hd
        have HV : Hid (isI (c :: r) = false) := Lib.hid (by rw [isI_cons, hdc]; simp)
        clear hl hz hdc
        go_enter Try.func75, Try.ntmps75
        go_wp2_with (go_at_call 106; refine (hd.out _).mono ?_; rintro e w' ⟨rfl, rfl⟩)
        go_ret
        exact ⟨by rw [HV.out]; rfl, rfl⟩
      | false =>
        rw [hdc] at hd
        have HI : Hid (isI (c :: r) = (c :: r).all ib) := Lib.hid (by rw [isI_cons, hdc, decide_eq_true (by rw [← hz]; exact h32)]; simp)
        have HL : Hid (Asks 107 lt) := Lib.hid refLetter_any
        have HD : Hid (Asks 106 dg) := Lib.hid refDigit_any
        have HLl := Lib.hid hl
        have HIX := Lib.hid (index_run s)
        have HZ := Lib.hid hz
        clear hl hz hdc
        go_enter Try.func75, Try.ntmps75
        go_wp2_with (go_at_call 106; refine (hd.out _).mono ?_; rintro e w' ⟨rfl, rfl⟩)
        clear hd i0
        go_loopw [3] (fun i wr => ∃ j : Nat, j ≤ s.size ∧ i = .int .i64 j ∧ Hid (∀ b ∈ (c :: r).take j, ib b = true) ∧ w = wr)
          (fun i _ => s.size - (intOf i).toNat)
        case atStart => exact ⟨0, Nat.zero_le _, rfl, Lib.hid (by simp), rfl⟩
        case round =>
          obtain ⟨j, hj, rfl, hh, rfl⟩ := hrel
          by_cases hlt : j < s.size
          · have hlt' : j < (c :: r).length := by rw [← HZ.out]; exact hlt
            have ij := fun w => HIX.out j _ w (by rw [HLl.out]; exact List.getElem?_eq_getElem hlt')
            have HE : Hid (ib (c :: r)[j] = false → (c :: r).all ib = false) := Lib.hid fun h => by
              rw [Bool.eq_false_iff]
              intro ha
              rw [List.all_eq_true.1 ha _ (List.getElem_mem hlt')] at h
              cases h
            have HS : Hid (ib (c :: r)[j] = true → ∀ b ∈ (c :: r).take (j + 1), ib b = true) := Lib.hid fun h b hb => by
              rw [List.take_succ_eq_append_getElem hlt', List.mem_append, List.mem_singleton] at hb
              rcases hb with hb | rfl
              · exact hh.out b hb
              · exact h
            generalize (c :: r)[j] = x at *
            have HC1 := Lib.hid (HL.out x)
            have HC2 := Lib.hid (HD.out x)
            have hxb : ib x = (lt x || dg x) := rfl
            clear hh hlt'
            cases hl1 : lt x with
            | true =>
              rw [hl1] at HC1
              have HV := Lib.hid (HS.out (by rw [hxb, hl1]; rfl))
              clear hl1 HE HS hxb
              go_wp2_with (first | (go_at_call 107; refine (HC1.out _).mono ?_; rintro e w' ⟨rfl, rfl⟩) | (go_at_call 106; refine (HC2.out _).mono ?_; rintro e w' ⟨rfl, rfl⟩))
              go_roundw
              case rel => exact ⟨j + 1, by omega, by go_num, HV, by first | rfl | trivial⟩
              case measure => simp [intOf]; omega
            | false =>
              rw [hl1] at HC1
              cases hd1 : dg x with
              | true =>
                rw [hd1] at HC2
                have HV := Lib.hid (HS.out (by rw [hxb, hl1, hd1]; rfl))
                clear hl1 hd1 HE HS hxb
                go_wp2_with (first | (go_at_call 107; refine (HC1.out _).mono ?_; rintro e w' ⟨rfl, rfl⟩) | (go_at_call 106; refine (HC2.out _).mono ?_; rintro e w' ⟨rfl, rfl⟩))
                go_roundw
                case rel => exact ⟨j + 1, by omega, by go_num, HV, by first | rfl | trivial⟩
                case measure => simp [intOf]; omega
              | false =>
                rw [hd1] at HC2
                have HV := Lib.hid (HE.out (by rw [hxb, hl1, hd1]; rfl))
                clear hl1 hd1 HE HS hxb
                go_wp2_with (first | (go_at_call 107; refine (HC1.out _).mono ?_; rintro e w' ⟨rfl, rfl⟩) | (go_at_call 106; refine (HC2.out _).mono ?_; rintro e w' ⟨rfl, rfl⟩))
                go_ret
                exact ⟨by rw [HI.out, HV.out]; rfl, rfl⟩
          · obtain rfl : j = s.size := by omega
            have HV : Hid ((c :: r).all ib = true) := Lib.hid (List.all_eq_true.2 fun b hb => hh.out b (by rw [HZ.out, List.take_length]; exact hb))
            go_wp2_with fail
            go_ret
            exact ⟨by rw [HI.out, HV.out]; rfl, rfl⟩
    · have h32' : 32 < (s.size : Int) := by omega
      have HV : Hid (isI (c :: r) = false) := Lib.hid (by rw [isI_cons, decide_eq_false (by rw [← hz]; exact h32)]; rfl)
      clear hl hz h32
      go_enter Try.func75, Try.ntmps75
      go_wp2
      go_ret
      exact ⟨by rw [HV.out]; rfl, rfl⟩
end Go.Proofs.Ytgehgccgologpaa.T
namespace Go.Proofs.Ytgehgccgologpaa.R
open Go.RowKit Go.Proofs.Ytgehgccgologpaa Go.Proofs.Ytgehgccgologpaa.T
/-- a function that asks a node of a row -/
def PredB (f : Nat) (p : V → Bool) (l : List V) : Prop := ∀ v ∈ l, ∀ (x : X) (w : World), Is w v x → Calls Try.prog f #[x.v] w fun e w' => e = .returned (.bool (p v)) ∧ Below w.heap.size w w'
theorem Pred.on {f : Nat} {p : V → Bool} (h : Pred f p) (l : List V) : PredB f p l := fun v _ x w hx => h v x w hx
theorem countP_snoc {α : Type} (p : α → Bool) (l : List α) (j : Nat) (h : j < l.length) : (l.take (j + 1)).countP p = (l.take j).countP p + (if p l[j] then 1 else 0) := by
  rw [List.take_succ_eq_append_getElem h, List.countP_append]
  simp [List.countP_cons]
theorem countP_take_le {α : Type} (p : α → Bool) (l : List α) (j : Nat) : (l.take j).countP p ≤ j := Nat.le_trans List.countP_le_length (List.length_take_le _ _)
set_option maxRecDepth 8000 in
theorem count_any (f : Nat) (p : V → Bool) (hf : Ent f) (l : List V) (hp : PredB f p l) (A : Option Addr) (c : Nat) (w : World) (hR : Row w A l) (hlen : l.length ≤ 4194304) :
    Calls Try.prog 64 #[.slice A l.length c, .func (.func f) #[] #[]] w fun e w' => e = .returned (.int .i64 (l.countP p : Nat)) ∧ Below w.heap.size w w' := by
  have HP := Lib.hid hp
  have HR := Lib.hid hR
  have hlen' : (l.length : Int) ≤ 4194304 := by omega
  clear hp hR
  go_enter Try.func64, Try.ntmps64
  go_wp2_with fail
  go_loopw [5, 10] (fun t i wr => ∃ j : Nat, j ≤ l.length ∧ i = .int .i64 j ∧ t = .int .i64 ((l.take j).countP p : Nat) ∧ Hid (Below w.heap.size w wr))
    (fun _ i _ => l.length - (intOf i).toNat)
  case atStart => exact ⟨0, Nat.zero_le _, rfl, rfl, Lib.hid (Below.refl _ _)⟩
  case round =>
    obtain ⟨j, hj, rfl, rfl, hb⟩ := hrel
    by_cases hlt : j < l.length
    · obtain ⟨g, o, rfl, hg, y, hy, hya⟩ := HR.out.at_ hlt
      obtain ⟨c0, c1, c2, c3, c4, c5⟩ := hy.below hg hb.out
      have HPj := Lib.hid (HP.out _ (List.getElem_mem hlt) y)
      have HI := Lib.hid fun w' (h : Below w.heap.size w w') => Is.below h _ _ hya
      have HSn := Lib.hid (countP_snoc p l j hlt)
      have hct := countP_take_le p l j
      obtain ⟨yk, ynm, yn, ys, yka, ykn, ykc, yla, yln, ylc⟩ := y
      dsimp only at c0 c1 c2 c3 c4 c5
      simp only [X.v] at HPj
      clear hy hya hg
      obtain ⟨b, hbv⟩ : ∃ b, p l[j] = b := ⟨_, rfl⟩
      rw [hbv] at HPj HSn
      clear hbv
      generalize l[j] = u at *
      generalize (l.take j).countP p = q at *
      go_wp2_with fail
      refine (HPj.out _ (HI.out _ (hb.out.alloc (by have := hb.out.size; omega) _))).mono ?_
      rintro e w1 ⟨rfl, hb1⟩
      have hb2 := Lib.hid ((hb.out.alloc (B := w.heap.size) (by have := hb.out.size; omega) (.cells #[.int .i64 yk, .string ynm, .int .i64 yn, .string ys, .slice yka ykn ykc, .slice yla yln ylc] 25)).trans (hb1.mono (by have := hb.out.size; simp; omega)))
      clear hb1 hb c0 c1 c2 c3 c4 c5
      cases b
      all_goals
        go_wp2_with fail
        go_roundw
        case rel => exact ⟨j + 1, by omega, by go_num, by rw [HSn.out]; simp, hb2⟩
        case measure => simp [intOf]; omega
    · obtain rfl : j = l.length := by omega
      rw [List.take_length]
      go_wp2_with fail
      go_ret
      exact ⟨rfl, hb.out⟩
theorem all_count {α : Type} (p : α → Bool) (l : List α) : l.all p = decide (l.countP p = l.length) := by
  rw [Bool.eq_iff_iff, List.all_eq_true, decide_eq_true_eq, List.countP_eq_length]
theorem all_any (f : Nat) (p : V → Bool) (hf : Ent f) (l : List V) (hp : PredB f p l) (A : Option Addr) (c : Nat) (w : World) (hR : Row w A l) (hlen : l.length ≤ 4194304) :
    Calls Try.prog 38 #[.slice A l.length c, .func (.func f) #[] #[]] w fun e w' => e = .returned (.bool (l.all p)) ∧ Below w.heap.size w w' := by
  have HC := Lib.hid (count_any f p hf l hp A c w hR hlen)
  have HA := Lib.hid (all_count p l)
  have hle : l.countP p ≤ l.length := List.countP_le_length
  clear hp hR hf
  rw [HA.out]
  generalize l.countP p = q at *
  by_cases hq : q = l.length
  · rw [decide_eq_true hq]
    subst hq
    go_enter Try.func38, Try.ntmps38
    go_wp2_with fail
    refine HC.out.mono ?_
    rintro e w1 ⟨rfl, hb⟩
    go_wp2_with fail
    go_ret
    exact ⟨rfl, hb⟩
  · rw [decide_eq_false hq]
    have hqi : ((q : Int) == (l.length : Int)) = false := by rw [beq_eq_false_iff_ne]; omega
    clear HA hq
    generalize l.length = ln at *
    go_enter Try.func38, Try.ntmps38
    go_wp2_with fail
    refine HC.out.mono ?_
    rintro e w1 ⟨rfl, hb⟩
    go_wp2_with fail
    go_ret
    exact ⟨rfl, hb⟩
theorem are_len : ∀ (ps : List (V → Bool)) (l : List V), ¬ l.length = ps.length → are ps l = false
  | [], [], h => absurd rfl h
  | [], _ :: _, _ => rfl
  | _ :: _, [], _ => rfl
  | p :: ps, v :: l, h => by
    rw [are, are_len ps l (by simpa using h), Bool.and_false]
theorem are_step (ps : List (V → Bool)) (l : List V) (j : Nat) (h1 : j < ps.length) (h2 : j < l.length) : are (ps.drop j) (l.drop j) = (ps[j] l[j] && are (ps.drop (j + 1)) (l.drop (j + 1))) := by
  rw [List.drop_eq_getElem_cons h1, List.drop_eq_getElem_cons h2, are]
set_option maxRecDepth 8000 in
theorem are_any (fs : List (Nat × (V → Bool))) (l : List V) (hfs : ∀ q ∈ fs, Ent q.1 ∧ PredB q.1 q.2 l) (A : Option Addr) (c : Nat) (g n m : Nat) (w : World) (hn : n = fs.length) (hm : m = fs.length) (hg : g < w.heap.size) (hc : ∀ j (h : j < fs.length), w.cell? ⟨g, j, none⟩ = some (.func (.func fs[j].1) #[] #[])) (hR : Row w A l) (hlen : l.length ≤ 4194304) (hfl : fs.length ≤ 10) :
    Calls Try.prog 95 #[.slice A l.length c, .slice (some ⟨g, 0, none⟩) n m] w fun e w' => e = .returned (.bool (are (fs.map (·.2)) l)) ∧ Below w.heap.size w w' := by
  subst hn hm
  by_cases hl : l.length = fs.length
  · have HF := Lib.hid hfs
    have HC := Lib.hid hc
    have HR := Lib.hid hR
    have HL := Lib.hid hl
    have hlen' : (fs.length : Int) ≤ 10 := by omega
    have HAl := Lib.hid (show are (fs.map (·.2)) l = are ((fs.map (·.2)).drop 0) (l.drop 0) from rfl)
    obtain ⟨r, hr⟩ : ∃ r, are (fs.map (·.2)) l = r := ⟨_, rfl⟩
    rw [hr] at HAl ⊢
    rw [hl]
    clear hfs hc hR hl hr
    go_enter Try.func95, Try.ntmps95
    go_wp2_with fail
    go_loopw [14] (fun i wr => ∃ j : Nat, j ≤ fs.length ∧ i = .int .i64 j ∧ Hid (r = are ((fs.map (·.2)).drop j) (l.drop j)) ∧ Hid (Below w.heap.size w wr))
      (fun i _ => fs.length - (intOf i).toNat)
    case atStart => exact ⟨0, Nat.zero_le _, rfl, HAl, Lib.hid (Below.refl _ _)⟩
    case round =>
      obtain ⟨j, hj, rfl, ha, hb⟩ := hrel
      by_cases hlt : j < fs.length
      · have hlt2 : j < l.length := by rw [HL.out]; exact hlt
        obtain ⟨g2, o, rfl, hg2, y, hy, hya⟩ := HR.out.at_ hlt2
        obtain ⟨c0, c1, c2, c3, c4, c5⟩ := hy.below hg2 hb.out
        have cf := (hb.out.cell (p := ⟨g, j, none⟩) hg).trans (HC.out j hlt)
        obtain ⟨hent, hpb⟩ := HF.out _ (List.getElem_mem hlt)
        have HPj := Lib.hid (hpb _ (List.getElem_mem hlt2) y)
        have HI := Lib.hid fun w' (h : Below w.heap.size w w') => Is.below h _ _ hya
        have HSt := Lib.hid (are_step (fs.map (·.2)) l j (by simpa using hlt) hlt2)
        have hlj : (j : Int) < (fs.length : Int) := by omega
        obtain ⟨yk, ynm, yn, ys, yka, ykn, ykc, yla, yln, ylc⟩ := y
        dsimp only at c0 c1 c2 c3 c4 c5
        simp only [X.v] at HPj
        clear hy hya hg2 hpb
        obtain ⟨b, hbv⟩ : ∃ b, fs[j].2 l[j] = b := ⟨_, rfl⟩
        have HSt' : Hid (r = (b && are ((fs.map (·.2)).drop (j + 1)) (l.drop (j + 1)))) := by
          show _ = _
          rw [ha.out, HSt.out, List.getElem_map, hbv]
        rw [hbv] at HPj
        clear hbv ha HSt
        generalize l[j] = u at *
        generalize fs[j] = q at *
        obtain ⟨qf, qp⟩ := q
        dsimp only at hent HPj cf
        go_wp2_with fail
        refine (HPj.out _ (HI.out _ hb.out)).mono ?_
        rintro e w1 ⟨rfl, hb1⟩
        have hb2 := Lib.hid (hb.out.trans (hb1.mono hb.out.size))
        clear hb1 hb c0 c1 c2 c3 c4 c5 cf hent
        cases b with
        | true =>
          go_wp2_with fail
          go_roundw
          case rel => exact ⟨j + 1, by omega, by go_num, by rw [Bool.true_and] at HSt'; exact HSt', hb2⟩
          case measure => simp [intOf]; omega
        | false =>
          have hrf : Hid (r = false) := by rw [Bool.false_and] at HSt'; exact HSt'
          clear HSt' HAl
          go_wp2_with fail
          go_ret
          exact ⟨by rw [hrf.out]; rfl, hb2.out⟩
      · obtain rfl : j = fs.length := by omega
        have hrt : Hid (r = true) := by
          show _ = _
          rw [ha.out, List.drop_of_length_le (by simp), List.drop_of_length_le (by rw [HL.out]; exact Nat.le_refl _)]
          rfl
        clear ha HAl
        go_wp2_with fail
        go_ret
        exact ⟨by rw [hrt.out]; rfl, hb.out⟩
  · have HV := Lib.hid (are_len (fs.map (·.2)) l (by rw [List.length_map]; exact hl))
    have hl2 : ((l.length : Int) != (fs.length : Int)) = true := by rw [bne_iff_ne]; omega
    clear hR hc hfs hl
    generalize l.length = ln at *
    generalize fs.length = fl at *
    go_enter Try.func95, Try.ntmps95
    go_wp2_with fail
    go_ret
    exact ⟨by rw [HV.out]; rfl, Below.refl _ _⟩
/-! names -/
set_option maxRecDepth 8000 in
theorem isName_any (s : ByteArray) (w : World) (hs : s.size ≤ 4194304) : Calls Try.prog 87 #[.string s] w fun e w' => e = .returned (.bool (isNm s)) ∧ w = w' := by
  have HI := Lib.hid fun w => isIdent_any s w (by omega)
  have HW := Lib.hid fun w => isWord_any s w
  have HV : Hid (isNm s = (isI (bl s) && !isW (bl s))) := Lib.hid rfl
  generalize isI (bl s) = P at *
  generalize isW (bl s) = Q at *
  cases P with
  | false =>
    clear HW
    go_enter Try.func87, Try.ntmps87
    go_wp2_with fail
    refine (HI.out _).mono ?_
    rintro e w' ⟨rfl, rfl⟩
    go_wp2_with fail
    go_ret
    exact ⟨by rw [HV.out]; rfl, rfl⟩
  | true =>
    cases Q
    all_goals
      go_enter Try.func87, Try.ntmps87
      go_wp2_with fail
      refine (HI.out _).mono ?_
      rintro e w' ⟨rfl, rfl⟩
      go_wp2_with fail
      refine (HW.out _).mono ?_
      rintro e w' ⟨rfl, rfl⟩
      go_wp2_with fail
      go_ret
      exact ⟨by rw [HV.out]; rfl, rfl⟩
theorem entName : Ent 87 := enters_of Try.func87 (by kernel_rfl) rfl
set_option maxRecDepth 8000 in
theorem countS_any (ks : List ByteArray) (A : Option Addr) (c : Nat) (w : World) (hR : Strs w A ks) (hlen : ks.length ≤ 4194304) (hk : ∀ k ∈ ks, k.size ≤ 4194304) :
    Calls Try.prog 115 #[.slice A ks.length c, .func (.func 87) #[] #[]] w fun e w' => e = .returned (.int .i64 (ks.countP isNm : Nat)) ∧ w = w' := by
  have HR := Lib.hid hR
  have HK := Lib.hid hk
  have hlen' : (ks.length : Int) ≤ 4194304 := by omega
  have hent := entName
  clear hR hk
  go_enter Try.func115, Try.ntmps115
  go_wp2_with fail
  go_loop [5, 10] (fun t i => ∃ j : Nat, j ≤ ks.length ∧ i = .int .i64 j ∧ t = .int .i64 ((ks.take j).countP isNm : Nat))
    (fun _ i => ks.length - (intOf i).toNat)
  case atStart => exact ⟨0, Nat.zero_le _, rfl, rfl⟩
  case round =>
    obtain ⟨j, hj, rfl, rfl⟩ := hrel
    by_cases hlt : j < ks.length
    · obtain ⟨g, o, rfl, hg, hc⟩ := HR.out.at_ hlt
      have HN := Lib.hid fun w => isName_any ks[j] w (HK.out _ (List.getElem_mem hlt))
      have HSn := Lib.hid (countP_snoc isNm ks j hlt)
      have hct := countP_take_le isNm ks j
      obtain ⟨b, hbv⟩ : ∃ b, isNm ks[j] = b := ⟨_, rfl⟩
      rw [hbv] at HN HSn
      clear hbv
      generalize ks[j] = u at *
      generalize (ks.take j).countP isNm = q at *
      go_wp2_with fail
      refine (HN.out _).mono ?_
      rintro e w1 ⟨rfl, rfl⟩
      cases b
      all_goals
        go_wp2_with fail
        go_round
        case rel => exact ⟨j + 1, by omega, by go_num, by rw [HSn.out]; simp⟩
        case measure => simp [intOf]; omega
    · obtain rfl : j = ks.length := by omega
      rw [List.take_length]
      go_wp2_with fail
      go_ret
      exact ⟨rfl, rfl⟩
theorem allS_any (ks : List ByteArray) (A : Option Addr) (c : Nat) (w : World) (hR : Strs w A ks) (hlen : ks.length ≤ 4194304) (hk : ∀ k ∈ ks, k.size ≤ 4194304) :
    Calls Try.prog 89 #[.slice A ks.length c, .func (.func 87) #[] #[]] w fun e w' => e = .returned (.bool (ks.all isNm)) ∧ w = w' := by
  have HC := Lib.hid (countS_any ks A c w hR hlen hk)
  have HA := Lib.hid (all_count isNm ks)
  have hle : ks.countP isNm ≤ ks.length := List.countP_le_length
  clear hR hk
  rw [HA.out]
  generalize ks.countP isNm = q at *
  by_cases hq : q = ks.length
  · rw [decide_eq_true hq]
    subst hq
    go_enter Try.func89, Try.ntmps89
    go_wp2_with fail
    refine HC.out.mono ?_
    rintro e w1 ⟨rfl, rfl⟩
    go_wp2_with fail
    go_ret
    exact ⟨rfl, rfl⟩
  · rw [decide_eq_false hq]
    have hqi : ((q : Int) == (ks.length : Int)) = false := by rw [beq_eq_false_iff_ne]; omega
    clear HA hq
    generalize ks.length = ln at *
    go_enter Try.func89, Try.ntmps89
    go_wp2_with fail
    refine HC.out.mono ?_
    rintro e w1 ⟨rfl, rfl⟩
    go_wp2_with fail
    go_ret
    exact ⟨rfl, rfl⟩
end Go.Proofs.Ytgehgccgologpaa.R
namespace Go.Proofs.Ytgehgccgologpaa.R
open Go.RowKit Go.Proofs.Ytgehgccgologpaa Go.Proofs.Ytgehgccgologpaa.T
theorem kids_1 {v : V} (h : v.k = 1) : kids v = v.l.isEmpty := by unfold kids; rw [h]; rfl
theorem kids_2 {v : V} (h : v.k = 2) : kids v = v.l.isEmpty := by unfold kids; rw [h]; rfl
theorem kids_3 {v : V} (h : v.k = 3) : kids v = v.l.isEmpty := by unfold kids; rw [h]; rfl
theorem kids_4 {v : V} (h : v.k = 4) : kids v = v.l.isEmpty := by unfold kids; rw [h]; rfl
theorem kids_5 {v : V} (h : v.k = 5) : kids v = v.l.isEmpty := by unfold kids; rw [h]; rfl
theorem kids_6 {v : V} (h : v.k = 6) : kids v = v.l.isEmpty := by unfold kids; rw [h]; rfl
theorem kids_7 {v : V} (h : v.k = 7) : kids v = v.l.all isE := by unfold kids; rw [h]; rfl
theorem kids_8 {v : V} (h : v.k = 8) : kids v = v.l.all (isK 9) := by unfold kids; rw [h]; rfl
theorem kids_9 {v : V} (h : v.k = 9) : kids v = are [isE] v.l := by unfold kids; rw [h]; rfl
theorem kids_10 {v : V} (h : v.k = 10) : kids v = v.l.all isSt := by unfold kids; rw [h]; rfl
theorem kids_11 {v : V} (h : v.k = 11) : kids v = are [isE] v.l := by unfold kids; rw [h]; rfl
theorem kids_12 {v : V} (h : v.k = 12) : kids v = are [isE, isE] v.l := by unfold kids; rw [h]; rfl
theorem kids_13 {v : V} (h : v.k = 13) : kids v = (!v.l.isEmpty && v.l.all isE) := by unfold kids; rw [h]; rfl
theorem kids_14 {v : V} (h : v.k = 14) : kids v = (!v.l.isEmpty && v.l.all isE) := by unfold kids; rw [h]; rfl
theorem kids_15 {v : V} (h : v.k = 15) : kids v = are [isE] v.l := by unfold kids; rw [h]; rfl
theorem kids_16 {v : V} (h : v.k = 16) : kids v = are [isTg] v.l := by unfold kids; rw [h]; rfl
theorem kids_17 {v : V} (h : v.k = 17) : kids v = are [isE, isE] v.l := by unfold kids; rw [h]; rfl
theorem kids_18 {v : V} (h : v.k = 18) : kids v = are [isE, isE] v.l := by unfold kids; rw [h]; rfl
theorem kids_19 {v : V} (h : v.k = 19) : kids v = are [isE, isE, isE] v.l := by unfold kids; rw [h]; rfl
theorem kids_20 {v : V} (h : v.k = 20) : kids v = are [isTg, isE] v.l := by unfold kids; rw [h]; rfl
theorem kids_21 {v : V} (h : v.k = 21) : kids v = are [isE, isE] v.l := by unfold kids; rw [h]; rfl
theorem kids_22 {v : V} (h : v.k = 22) : kids v = (!v.l.isEmpty && v.l.all (isK 23)) := by unfold kids; rw [h]; rfl
theorem kids_23 {v : V} (h : v.k = 23) : kids v = (v.l.isEmpty || are [isE] v.l) := by unfold kids; rw [h]; rfl
theorem kids_24 {v : V} (h : v.k = 24) : kids v = are [isE] v.l := by unfold kids; rw [h]; rfl
theorem kids_25 {v : V} (h : v.k = 25) : kids v = v.l.all isIn := by unfold kids; rw [h]; rfl
theorem kids_26 {v : V} (h : v.k = 26) : kids v = (are [isE, isK 25] v.l || are [isE, isK 25, isK 25] v.l) := by unfold kids; rw [h]; rfl
theorem kids_27 {v : V} (h : v.k = 27) : kids v = are [isE, isK 25] v.l := by unfold kids; rw [h]; rfl
theorem kids_28 {v : V} (h : v.k = 28) : kids v = are [isK 25, isE] v.l := by unfold kids; rw [h]; rfl
theorem kids_29 {v : V} (h : v.k = 29) : kids v = are [isBg, isEO, isEO, isK 25] v.l := by unfold kids; rw [h]; rfl
theorem kids_30 {v : V} (h : v.k = 30) : kids v = are [isTk, isE, isK 25] v.l := by unfold kids; rw [h]; rfl
theorem kids_31 {v : V} (h : v.k = 31) : kids v = v.l.isEmpty := by unfold kids; rw [h]; rfl
theorem kids_32 {v : V} (h : v.k = 32) : kids v = v.l.isEmpty := by unfold kids; rw [h]; rfl
theorem kids_33 {v : V} (h : v.k = 33) : kids v = (v.l.isEmpty || are [isE] v.l) := by unfold kids; rw [h]; rfl
theorem kids_34 {v : V} (h : v.k = 34) : kids v = are [isE] v.l := by unfold kids; rw [h]; rfl
theorem kids_35 {v : V} (h : v.k = 35) : kids v = (are [isK 25, isBO, isBO] v.l && (match v.l with | [_, b, c] => isK 25 b || isK 25 c | _ => false)) := by unfold kids; rw [h]; rfl
theorem kids_36 {v : V} (h : v.k = 36) : kids v = (match v.l with | x :: r => isE x && (r.all (isK 37) && decide (r.countP isDf ≤ 1)) | [] => false) := by unfold kids; rw [h]; rfl
theorem kids_37 {v : V} (h : v.k = 37) : kids v = (match v.l with | x :: r => isEO x && r.all isIn | [] => false) := by unfold kids; rw [h]; rfl
theorem kids_38 {v : V} (h : v.k = 38) : kids v = are [isIn] v.l := by unfold kids; rw [h]; rfl
theorem kids_39 {v : V} (h : v.k = 39) : kids v = v.l.all isSt := by unfold kids; rw [h]; rfl
theorem kids_40 {v : V} (h : v.k = 40) : kids v = v.l.isEmpty := by unfold kids; rw [h]; rfl
theorem kids_41 {v : V} (h : v.k = 41) : kids v = v.l.all isSt := by unfold kids; rw [h]; rfl
theorem kids_42 {v : V} (h : v.k = 42) : kids v = v.l.isEmpty := by unfold kids; rw [h]; rfl
theorem nm_3 {v : V} {c : Bool} (h : v.k = 3) : nmOk c v = isNm v.nm := by unfold nmOk; rw [h]; rfl
theorem nm_10 {v : V} {c : Bool} (h : v.k = 10) : nmOk c v = (decide (v.nm.size = 0) || isNm v.nm) := by unfold nmOk; rw [h]; rfl
theorem nm_11 {v : V} {c : Bool} (h : v.k = 11) : nmOk c v = isI (bl v.nm) := by unfold nmOk; rw [h]; rfl
theorem nm_15 {v : V} {c : Bool} (h : v.k = 15) : nmOk c v = opOk 15 (bl v.nm) := by unfold nmOk; rw [h]; rfl
theorem nm_16 {v : V} {c : Bool} (h : v.k = 16) : nmOk c v = opOk 16 (bl v.nm) := by unfold nmOk; rw [h]; rfl
theorem nm_17 {v : V} {c : Bool} (h : v.k = 17) : nmOk c v = opOk 17 (bl v.nm) := by unfold nmOk; rw [h]; rfl
theorem nm_18 {v : V} {c : Bool} (h : v.k = 18) : nmOk c v = opOk 18 (bl v.nm) := by unfold nmOk; rw [h]; rfl
theorem nm_20 {v : V} {c : Bool} (h : v.k = 20) : nmOk c v = opOk 20 (bl v.nm) := by unfold nmOk; rw [h]; rfl
theorem nm_23 {v : V} {c : Bool} (h : v.k = 23) : nmOk c v = isNm v.nm := by unfold nmOk; rw [h]; rfl
theorem nm_31 {v : V} {c : Bool} (h : v.k = 31) : nmOk c v = (decide (v.nm.size = 0) || isNm v.nm) := by unfold nmOk; rw [h]; rfl
theorem nm_32 {v : V} {c : Bool} (h : v.k = 32) : nmOk c v = (decide (v.nm.size = 0) || isNm v.nm) := by unfold nmOk; rw [h]; rfl
theorem nm_35 {v : V} {c : Bool} (h : v.k = 35) : nmOk c v = (if c then isNm v.nm else decide (v.nm.size = 0)) := by unfold nmOk; rw [h]; rfl
theorem nm_38 {v : V} {c : Bool} (h : v.k = 38) : nmOk c v = isNm v.nm := by unfold nmOk; rw [h]; rfl
theorem nm_39 {v : V} {c : Bool} (h : v.k = 39) : nmOk c v = isNm v.nm := by unfold nmOk; rw [h]; rfl
theorem nm_1 {v : V} {c : Bool} (h : v.k = 1) : nmOk c v = decide (v.nm.size = 0) := by unfold nmOk; rw [h]; rfl
theorem nm_2 {v : V} {c : Bool} (h : v.k = 2) : nmOk c v = decide (v.nm.size = 0) := by unfold nmOk; rw [h]; rfl
theorem nm_6 {v : V} {c : Bool} (h : v.k = 6) : nmOk c v = decide (v.nm.size = 0) := by unfold nmOk; rw [h]; rfl
theorem nm_9 {v : V} {c : Bool} (h : v.k = 9) : nmOk c v = decide (v.nm.size = 0) := by unfold nmOk; rw [h]; rfl
end Go.Proofs.Ytgehgccgologpaa.R
