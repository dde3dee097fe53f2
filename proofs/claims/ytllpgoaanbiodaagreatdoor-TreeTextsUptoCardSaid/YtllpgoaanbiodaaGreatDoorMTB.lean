/-
 Laid by wip/prune.py out of wip/token: P Q.
 Laid by wip/prune.py out of wip/token: A B C D E.
-/
import Derived.Test.YtllpgoaanbiodaaGreatDoorProg
import Derived.Test.YtllpgoaanbiodaaGreatDoorMUG
import Derived.Test.YtllpgoaanbiodaaGreatDoorShelf
import Derived.Lib.IndexMore
import Derived.Lib.IndexLaws
set_option maxHeartbeats 2000000
set_option maxRecDepth 8000
namespace Go.Proofs.YtllpgoaanbiodaaGreatDoor.T
open Go.RowKit
open Go.Proofs.YtllpgoaanbiodaaGreatDoor
def ws (c : UInt8) : Bool := decide (9 ≤ c.toNat ∧ c.toNat ≤ 13 ∨ c.toNat = 32)
def el (c : UInt8) : Bool := decide (c.toNat = 10 ∨ c.toNat = 13)
def dg (c : UInt8) : Bool := decide (48 ≤ c.toNat ∧ c.toNat ≤ 57)
def hx (c : UInt8) : Bool := decide (48 ≤ c.toNat ∧ c.toNat ≤ 57 ∨ 97 ≤ c.toNat ∧ c.toNat ≤ 102 ∨ 65 ≤ c.toNat ∧ c.toNat ≤ 70)
def lt (c : UInt8) : Bool := decide (97 ≤ c.toNat ∧ c.toNat ≤ 122 ∨ 65 ≤ c.toNat ∧ c.toNat ≤ 90 ∨ c.toNat = 95 ∨ c.toNat = 36)
def ib (c : UInt8) : Bool := lt c || dg c
def nel (c : UInt8) : Bool := !el c
def run (p : UInt8 → Bool) : Bs → Nat
 | [] => 0
 | c :: r => if p c then run p r + 1 else 0
theorem run_cons (p : UInt8 → Bool) (c : UInt8) (r : Bs) : run p (c :: r) = if p c then run p r + 1 else 0 := rfl
theorem run_stop {p : UInt8 → Bool} {c : UInt8} {r : Bs} (h : p c = false) : run p (c :: r) = 0 := by
 rw [run_cons, h]; rfl
theorem run_go {p : UInt8 → Bool} {c : UInt8} {r : Bs} (h : p c = true) : run p (c :: r) = run p r + 1 := by
 rw [run_cons, h]; rfl
theorem run_all {p : UInt8 → Bool} : ∀ l : Bs, ∀ b ∈ l.take (run p l), p b = true
 | [], b, h => by simp at h
 | c :: r, b, h => by
  cases hc : p c with
  | false => rw [run_stop hc] at h; simp at h
  | true =>
   rw [run_go hc, List.take_succ_cons, List.mem_cons] at h
   rcases h with rfl | h
   ·exact hc
   ·exact run_all r b h
theorem run_ge {p : UInt8 → Bool} : ∀ {l : Bs} {k : Nat}, k ≤ l.length → (∀ b ∈ l.take k, p b = true) → k ≤ run p l ∧ run p (l.drop k) + k = run p l
 | l, 0, _, _ => ⟨Nat.zero_le _, by simp⟩
 | [], k + 1, h, _ => by simp at h
 | c :: r, k + 1, h, hh => by
  have hc : p c = true := hh c (by simp)
  have := run_ge (l := r) (k := k) (by simpa using h) fun b hb => hh b (by simp [hb])
  rw [run_go hc, List.drop_succ_cons]
  exact ⟨by omega, by omega⟩
theorem run_full {p : UInt8 → Bool} {l : Bs} (h : ∀ b ∈ l, p b = true) : run p l = l.length := by
 induction l with
 | nil => rfl
 | cons c r ih => rw [run_go (h c (by simp)), ih fun b hb => h b (by simp [hb])]; rfl
theorem run_eq {p : UInt8 → Bool} {l : Bs} {k : Nat} (hk : k < l.length) (h : ∀ b ∈ l.take k, p b = true) (hn : p l[k] = false) : run p l = k := by
 obtain ⟨_, h2⟩ := run_ge (Nat.le_of_lt hk) h
 have e : l.drop k = l[k] :: l.drop (k + 1) := List.drop_eq_getElem_cons hk
 rw [e, run_stop hn] at h2
 omega
def fin : Bs → Option Nat
 | [] => none
 | c :: r => if c = 42 ∧ r.head? = some 47 then some 0 else (fin r).map (· + 1)
def ws1 (l : Bs) : Option (Option Nat) :=
 match l with
 | [] => some none
 | c :: r =>
  if ws c then some (some 1)
  else if c = 47 ∧ r.head? = some 47 then some (some (run nel (c :: r)))
  else if c = 47 ∧ r.head? = some 42 then (match fin (r.drop 1) with
   | some j => some (some (j + 4))
   | none => none)
  else some none
def words : List Bs := [[98, 114, 101, 97, 107], [99, 97, 115, 101], [99, 97, 116, 99, 104], [99, 108, 97, 115, 115], [99, 111, 110, 115, 116], [99, 111, 110, 116, 105, 110, 117, 101], [100, 101, 98, 117, 103, 103, 101, 114], [100, 101, 102, 97, 117, 108, 116], [100, 101, 108, 101, 116, 101], [100, 111], [101, 108, 115, 101], [101, 110, 117, 109], [101, 120, 112, 111, 114, 116], [101, 120, 116, 101, 110, 100, 115], [102, 97, 108, 115, 101], [102, 105, 110, 97, 108, 108, 121], [102, 111, 114], [102, 117, 110, 99, 116, 105, 111, 110], [105, 102], [105, 109, 112, 108, 101, 109, 101, 110, 116, 115], [105, 109, 112, 111, 114, 116], [105, 110], [105, 110, 115, 116, 97, 110, 99, 101, 111, 102], [105, 110, 116, 101, 114, 102, 97, 99, 101], [108, 101, 116], [110, 101, 119], [110, 117, 108, 108], [112, 97, 99, 107, 97, 103, 101], [112, 114, 105, 118, 97, 116, 101], [112, 114, 111, 116, 101, 99, 116, 101, 100], [112, 117, 98, 108, 105, 99], [114, 101, 116, 117, 114, 110], [115, 116, 97, 116, 105, 99], [115, 117, 112, 101, 114], [115, 119, 105, 116, 99, 104], [116, 104, 105, 115], [116, 104, 114, 111, 119], [116, 114, 117, 101], [116, 114, 121], [116, 121, 112, 101, 111, 102], [118, 97, 114], [118, 111, 105, 100], [119, 104, 105, 108, 101], [119, 105, 116, 104], [121, 105, 101, 108, 100]]
def isW (l : Bs) : Bool := words.contains l
def signs : List Bs := [[61, 61, 61], [33, 61, 61], [60, 61], [62, 61], [61, 61], [33, 61], [43, 43], [45, 45], [38, 38], [124, 124], [43, 61], [45, 61], [42, 61], [47, 61], [37, 61], [123], [125], [40], [41], [91], [93], [46], [59], [44], [60], [62], [43], [45], [42], [47], [37], [33], [63], [58], [61]]
def sg (l : Bs) : Option Bs := signs.find? (·.isPrefixOf l)
def isI (l : Bs) : Bool := match l with
 | [] => false
 | c :: _ => decide (l.length ≤ 32) && (!dg c && l.all ib)
def dv (c : UInt8) : Nat := if c.toNat ≤ 57 then c.toNat - 48 else if 97 ≤ c.toNat then c.toNat - 87 else c.toNat - 55
def val (b : Nat) : Nat → Bs → Nat
 | acc, [] => acc
 | acc, c :: r => val b (acc * b + dv c) r
def isH (l : Bs) : Bool := match l with
 | a :: x :: d :: _ => decide (a = 48) && (decide (x = 120 ∨ x = 88) && hx d)
 | _ => false
def nparts (l : Bs) : Bs × Nat × Nat :=
 if isH l then ((l.drop 2).take (run hx (l.drop 2)), 16, 2 + run hx (l.drop 2))
 else if l.head? = some 48 then ([48], 10, 1)
 else (l.take (run dg l), 10, run dg l)
def free (l : Bs) : Bool := match l with
 | [] => true
 | c :: _ => !(ib c || decide (c = 46))
def num (l : Bs) : Option (Nat × Nat) :=
 if 9007199254740991 < val (nparts l).2.1 0 (nparts l).1 then none
 else if free (l.drop (nparts l).2.2) then some (val (nparts l).2.1 0 (nparts l).1, (nparts l).2.2) else none
structure Tok where
 k : Nat
 t : Bs
 n : Nat
 deriving DecidableEq
def one (l : Bs) : Option (Tok × Nat) :=
 match l with
 | [] => none
 | c :: _ =>
  if dg c then (num l).map fun x => (⟨3, [], x.1⟩, x.2)
  else if ib c then (if 32 < run ib l then none else some (⟨if isW (l.take (run ib l)) then 2 else 1, l.take (run ib l), 0⟩, run ib l))
  else if c = 39 ∨ c = 34 then (read l).map fun x => (⟨4, bs x.1, 0⟩, x.2)
  else (sg l).map fun g => (⟨5, g, 0⟩, g.length)
structure Tk where
 k : Int
 t : Bs
 n : Int
 a : Int
 f : Bool
 deriving DecidableEq
open Go.Proofs.YtllpgoaanbiodaaGreatDoor
end Go.Proofs.YtllpgoaanbiodaaGreatDoor.T
namespace Go.Proofs.YtllpgoaanbiodaaGreatDoor.T
open Go.RowKit
open Go.RowKit Go.Proofs.YtllpgoaanbiodaaGreatDoor
abbrev Asks (f : Nat) (p : UInt8 → Bool) : Prop := ∀ (c : UInt8) (w : World), Calls Tryz.prog f #[.int .u8 (c.toNat : Nat)] w fun e w' => e = .returned (.bool (p c)) ∧ w = w'
theorem isDigit_any : Asks 103 dg := fun c w => by
 obtain ⟨n, hn⟩ : ∃ n, c.toNat = n := ⟨_, rfl⟩
 have HD : Hid (dg c = decide (48 ≤ n ∧ n ≤ 57)) := Lib.hid (by rw [← hn]; rfl)
 rw [hn]
 go_enter Tryz.func103, Tryz.ntmps103
 go_wp2
 all_goals go_ret
 all_goals exact ⟨ret_bool (by rw [HD.out, Bool.eq_iff_iff]; simp; omega), rfl⟩
theorem refDigit_any : Asks 109 dg := fun c w => by
 obtain ⟨n, hn⟩ : ∃ n, c.toNat = n := ⟨_, rfl⟩
 have HD : Hid (dg c = decide (48 ≤ n ∧ n ≤ 57)) := Lib.hid (by rw [← hn]; rfl)
 rw [hn]
 go_enter Tryz.func109, Tryz.ntmps109
 go_wp2
 all_goals go_ret
 all_goals exact ⟨ret_bool (by rw [HD.out, Bool.eq_iff_iff]; simp; omega), rfl⟩
theorem isIdentByte_any : Asks 105 ib := fun c w => by
 have HDg := Lib.hid (isDigit_any c)
 obtain ⟨n, hn⟩ : ∃ n, c.toNat = n := ⟨_, rfl⟩
 have hD : ib c = (decide (97 ≤ n ∧ n ≤ 122 ∨ 65 ≤ n ∧ n ≤ 90 ∨ n = 95 ∨ n = 36) || dg c) := by rw [← hn]; rfl
 have HD := Lib.hid hD
 rw [hn] at HDg
 rw [hn]
 clear hD hn
 generalize dg c = d at *
 cases d
 all_goals
  go_enter Tryz.func105, Tryz.ntmps105
  go_wp2_with (go_at_call 103; refine (HDg.out _).mono ?_; rintro e w' ⟨rfl, rfl⟩)
  all_goals go_ret
  all_goals exact ⟨ret_bool (by rw [HD.out, Bool.eq_iff_iff]; simp; try omega), rfl⟩
theorem refLetter_any : Asks 110 lt := fun c w => by
 obtain ⟨n, hn⟩ : ∃ n, c.toNat = n := ⟨_, rfl⟩
 have HD : Hid (lt c = decide (97 ≤ n ∧ n ≤ 122 ∨ 65 ≤ n ∧ n ≤ 90 ∨ n = 95 ∨ n = 36)) := Lib.hid (by rw [← hn]; rfl)
 rw [hn]
 go_enter Tryz.func110, Tryz.ntmps110
 go_wp2
 all_goals go_ret
 all_goals exact ⟨ret_bool (by rw [HD.out, Bool.eq_iff_iff]; simp; try omega), rfl⟩
open Go.RowKit Go.Proofs.YtllpgoaanbiodaaGreatDoor
theorem sizeOf_ib (s : ByteArray) (w : World) (hs : s.size ≤ 9223372036854775807) :
  Calls Tryz.prog 104 #[.string s, .func (.func 105) #[] #[]] w fun e w' => e = .returned (.int .i64 (run ib s.data.toList : Nat)) ∧ w = w' := by
 have HA : Hid (Asks 105 ib) := Lib.hid isIdentByte_any
 go_enter Tryz.func104, Tryz.ntmps104
 go_wp2_with fail
 go_loopw [8] (fun i wr => ∃ j : Nat, j ≤ s.size ∧ i = .int .i64 j ∧ Hid (∀ b ∈ s.data.toList.take j, ib b = true) ∧ w = wr)
  (fun i _ => s.size - (intOf i).toNat)
 case atStart => exact ⟨0, Nat.zero_le _, rfl, Lib.hid (by simp), rfl⟩
 case round =>
  obtain ⟨j, hj, rfl, hh, rfl⟩ := hrel
  by_cases hlt : j < s.size
  ·have hlt' : j < s.data.toList.length := by rw [size_list]; exact hlt
   have hget : s.data.toList[j]? = some s.data.toList[j] := List.getElem?_eq_getElem hlt'
   have ix := fun w => index_run s j _ w hget
   have HE := Lib.hid fun h => run_eq (p := ib) hlt' hh.out h
   have HS : Hid (ib s.data.toList[j] = true → ∀ b ∈ s.data.toList.take (j + 1), ib b = true) := Lib.hid fun h b hb => by
    rw [List.take_succ_eq_append_getElem hlt', List.mem_append, List.mem_singleton] at hb
    rcases hb with hb | rfl
    ·exact hh.out b hb
    ·exact h
   generalize s.data.toList[j] = c at *
   have HC := Lib.hid (HA.out c)
   clear hget hh
   cases hc : ib c with
   | false =>
    rw [hc] at HC
    have HV := Lib.hid (HE.out hc)
    clear hc HE HS hlt'
    go_wp2_with (go_at_call 105; refine (HC.out _).mono ?_; rintro e w' ⟨rfl, rfl⟩)
    go_ret
    exact ⟨by rw [HV.out]; rfl, rfl⟩
   | true =>
    rw [hc] at HC
    have HV := Lib.hid (HS.out hc)
    clear hc HE HS hlt'
    go_wp2_with (go_at_call 105; refine (HC.out _).mono ?_; rintro e w' ⟨rfl, rfl⟩)
    go_roundw
    case rel => exact ⟨j + 1, by omega, by go_num, HV, by first | rfl | trivial⟩
    case measure => simp [intOf]; omega
  ·obtain rfl : j = s.size := by omega
   have HV : Hid (run ib s.data.toList = s.size) := Lib.hid (by
    rw [← size_list]
    refine run_full fun b hb => hh.out b ?_
    rw [List.take_of_length_le (by rw [size_list]; exact Nat.le_refl _)]
    exact hb)
   go_wp2_with fail
   go_ret
   exact ⟨by rw [HV.out]; rfl, rfl⟩
open Go.RowKit Go.Proofs.YtllpgoaanbiodaaGreatDoor
theorem hitW {s : ByteArray} {l : Bs} (h : (s.toList == l) = true) (hl : isW l = true) : isW s.data.toList = true := by
 rw [← Lib.toList_data, eq_of_beq h]; exact hl
theorem noBoth {b : Bool} {p : Prop} (h1 : b = true) (h2 : b = false) : p := by rw [h1] at h2; cases h2
theorem isWord_any (s : ByteArray) (w : World) :
  Calls Tryz.prog 102 #[.string s] w fun e w' => e = .returned (.bool (isW s.data.toList)) ∧ w = w' := by
 go_enter Tryz.func102, Tryz.ntmps102
 go_wp2
 all_goals first
  | (exfalso; exact noBoth (by assumption) (by assumption))
  | (go_ret; exact ⟨ret_bool (hitW (by assumption) (by decide +kernel)).symm, rfl⟩)
  | (go_ret; exact ⟨ret_bool (by symm; rw [← Lib.toList_data]; simp only [isW, words, List.contains_cons, List.contains_nil, *, Bool.or_false]), rfl⟩)
open Go.RowKit Go.Proofs.YtllpgoaanbiodaaGreatDoor
def strsO (l : List Bs) : Obj := .cells ((l.map fun x => Value.string ⟨x.toArray⟩).toArray) 9
theorem strs_at (w : World) (l : List Bs) (j : Nat) (h : j < l.length) : (w.alloc (strsO l)).cell? ⟨w.heap.size, j, none⟩ = some (.string ⟨l[j].toArray⟩) := by
 unfold strsO
 rw [World.cell?_alloc_at _ _ _ _ rfl]
 simp [h]
theorem words_any (w : World) : Calls Tryz.prog 112 #[] w fun e w' => e = .returned (.slice (some ⟨w.heap.size, 0, none⟩) 45 45) ∧ w' = w.alloc (strsO words) := by
 go_enter Tryz.func112, Tryz.ntmps112
 go_wp2
 go_ret
 exact ⟨rfl, rfl⟩
theorem words_len : words.length = 45 := rfl
theorem isW_yes {l : Bs} {j : Nat} (h : j < words.length) (e : l = words[j]) : isW l = true := by
 unfold isW
 rw [List.contains_iff_mem, e]
 exact List.getElem_mem h
theorem isW_no {l : Bs} (h : ∀ i (h : i < words.length), ¬ l = words[i]) : isW l = false := by
 rw [Bool.eq_false_iff]
 intro hc
 unfold isW at hc
 rw [List.contains_iff_mem] at hc
 obtain ⟨i, hi, e⟩ := List.getElem_of_mem hc
 exact h i hi e.symm
theorem refIsWord_any (s : ByteArray) (w : World) :
  Calls Tryz.prog 72 #[.string s] w fun e w' => e = .returned (.bool (isW s.data.toList)) ∧ Below w.heap.size w w' := by
 have HW := Lib.hid words_any
 have HC := Lib.hid (strs_at w words)
 have HB := Lib.hid ((Below.refl _ _).alloc (Nat.le_refl _) (strsO words) : Below w.heap.size w (w.alloc (strsO words)))
 have HL := Lib.hid words_len
 have HY := Lib.hid (fun j h e => isW_yes (l := s.data.toList) (j := j) h e)
 have HN := Lib.hid (fun h => isW_no (l := s.data.toList) h)
 generalize isW s.data.toList = b at *
 generalize words = ws at *
 go_enter Tryz.func72, Tryz.ntmps72
 go_wp2_with (go_at_call 112; refine (HW.out _).mono ?_; rintro e w' ⟨rfl, rfl⟩)
 generalize w.alloc (strsO ws) = w1 at *
 go_loopw [7] (fun i wr => ∃ j : Nat, j ≤ 45 ∧ i = .int .i64 j ∧ Hid (∀ i, i < j → (h : i < ws.length) → ¬ s.data.toList = ws[i]) ∧ w1 = wr)
  (fun i _ => 45 - (intOf i).toNat)
 case atStart => exact ⟨0, Nat.zero_le _, rfl, Lib.hid fun i hi => by omega, rfl⟩
 case round =>
  obtain ⟨j, hj, rfl, hh, rfl⟩ := hrel
  by_cases hlt : j < 45
  ·have hlt' : j < ws.length := by rw [HL.out]; exact hlt
   have hc := HC.out j hlt'
   have hlti : (j : Int) < 45 := by omega
   by_cases he : s.data.toList = ws[j]
   ·have hq : (s.toList == (⟨ws[j].toArray⟩ : ByteArray).toList) = true := by
     rw [Lib.toList_data, Lib.toList_data, he]
     exact beq_self_eq_true _
    have hV := HY.out j hlt' he
    subst hV
    clear he HY HN
    generalize (⟨ws[j].toArray⟩ : ByteArray) = x at *
    go_wp2_with fail
    go_ret
    exact ⟨rfl, HB.out⟩
   ·have hq : (s.toList == (⟨ws[j].toArray⟩ : ByteArray).toList) = false := by
     rw [Lib.toList_data, Lib.toList_data, beq_eq_false_iff_ne]
     exact he
    have HS : Hid (∀ i, i < j + 1 → (h : i < ws.length) → ¬ s.data.toList = ws[i]) := Lib.hid fun i hi h => by
     rcases Nat.lt_succ_iff_lt_or_eq.1 hi with hi | rfl
     ·exact hh.out i hi h
     ·exact he
    clear he
    generalize (⟨ws[j].toArray⟩ : ByteArray) = x at *
    go_wp2_with fail
    go_roundw
    case rel => exact ⟨j + 1, by omega, by go_num, HS, by first | rfl | trivial⟩
    case measure => simp [intOf]; omega
  ·obtain rfl : j = 45 := by omega
   have hV := HN.out fun i h => hh.out i (by rw [HL.out] at h; exact h) h
   subst hV
   go_wp2_with fail
   go_ret
   exact ⟨rfl, HB.out⟩
open Go.RowKit Go.Proofs.YtllpgoaanbiodaaGreatDoor
theorem all_run (l : Bs) : l.all ib = decide (run ib l = l.length) := by
 rw [Bool.eq_iff_iff, decide_eq_true_iff, List.all_eq_true]
 constructor
 ·exact run_full
 ·intro h b hb
  have := run_all (p := ib) l b
  rw [h, List.take_length] at this
  exact this hb
theorem list_nil {s : ByteArray} (h : s.data.toList = []) : s = ⟨#[]⟩ := by
 apply ByteArray.ext; apply Array.toList_inj.1; exact h
theorem bI (a b : Nat) (x : Bool) (h : x = decide (a = b)) : ((a : Int) == (b : Int)) = x := by
 rw [h, Bool.eq_iff_iff, beq_iff_eq, decide_eq_true_iff]
 omega
theorem isI_cons (c : UInt8) (r : Bs) : isI (c :: r) = (decide ((c :: r).length ≤ 32) && (!dg c && (c :: r).all ib)) := rfl
theorem isIdent_any (s : ByteArray) (w : World) (hs : s.size ≤ 9223372036854775807) :
  Calls Tryz.prog 53 #[.string s] w fun e w' => e = .returned (.bool (isI s.data.toList)) ∧ w = w' := by
 cases hl : s.data.toList with
 | nil =>
  obtain rfl := list_nil hl
  go_enter Tryz.func53, Tryz.ntmps53
  go_wp2
  go_ret
  exact ⟨rfl, rfl⟩
 | cons c r =>
  have hemp := notEmpty hl
  have i0 : ∀ w, (Instr.index 9 (.string s) (.int .i64 0)).run Tryz.prog w = .ok (.int .u8 (c.toNat : Nat)) w := fun w => index_run s 0 c w (by rw [hl]; rfl)
  have hz : s.size = (c :: r).length := by rw [← hl, size_list]
  by_cases h32 : s.size ≤ 32
  ·have hd := Lib.hid (isDigit_any c)
   have h32' : (s.size : Int) ≤ 32 := by omega
   have hpos : (0 : Int) < (s.size : Int) := by rw [hz]; simp only [List.length_cons]; omega
   cases hdc : dg c with
   | true =>
    rw [hdc] at hd
    have HV : Hid (isI (c :: r) = false) := Lib.hid (by rw [isI_cons, hdc]; simp)
    clear hl hz hdc
    go_enter Tryz.func53, Tryz.ntmps53
    go_wp2_with (go_at_call 103; refine (hd.out _).mono ?_; rintro e w' ⟨rfl, rfl⟩)
    go_ret
    exact ⟨by rw [HV.out]; rfl, rfl⟩
   | false =>
    rw [hdc] at hd
    have HS := Lib.hid (sizeOf_ib s)
    have hq := bI (run ib s.data.toList) s.size (isI (c :: r)) (by
     rw [hl]
     rw [isI_cons, all_run, hdc, decide_eq_true (by rw [← hz]; exact h32), hz]
     simp)
    generalize run ib s.data.toList = k at *
    generalize isI (c :: r) = b at *
    clear hl hz hdc
    go_enter Tryz.func53, Tryz.ntmps53
    go_wp2_with (first
     | (go_at_call 103; refine (hd.out _).mono ?_; rintro e w' ⟨rfl, rfl⟩)
     | (go_at_call 104; refine (HS.out _ (by omega)).mono ?_; rintro e w' ⟨rfl, rfl⟩))
    go_ret
    exact ⟨rfl, rfl⟩
  ·have h32' : 32 < (s.size : Int) := by omega
   have HV : Hid (isI (c :: r) = false) := Lib.hid (by rw [isI_cons, decide_eq_false (by rw [← hz]; exact h32)]; rfl)
   clear hl hz h32
   go_enter Tryz.func53, Tryz.ntmps53
   go_wp2
   go_ret
   exact ⟨by rw [HV.out]; rfl, rfl⟩
theorem refIsIdent_any (s : ByteArray) (w : World) (hs : s.size ≤ 9223372036854775807) :
  Calls Tryz.prog 70 #[.string s] w fun e w' => e = .returned (.bool (isI s.data.toList)) ∧ w = w' := by
 cases hl : s.data.toList with
 | nil =>
  obtain rfl := list_nil hl
  go_enter Tryz.func70, Tryz.ntmps70
  go_wp2
  go_ret
  exact ⟨rfl, rfl⟩
 | cons c r =>
  have i0 : ∀ w, (Instr.index 9 (.string s) (.int .i64 0)).run Tryz.prog w = .ok (.int .u8 (c.toNat : Nat)) w := fun w => index_run s 0 c w (by rw [hl]; rfl)
  have hz : s.size = (c :: r).length := by rw [← hl, size_list]
  have hpos : (1 : Int) ≤ (s.size : Int) := by rw [hz]; simp only [List.length_cons]; omega
  have hpos' : (0 : Int) < (s.size : Int) := by omega
  by_cases h32 : s.size ≤ 32
  ·have hd := Lib.hid (refDigit_any c)
   have h32' : (s.size : Int) ≤ 32 := by omega
   cases hdc : dg c with
   | true =>
    rw [hdc] at hd
    have HV : Hid (isI (c :: r) = false) := Lib.hid (by rw [isI_cons, hdc]; simp)
    clear hl hz hdc
    go_enter Tryz.func70, Tryz.ntmps70
    go_wp2_with (go_at_call 109; refine (hd.out _).mono ?_; rintro e w' ⟨rfl, rfl⟩)
    go_ret
    exact ⟨by rw [HV.out]; rfl, rfl⟩
   | false =>
    rw [hdc] at hd
    have HI : Hid (isI (c :: r) = (c :: r).all ib) := Lib.hid (by rw [isI_cons, hdc, decide_eq_true (by rw [← hz]; exact h32)]; simp)
    have HL : Hid (Asks 110 lt) := Lib.hid refLetter_any
    have HD : Hid (Asks 109 dg) := Lib.hid refDigit_any
    have HLl := Lib.hid hl
    have HIX := Lib.hid (index_run s)
    have HZ := Lib.hid hz
    clear hl hz hdc
    go_enter Tryz.func70, Tryz.ntmps70
    go_wp2_with (go_at_call 109; refine (hd.out _).mono ?_; rintro e w' ⟨rfl, rfl⟩)
    clear hd i0
    go_loopw [3] (fun i wr => ∃ j : Nat, j ≤ s.size ∧ i = .int .i64 j ∧ Hid (∀ b ∈ (c :: r).take j, ib b = true) ∧ w = wr)
     (fun i _ => s.size - (intOf i).toNat)
    case atStart => exact ⟨0, Nat.zero_le _, rfl, Lib.hid (by simp), rfl⟩
    case round =>
     obtain ⟨j, hj, rfl, hh, rfl⟩ := hrel
     by_cases hlt : j < s.size
     ·have hlt' : j < (c :: r).length := by rw [← HZ.out]; exact hlt
      have ij := fun w => HIX.out j _ w (by rw [HLl.out]; exact List.getElem?_eq_getElem hlt')
      have HE : Hid (ib (c :: r)[j] = false → (c :: r).all ib = false) := Lib.hid fun h => by
       rw [Bool.eq_false_iff]
       intro ha
       rw [List.all_eq_true.1 ha _ (List.getElem_mem hlt')] at h
       cases h
      have HS : Hid (ib (c :: r)[j] = true → ∀ b ∈ (c :: r).take (j + 1), ib b = true) := Lib.hid fun h b hb => by
       rw [List.take_succ_eq_append_getElem hlt', List.mem_append, List.mem_singleton] at hb
       rcases hb with hb | rfl
       ·exact hh.out b hb
       ·exact h
      generalize (c :: r)[j] = x at *
      have HC1 := Lib.hid (HL.out x)
      have HC2 := Lib.hid (HD.out x)
      have hxb : ib x = (lt x || dg x) := rfl
      clear hh hlt'
      cases hl1 : lt x with
      | true =>
       rw [hl1] at HC1
       have HV := Lib.hid (HS.out (by rw [hxb, hl1]; rfl))
       clear hl1 HE HS hxb
       go_wp2_with (first | (go_at_call 110; refine (HC1.out _).mono ?_; rintro e w' ⟨rfl, rfl⟩) | (go_at_call 109; refine (HC2.out _).mono ?_; rintro e w' ⟨rfl, rfl⟩))
       go_roundw
       case rel => exact ⟨j + 1, by omega, by go_num, HV, by first | rfl | trivial⟩
       case measure => simp [intOf]; omega
      | false =>
       rw [hl1] at HC1
       cases hd1 : dg x with
       | true =>
        rw [hd1] at HC2
        have HV := Lib.hid (HS.out (by rw [hxb, hl1, hd1]; rfl))
        clear hl1 hd1 HE HS hxb
        go_wp2_with (first | (go_at_call 110; refine (HC1.out _).mono ?_; rintro e w' ⟨rfl, rfl⟩) | (go_at_call 109; refine (HC2.out _).mono ?_; rintro e w' ⟨rfl, rfl⟩))
        go_roundw
        case rel => exact ⟨j + 1, by omega, by go_num, HV, by first | rfl | trivial⟩
        case measure => simp [intOf]; omega
       | false =>
        rw [hd1] at HC2
        have HV := Lib.hid (HE.out (by rw [hxb, hl1, hd1]; rfl))
        clear hl1 hd1 HE HS hxb
        go_wp2_with (first | (go_at_call 110; refine (HC1.out _).mono ?_; rintro e w' ⟨rfl, rfl⟩) | (go_at_call 109; refine (HC2.out _).mono ?_; rintro e w' ⟨rfl, rfl⟩))
        go_ret
        exact ⟨by rw [HI.out, HV.out]; rfl, rfl⟩
     ·obtain rfl : j = s.size := by omega
      have HV : Hid ((c :: r).all ib = true) := Lib.hid (List.all_eq_true.2 fun b hb => hh.out b (by rw [HZ.out, List.take_length]; exact hb))
      go_wp2_with fail
      go_ret
      exact ⟨by rw [HI.out, HV.out]; rfl, rfl⟩
  ·have h32' : 32 < (s.size : Int) := by omega
   have HV : Hid (isI (c :: r) = false) := Lib.hid (by rw [isI_cons, decide_eq_false (by rw [← hz]; exact h32)]; rfl)
   clear hl hz h32
   go_enter Tryz.func70, Tryz.ntmps70
   go_wp2
   go_ret
   exact ⟨by rw [HV.out]; rfl, rfl⟩
end Go.Proofs.YtllpgoaanbiodaaGreatDoor.T
