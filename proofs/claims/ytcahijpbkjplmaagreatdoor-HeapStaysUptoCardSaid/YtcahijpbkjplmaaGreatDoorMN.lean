/-
  Units' keys as strings; U, indexKey, Clone, by contract.
-/
import Derived.Test.YtcahijpbkjplmaaGreatDoorMUD
import Derived.Test.YtcahijpbkjplmaaGreatDoorMHe
import Derived.Lib.ItoaLen
import Derived.Shelf.Strconv.Itoa4
namespace Go.Proofs.YtcahijpbkjplmaaGreatDoor.G
open Go.RowKit Go.Proofs.YtcahijpbkjplmaaGreatDoor

/-- units as a string -/
def bz (u : List Nat) : ByteArray := ⟨(bs u).toArray⟩
def Un (u : List Nat) : Prop := ∀ n ∈ u, n < 65536
theorem bz_list (u : List Nat) : (bz u).data.toList = bs u := by unfold bz; simp
theorem bz_us {u : List Nat} (h : Un u) : us (bz u).data.toList = u := by rw [bz_list, us_bs u h]
theorem bz_size (u : List Nat) : (bz u).size = 2 * u.length := by rw [← size_list, bz_list, bs_length]
/-- the library's table of powers -/
def Tab (w : World) : Prop := Lib.TabIs Tryz.prog w "internal/strconv.uint64pow10" .u64 Lib.pow10Tab
theorem globPow : Tryz.prog.globalNamed "internal/strconv.uint64pow10" = some 0 := by kernel_rfl
theorem Tab.lt {w : World} (h : Tab w) : 0 < w.heap.size := by
  unfold Tab Lib.TabIs World.var? at h
  rw [globPow] at h
  simp only [Option.bind_some] at h
  rcases Nat.lt_or_ge 0 w.heap.size with h' | h'
  · exact h'
  · rw [Array.getElem?_eq_none h'] at h; simp at h
theorem Tab.same {w w' : World} (h : Tab w) (hq : w'.heap[(0 : Nat)]? = w.heap[(0 : Nat)]?) : Tab w' := by
  unfold Tab Lib.TabIs World.var? at *
  rw [globPow] at *
  simp only [Option.bind_some] at *
  rw [hq]
  exact h
theorem Tab.below {w w' : World} (h : Tab w) (hb : Below w.heap.size w w') : Tab w' := h.same (hb.block _ h.lt)
theorem below_grow (w : World) (k : Nat) (os : Array Obj) : Below w.heap.size w (Sort.grow (w.drewN k) os) := by
  cases k with
  | zero => exact ⟨rfl, rfl, rfl, by simp [Sort.grow], fun b hb => by simp [Sort.grow, Array.getElem?_append_left hb]⟩
  | succ k => exact ⟨rfl, rfl, rfl, by simp [Sort.grow], fun b hb => by simp [Sort.grow, Array.getElem?_append_left hb]⟩
/-- plain bytes -/
def Asc (l : Bs) : Prop := ∀ c ∈ l, c.toNat < 128
def un (l : Bs) : List Nat := l.map (·.toNat)
theorem un_un (l : Bs) : Un (un l) := fun n hn => by
  unfold un at hn
  obtain ⟨c, _, rfl⟩ := List.mem_map.1 hn
  have := c.toNat_lt
  omega
theorem ofRes_asc {l : Bs} (h : Asc l) : ofRes l = .tuple #[.string (bz (un l)), .int .i64 0] := by
  unfold ofRes
  rw [if_pos (List.all_eq_true.2 fun c hc => decide_eq_true (by have := h c hc; omega))]
  rfl
theorem asc_dec : ∀ u : Nat, Asc (Lib.decDigits u) := by
  intro u
  induction u using Nat.strongRecOn with
  | _ u ih =>
    intro c hc
    rw [Lib.decDigits] at hc
    split at hc
    · rw [List.mem_singleton] at hc
      rw [hc, UInt8.toNat_ofNat']
      omega
    · rcases List.mem_append.1 hc with hc | hc
      · exact ih (u / 10) (by omega) c hc
      · rw [List.mem_singleton] at hc
        rw [hc, UInt8.toNat_ofNat']
        omega
theorem mk_list (l : Bs) : (ByteArray.mk l.toArray).data.toList = l := by simp
theorem mk_size (l : Bs) : (ByteArray.mk l.toArray).size = l.length := by rw [← size_list, mk_list]
theorem u_any {l : Bs} (h : Asc l) (hl : l.length ≤ 16777216) (w : World) :
    Calls Tryz.prog 16 #[.string ⟨l.toArray⟩] w fun e w' => e = .returned (.string (bz (un l))) ∧ Below w.heap.size w w' := by
  have HO : Hid (∀ w, Calls Tryz.prog 50 #[.string ⟨l.toArray⟩] w fun e w' => e = .returned (.tuple #[.string (bz (un l)), .int .i64 0]) ∧ Below w.heap.size w w') := Lib.hid fun w => by
    have := refOf_any ⟨l.toArray⟩ w (by rw [mk_size]; exact hl)
    rw [mk_list, ofRes_asc h] at this
    exact this
  clear h hl
  generalize bz (un l) = t at *
  generalize ByteArray.mk l.toArray = s at *
  go_enter Tryz.func16, Tryz.ntmps16
  go_wp2_with fail
  refine (HO.out _).mono ?_
  rintro e w1 ⟨rfl, hb1⟩
  go_wp2_with fail
  go_ret
  exact ⟨rfl, hb1⟩
/-- which keys are indexes; an index as a key; the key 'length'; the class of Arrays -/
def ix (s : ByteArray) : Option Nat := idx (us s.data.toList)
def dx (n : Nat) : ByteArray := bz (un (Lib.decDigits n))
def LK : ByteArray := ⟨#[0, 108, 0, 101, 0, 110, 0, 103, 0, 116, 0, 104]⟩
def AR : ByteArray := ⟨#[65, 114, 114, 97, 121]⟩
theorem lk_eq : bz (un [108, 101, 110, 103, 116, 104]) = LK := by decide +kernel
theorem ulen_any (w : World) :
    Calls Tryz.prog 16 #[.string ⟨#[108, 101, 110, 103, 116, 104]⟩] w fun e w' => e = .returned (.string LK) ∧ Below w.heap.size w w' := by
  have := u_any (l := [108, 101, 110, 103, 116, 104]) (fun c hc => by simp only [List.mem_cons, List.not_mem_nil, or_false] at hc; rcases hc with rfl | rfl | rfl | rfl | rfl | rfl <;> decide) (by decide) w
  rw [lk_eq] at this
  exact this
theorem itoa_nat (n : Nat) : Lib.itoa (n : Int) = Lib.decDigits n := by
  unfold Lib.itoa
  rw [if_neg (by omega)]
  rfl
theorem dec_len (n : Nat) (hn : n ≤ 9223372036854775807) : (Lib.decDigits n).length ≤ 21 := by
  rw [← itoa_nat]
  exact Lib.itoa_length_le (n : Int) (by omega) (by omega)
theorem indexKey_any (n : Nat) (hn : n ≤ 9223372036854775807) (w : World) (hT : Tab w) :
    Calls Tryz.prog 65 #[.int .i64 (n : Int)] w fun e w' => e = .returned (.string (dx n)) ∧ Below w.heap.size w w' := by
  have HF : Hid (Calls Tryz.prog 88 #[.int .i64 (n : Int)] w fun e w' => e = .returned (.string ⟨(Lib.itoa (n : Int)).toArray⟩) ∧ Below w.heap.size w w') := Lib.hid
    ((Tryz.strconv_Itoa (n : Int) (by omega) (by omega) w hT).mono fun e w' ⟨h1, h2⟩ => ⟨h1, by obtain ⟨k, os, rfl⟩ := h2; exact below_grow w k os⟩)
  have HO : Hid (∀ w, Calls Tryz.prog 87 #[.string ⟨(Lib.itoa (n : Int)).toArray⟩] w fun e w' => e = .returned (.tuple #[.string (dx n), .int .i64 0]) ∧ Below w.heap.size w w') := Lib.hid fun w => by
    have hl := dec_len n hn
    rw [itoa_nat]
    have := of_any ⟨(Lib.decDigits n).toArray⟩ w (by rw [mk_size]; omega)
    rw [mk_list, ofRes_asc (asc_dec n)] at this
    exact this
  clear hn hT
  generalize dx n = t at *
  generalize ByteArray.mk (Lib.itoa (n : Int)).toArray = s at *
  go_enter Tryz.func65, Tryz.ntmps65
  go_wp2_with fail
  refine HF.out.mono ?_
  rintro e w1 ⟨rfl, hb1⟩
  go_wp2_with fail
  refine (HO.out _).mono ?_
  rintro e w2 ⟨rfl, hb2⟩
  go_wp2_with fail
  go_ret
  exact ⟨rfl, hb1.trans (hb2.mono hb1.size)⟩
end Go.Proofs.YtcahijpbkjplmaaGreatDoor.G
