/-
  A text of plain bytes as units; Text, the program's and the reference's.
-/
import Derived.Test.YtjgafhodogbemaaDoorG
import Derived.Lib.ItoaLen
import Derived.Shelf.Strconv.Itoa4
namespace Go.Proofs.YtjgafhodogbemaaDoor.N
open Go.RowKit Go.Proofs.YtjgafhodogbemaaDoor

/-- the library's table of powers -/
def Tab (w : World) : Prop := Lib.TabIs Tryd.prog w "internal/strconv.uint64pow10" .u64 Lib.pow10Tab
theorem globPow : Tryd.prog.globalNamed "internal/strconv.uint64pow10" = some 0 := by kernel_rfl
theorem Tab.lt {w : World} (h : Tab w) : 0 < w.heap.size := by
  unfold Tab Lib.TabIs World.var? at h
  rw [globPow] at h
  simp only [Option.bind_some] at h
  rcases Nat.lt_or_ge 0 w.heap.size with h' | h'
  · exact h'
  · rw [Array.getElem?_eq_none h'] at h; simp at h
theorem Tab.below {w w' : World} (h : Tab w) (hb : Below w.heap.size w w') : Tab w' := by
  have hq := hb.block _ h.lt
  unfold Tab Lib.TabIs World.var? at *
  rw [globPow] at *
  simp only [Option.bind_some] at *
  rw [hq]
  exact h
theorem below_grow (w : World) (k : Nat) (os : Array Obj) : Below w.heap.size w (Sort.grow (w.drewN k) os) := by
  cases k with
  | zero => exact ⟨rfl, rfl, rfl, by simp [Sort.grow], fun b hb => by simp [Sort.grow, Array.getElem?_append_left hb]⟩
  | succ k => exact ⟨rfl, rfl, rfl, by simp [Sort.grow], fun b hb => by simp [Sort.grow, Array.getElem?_append_left hb]⟩
/-- plain bytes -/
def Asc (l : Bs) : Prop := ∀ c ∈ l, c.toNat < 128
def un (l : Bs) : List Nat := l.map (·.toNat)
theorem un_un (l : Bs) : Un (un l) := fun n hn => by
  unfold un at hn
  obtain ⟨c, _, rfl⟩ := List.mem_map.1 hn
  have := c.toNat_lt
  omega
theorem ofRes_asc {l : Bs} (h : Asc l) : ofRes l = .tuple #[.string (bz (un l)), .int .i64 0] := by
  unfold ofRes
  rw [if_pos (List.all_eq_true.2 fun c hc => decide_eq_true (by have := h c hc; omega))]
  rfl
theorem asc_dec : ∀ u : Nat, Asc (Lib.decDigits u) := by
  intro u
  induction u using Nat.strongRecOn with
  | _ u ih =>
    intro c hc
    rw [Lib.decDigits] at hc
    split at hc
    · rw [List.mem_singleton] at hc
      rw [hc, UInt8.toNat_ofNat']
      omega
    · rcases List.mem_append.1 hc with hc | hc
      · exact ih (u / 10) (by omega) c hc
      · rw [List.mem_singleton] at hc
        rw [hc, UInt8.toNat_ofNat']
        omega
theorem asc_itoa (n : Int) : Asc (Lib.itoa n) := by
  unfold Lib.itoa
  split
  · intro c hc
    rcases List.mem_cons.1 hc with rfl | hc
    · decide
    · exact asc_dec _ c hc
  · exact asc_dec _
theorem mk_list (l : Bs) : (ByteArray.mk l.toArray).data.toList = l := by simp
theorem mk_size (l : Bs) : (ByteArray.mk l.toArray).size = l.length := by rw [← size_list, mk_list]
theorem u_any {l : Bs} (h : Asc l) (hl : l.length ≤ 16777216) (w : World) :
    Calls Tryd.prog 32 #[.string ⟨l.toArray⟩] w fun e w' => e = .returned (.string (bz (un l))) ∧ Below w.heap.size w w' := by
  have HO : Hid (∀ w, Calls Tryd.prog 46 #[.string ⟨l.toArray⟩] w fun e w' => e = .returned (.tuple #[.string (bz (un l)), .int .i64 0]) ∧ Below w.heap.size w w') := Lib.hid fun w => by
    have := refOf_any ⟨l.toArray⟩ w (by rw [mk_size]; exact hl)
    rw [mk_list, ofRes_asc h] at this
    exact this
  clear h hl
  generalize bz (un l) = t at *
  generalize ByteArray.mk l.toArray = s at *
  go_enter Tryd.func32, Tryd.ntmps32
  go_wp2_with fail
  refine (HO.out _).mono ?_
  rintro e w1 ⟨rfl, hb1⟩
  go_wp2_with fail
  go_ret
  exact ⟨rfl, hb1⟩
/-- a number's text -/
def tx (n : Int) : ByteArray := bz (un (Lib.itoa n))
theorem text_any (n : Int) (h1 : -9223372036854775808 ≤ n) (h2 : n ≤ 9223372036854775807) (w : World) (hT : Tab w) :
    Calls Tryd.prog 24 #[.int .i64 n] w fun e w' => e = .returned (.string (tx n)) ∧ Below w.heap.size w w' := by
  have HF : Hid (Calls Tryd.prog 43 #[.int .i64 n, .int .i64 10] w fun e w' => e = .returned (.string ⟨(Lib.itoa n).toArray⟩) ∧ Below w.heap.size w w') := Lib.hid
    ((Tryd.strconv_FormatInt_10 n h1 h2 w hT).mono fun e w' ⟨h1, h2⟩ => ⟨h1, by obtain ⟨k, os, rfl⟩ := h2; exact below_grow w k os⟩)
  have HO : Hid (∀ w, Calls Tryd.prog 44 #[.string ⟨(Lib.itoa n).toArray⟩] w fun e w' => e = .returned (.tuple #[.string (tx n), .int .i64 0]) ∧ Below w.heap.size w w') := Lib.hid fun w => by
    have hl := Lib.itoa_length_le n h1 h2
    have := of_any ⟨(Lib.itoa n).toArray⟩ w (by rw [mk_size]; omega)
    rw [mk_list, ofRes_asc (asc_itoa n)] at this
    exact this
  clear h1 h2 hT
  generalize tx n = t at *
  generalize ByteArray.mk (Lib.itoa n).toArray = s at *
  go_enter Tryd.func24, Tryd.ntmps24
  go_wp2_with fail
  refine HF.out.mono ?_
  rintro e w1 ⟨rfl, hb1⟩
  go_wp2_with fail
  refine (HO.out _).mono ?_
  rintro e w2 ⟨rfl, hb2⟩
  go_wp2_with fail
  go_ret
  exact ⟨rfl, hb1.trans (hb2.mono hb1.size)⟩
end Go.Proofs.YtjgafhodogbemaaDoor.N
