/-
  The law OctetsCut, by contract.
-/
import Derived.Test.YtjjjbjepgieahaaU
import Derived.Lib.MinMax
namespace Go.Proofs.Ytjjjbjepgieahaa
open Go.RowKit

theorem rem_nat {m n k : Nat} (h : k = m % n) : ((m : Int) % (n : Int)) = (k : Int) := by
  subst h
  simp
theorem len_ne {n : Nat} (h : 0 < n) : ((n : Int) == 0) = false := by rw [beq_eq_false_iff_ne]; omega
set_option maxRecDepth 20000 in
set_option maxHeartbeats 1000000 in
theorem lawCut (n : Nat) (s : ByteArray) (A : Option Addr) (l : Bs) (c : Nat) (at' : Int) (w : World) (hn : n < lim 9) (hs : s.size ≤ 1048576) (hl : l.length ≤ 1048576) (hat : at' ≤ 9223372036854775807) (h : Byt w A l) :
    Calls Try.prog 7 #[.int .u64 n, .string s, .slice A l.length c, .int .i64 at'] w fun e w' => e = .returned (.bool true) ∧ Below w.heap.size w w' := by
  have HN := Lib.hid fun w => num_any n w hn
  have HT := Lib.hid fun w => text_any s w (by omega)
  have HYl : Hid (∀ w', Below w.heap.size w w' → Byt w' A l) := fun w' hb => h.below hb
  have HF : Hid (∀ w', Byt w' A l → Calls Try.prog 20 #[.slice A l.length c] w' (GivesB w' (frame l))) := fun w' hy => frame_any A l c w' hy (by omega)
  have hn1 := num_length n
  have hn2 : (text s.data.toList).length ≤ 10 + s.size ∧ 1 ≤ (text s.data.toList).length := by
    have := num_length s.data.toList.length
    rw [text, List.length_append, size_list] at *
    omega
  have hn3 : (frame l).length = 8 + l.length := frame_length l
  obtain ⟨m, hm⟩ : ∃ m : Nat, max at' 0 = (m : Int) := ⟨(max at' 0).toNat, by omega⟩
  obtain ⟨k1, hk1⟩ : ∃ k1, k1 = m % (num n).length := ⟨_, rfl⟩
  obtain ⟨k2, hk2⟩ : ∃ k2, k2 = m % (text s.data.toList).length := ⟨_, rfl⟩
  obtain ⟨k3, hk3⟩ : ∃ k3, k3 = m % (frame l).length := ⟨_, rfl⟩
  have hlt1 : k1 < (num n).length := by rw [hk1]; exact Nat.mod_lt _ (by omega)
  have hlt2 : k2 < (text s.data.toList).length := by rw [hk2]; exact Nat.mod_lt _ (by omega)
  have hlt3 : k3 < (frame l).length := by rw [hk3]; exact Nat.mod_lt _ (by omega)
  have RN : Hid (∀ A c w, Byt w A (num n) → Calls Try.prog 16 #[.slice A k1 c] w fun e w' => e = .returned (.tuple #[.int .u64 0, .int .i64 0, .int .i64 20]) ∧ w = w') := fun A c w h => by
    have e : ((num n).take k1).length = k1 := by rw [List.length_take]; omega
    have := readNum_any A ((num n).take k1) c w (h.take k1) (by omega)
    rw [rd_cut (by rw [lim_nine] at hn; exact hn) hlt1, e] at this
    exact this
  have RT : Hid (∀ A c w, Byt w A (text s.data.toList) → (text s.data.toList).length ≤ c → Calls Try.prog 18 #[.slice A k2 c, .int .i64 s.size] w fun e w' => e = .returned (.tuple #[.string ⟨#[]⟩, .int .i64 0, .int .i64 20]) ∧ w = w') := fun A c w h hc => by
    have e : ((text s.data.toList).take k2).length = k2 := by rw [List.length_take]; omega
    have := readText_any A ((text s.data.toList).take k2) c s.size w (h.take k2) (by omega) (by omega) (by omega)
    have e1 := rdText_cut (l := s.data.toList) (k := k2) (by rw [size_list]; omega) hlt2
    rw [size_list] at e1
    rw [e1, e] at this
    exact this
  have RF : Hid (∀ A c w, Byt w A (frame l) → (frame l).length ≤ c → Calls Try.prog 21 #[.slice A k3 c, .int .i64 l.length] w (GivesU w ([], 0, 20))) := fun A c w h hc => by
    have e : ((frame l).take k3).length = k3 := by rw [List.length_take]; omega
    have := unframe_any A ((frame l).take k3) c l.length w (h.take k3) (by omega) (by omega) (by omega)
    rw [unfr_cut (by omega) hlt3, e] at this
    exact this
  have r1 := rem_nat hk1
  have r2 := rem_nat hk2
  have r3 := rem_nat hk3
  have z1 := len_ne (show 0 < (num n).length by omega)
  have z2 := len_ne (show 0 < (text s.data.toList).length by omega)
  have z3 := len_ne (show 0 < (frame l).length by omega)
  have p1 : 1 ≤ (num n).length := hn1.1
  have p2 := hn2.2
  have p3 : 1 ≤ (frame l).length := by omega
  have q1 := hn1.2
  have q2 := hn2.1
  have q3 : (frame l).length ≤ 8 + l.length := by omega
  clear hk1 hk2 hk3 hn1 hn2 hn3
  generalize num n = l1 at *
  generalize text s.data.toList = l2 at *
  generalize frame l = l3 at *
  have hm1 : m ≤ 9223372036854775807 := by omega
  have hs63 : s.size ≤ 9223372036854775807 := by omega
  clear h hn hat
  go_enter Try.func7, Try.ntmps7
  go_wp2_with fail
  refine (live_any _).mono ?_
  rintro e w1 ⟨rfl, hb1⟩
  go_wp2_with fail
  refine (framed_any _).mono ?_
  rintro e w2 ⟨rfl, hb2⟩
  have hb3 := hb1.trans (hb2.mono hb1.size)
  clear hb1 hb2
  go_wp2_with fail
  refine (HN.out _).mono ?_
  rintro e w3 ⟨v, rfl, hown, hb⟩
  obtain ⟨-, A1, c1, rfl, hc1, hY1⟩ := Byt.of_own hown
  have hb4 := hb3.trans (hb.mono hb3.size)
  clear hown hb hb3
  go_wp2_with fail
  refine (HT.out _).mono ?_
  rintro e w4 ⟨v, rfl, hown, hb⟩
  obtain ⟨-, A2, c2, rfl, hc2, hY2⟩ := Byt.of_own hown
  have hY1' := hY1.below hb
  have hb5 := hb4.trans (hb.mono hb4.size)
  clear hown hb hb4 hY1
  go_wp2_with fail
  refine (HF.out _ (HYl.out _ hb5)).mono ?_
  rintro e w5 ⟨v, rfl, hown, hb⟩
  obtain ⟨-, A3, c3, rfl, hc3, hY3⟩ := Byt.of_own hown
  have hY1 := hY1'.below hb
  have hY2' := hY2.below hb
  have hb6 := hb5.trans (hb.mono hb5.size)
  clear hown hb hb5 hY1' hY2
  go_wp2_with fail
  refine (RN.out _ _ _ hY1).mono ?_
  rintro e w' ⟨rfl, rfl⟩
  clear hY1
  go_wp2_with fail
  refine (RT.out _ _ _ hY2' hc2).mono ?_
  rintro e w' ⟨rfl, rfl⟩
  clear hY2'
  go_wp2_with fail
  refine (RF.out _ _ _ hY3 hc3).mono ?_
  rintro e w6 ⟨v, rfl, -, hb⟩
  have hb7 := hb6.trans (hb.mono hb6.size)
  clear hb hb6 hY3
  go_wp2
  go_ret
  exact ⟨rfl, hb7⟩
end Go.Proofs.Ytjjjbjepgieahaa
