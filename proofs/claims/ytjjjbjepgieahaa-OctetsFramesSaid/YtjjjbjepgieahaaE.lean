/-
  The reference's Num, Text and Same; the package's Text, by contract.
-/
import Derived.Test.YtjjjbjepgieahaaD
namespace Go.Proofs.Ytjjjbjepgieahaa
open Go.RowKit

/-- a slice of bytes as a string -/
theorem string_of {P : Program} (w : World) (src dst e : TypeId) {A : Option Addr} {l : Bs} {c : Nat} (hs : P.underlying src = some (.slice e)) (he : P.underlying e = some (.int .u8)) (hd : P.underlying dst = some .string)
    (h : Byt w A l) : (convert src dst (.slice A l.length c)).run P w = .ok (.string ⟨l.toArray⟩) w := by
  have hnil : ∀ A' : Option Addr, (convert src dst (.slice A' 0 c)).run P w = .ok (.string ⟨#[]⟩) w := fun A' => by
    cases A' with
    | none => exact run_convert_bytes_nil w src e hs he 0 c dst hd
    | some a => exact run_convert_bytes_back w src dst e a c [] hs he hd fun j hj => by simp at hj
  rcases h with h | ⟨g, o, rfl, _, hc⟩
  · subst h
    exact hnil A
  · refine run_convert_bytes_back w src dst e _ c l hs he hd fun j hj => ?_
    rw [add_lit]
    exact hc j hj
/-- Same of bytes that are the same -/
theorem same_any (A B : Option Addr) (l : Bs) (c d : Nat) (w : World) (hA : Byt w A l) (hB : Byt w B l) :
    Calls Try.prog 11 #[.slice A l.length c, .slice B l.length d] w fun e w' => e = .returned (.bool true) ∧ w = w' := by
  have h1 := string_of (P := Try.prog) (c := c) w 25 9 5 Try.underlying25 Try.underlying5 Try.underlying9 hA
  have h2 := string_of (P := Try.prog) (c := d) w 25 9 5 Try.underlying25 Try.underlying5 Try.underlying9 hB
  generalize (⟨l.toArray⟩ : ByteArray) = x at *
  clear hA hB
  go_enter Try.func11, Try.ntmps11
  go_wp2
  go_ret
  exact ⟨rfl, rfl⟩

theorem wrap_div {n : Nat} (h : n < lim 9) : IntKind.u64.wrap ((n : Int) / 128) = ((n / 128 : Nat) : Int) := by
  rw [lim_nine] at h
  rw [IntKind.wrap_u64]
  omega
theorem byte_of_rem (n : Nat) : IntKind.u8.wrap ((n : Int) % 128 + 128) = ((UInt8.ofNat (n % 128 + 128)).toNat : Int) := by
  rw [IntKind.wrap_u8', ofNat_small (by omega)]
  omega
set_option maxRecDepth 4000 in
set_option maxHeartbeats 400000 in
theorem refNumG_any (f : Nat) : ∀ (n : Nat) (w : World), n < lim f → f ≤ 9 → Calls Try.prog 13 #[.int .u64 n] w (GivesB w (numG f n)) := by
  obtain ⟨i0, hi, hz0, hz1, hz2⟩ := info_parts info5
  induction f with
  | zero =>
    intro n w hn _
    rw [lim_zero] at hn
    have HG : Hid (numG 0 n = [UInt8.ofNat n]) := numG_small (by omega)
    have HB := Lib.hid (last_byte n (by omega))
    go_enter Try.func13, Try.ntmps13
    go_wp2
    go_ret
    refine ⟨_, rfl, ?_, (Below.refl _ _).alloc (Nat.le_refl _) _⟩
    rw [HG.out]
    have h := World.ownsRow_lit (base := w.heap.size) (e := 5) (size := 1) w #[.int .u8 n] 1 (Nat.le_refl _) (by unfold maxLen; omega) rfl
    unfold bv
    rw [List.map_singleton, HB.out]
    exact h
  | succ f ih =>
    intro n w hn hf
    by_cases hlt : n < 128
    · have HG : Hid (numG (f + 1) n = [UInt8.ofNat n]) := numG_small hlt
      have HB := Lib.hid (last_byte n hlt)
      clear hn ih
      go_enter Try.func13, Try.ntmps13
      go_wp2
      go_ret
      refine ⟨_, rfl, ?_, (Below.refl _ _).alloc (Nat.le_refl _) _⟩
      rw [HG.out]
      have h := World.ownsRow_lit (base := w.heap.size) (e := 5) (size := 1) w #[.int .u8 n] 1 (Nat.le_refl _) (by unfold maxLen; omega) rfl
      unfold bv
      rw [List.map_singleton, HB.out]
      exact h
    · have HG : Hid (numG (f + 1) n = UInt8.ofNat (n % 128 + 128) :: numG f (n / 128)) := numG_big (by omega)
      have hd : n / 128 < lim f := by rw [lim_succ] at hn; omega
      have HI : Hid (∀ w : World, Calls Try.prog 13 #[.int .u64 ((n : Int) / 128)] w (GivesB w (numG f (n / 128)))) := fun w => ih (n / 128) w hd (by omega)
      have HB := Lib.hid (byte_of_rem n)
      have hlen := (numG_length f (n / 128)).2
      have hlim : lim (f + 1) ≤ lim 9 := by
        unfold lim
        exact Nat.mul_le_mul_left _ (Nat.pow_le_pow_right (by decide) hf)
      have hw : IntKind.u64.wrap ((n : Int) / 128) = ((n / 128 : Nat) : Int) := wrap_div (Nat.lt_of_lt_of_le hn hlim)
      clear hlim
      generalize numG f (n / 128) = l at *
      clear ih hn hd
      go_enter Try.func13, Try.ntmps13
      go_wp2_with fail
      refine (HI.out _).mono ?_
      rintro e w1 ⟨v, rfl, hown, hb⟩
      obtain ⟨hk, A, c, rfl, _, hY⟩ := Byt.of_own hown
      have hrow : w1.ownsRow w.heap.size 5 1 (.slice (some ⟨w.heap.size, 0, none⟩) 1 1) 1 [.int .u8 ((n : Int) % 128 + 128)] :=
        own_below (World.ownsRow_lit (base := w.heap.size) (e := 5) (size := 1) w #[.int .u8 ((n : Int) % 128 + 128)] 1 (Nat.le_refl _) (by unfold maxLen; omega) rfl) hb
      have hb1 : Below w.heap.size w w1 := ((Below.refl _ _).alloc (Nat.le_refl _) _).trans (hb.mono (by simp))
      clear hown hb hk hw
      go_wp2_with (at_builtin; refine app_bytes _ rfl _ _ 25 (by rfl) w.heap.size 5 i0 _ Try.underlying25 hi hz0 hz1 hz2 rfl _ _ _ (by rfl) hrow A c l (by rfl) hY ?c2 hb1.size ?_)
      case c2 => omega
      intro v2 w2 hown2 hb2
      have H : Hid (w2.ownsRow w.heap.size 5 1 v2 (numG (f + 1) n).length ((numG (f + 1) n).map bv) ∧ Below w.heap.size w w2) := by
        refine ⟨?_, hb1.trans hb2⟩
        rw [HG.out, List.length_cons, List.map_cons, Nat.add_comm]
        have e : bv (UInt8.ofNat (n % 128 + 128)) = .int .u8 ((n : Int) % 128 + 128) := by
          unfold bv
          rw [ofNat_small (by omega)]
          congr 1
        rw [e]
        exact hown2
      clear hown2 hb2 hrow hb1
      go_wp2
      go_ret
      exact ⟨_, rfl, H.out.1, H.out.2⟩
theorem refNum_any (n : Nat) (w : World) (hn : n < lim 9) : Calls Try.prog 13 #[.int .u64 n] w (GivesB w (num n)) := refNumG_any 9 n w hn (Nat.le_refl _)

theorem wrap_len {n : Nat} (h : n ≤ 140737488351232) : IntKind.u64.wrap (n : Int) = (n : Int) := by
  rw [IntKind.wrap_u64]
  omega
theorem len_lim {n : Nat} (h : n ≤ 140737488351232) : n < lim 9 := by
  rw [lim_nine]
  omega
theorem size_list (s : ByteArray) : s.data.toList.length = s.size := (Lib.size_eq s).symm
set_option maxRecDepth 4000 in
set_option maxHeartbeats 400000 in
theorem refText_any (s : ByteArray) (w : World) (hs : s.size ≤ 140737488351232) : Calls Try.prog 15 #[.string s] w (GivesB w (text s.data.toList)) := by
  obtain ⟨i0, hi, hz0, hz1, hz2⟩ := info_parts info5
  have hw := wrap_len hs
  have HN : Hid (∀ w : World, Calls Try.prog 13 #[.int .u64 s.size] w (GivesB w (num s.size))) := fun w => refNum_any s.size w (len_lim hs)
  have HT : Hid (text s.data.toList = num s.size ++ s.data.toList) := by
    rw [text, size_list]
    exact Lib.hid rfl
  have hlen := (num_length s.size).2
  have hm : s.size ≤ maxLen := by unfold maxLen; omega
  unfold maxLen at hm
  generalize num s.size = l at *
  go_enter Try.func15, Try.ntmps15
  go_wp2_with fail
  refine (HN.out _).mono ?_
  rintro e w1 ⟨v, rfl, hown, hb⟩
  clear hw HN
  go_wp2_with (at_builtin; refine app_str _ rfl _ _ 25 9 (by rfl) w.heap.size 5 i0 Try.underlying25 Try.underlying9 hi hz0 hz1 hz2 _ _ _ (by rfl) hown s (by rfl) ?c2 hb.size ?_)
  case c2 => omega
  intro v2 w2 hown2 hb2
  have H : Hid (w2.ownsRow w.heap.size 5 1 v2 (text s.data.toList).length ((text s.data.toList).map bv) ∧ Below w.heap.size w w2) := by
    refine ⟨?_, hb.trans hb2⟩
    rw [HT.out, List.length_append, List.map_append, size_list]
    exact hown2
  clear hown2 hb2 hown hb
  go_wp2
  go_ret
  exact ⟨_, rfl, H.out.1, H.out.2⟩

end Go.Proofs.Ytjjjbjepgieahaa
