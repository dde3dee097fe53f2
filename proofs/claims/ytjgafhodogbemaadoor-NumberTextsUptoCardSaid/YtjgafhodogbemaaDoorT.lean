/-
  The reference's Read of any text; its digits, its Text.
-/
import Derived.Test.YtjgafhodogbemaaDoorS1
import Derived.Test.YtjgafhodogbemaaDoorS2
import Derived.Test.YtjgafhodogbemaaDoorS3
import Derived.Test.YtjgafhodogbemaaDoorS4
import Derived.Test.YtjgafhodogbemaaDoorS5
import Derived.Test.YtjgafhodogbemaaDoorS6
import Derived.Test.YtjgafhodogbemaaDoorS7
import Derived.Test.YtjgafhodogbemaaDoorS8
import Derived.Test.YtjgafhodogbemaaDoorH
import Derived.Lib.ItoaMem
import Derived.Laws.Concat
namespace Go.Proofs.YtjgafhodogbemaaDoor.N
open Go.RowKit Go.Proofs.YtjgafhodogbemaaDoor

theorem refRead_even (s : ByteArray) (w : World) (hs : s.size ≤ 1048576) (he : s.size % 2 = 0) (t : List Nat) (hT : rea (fro (us s.data.toList)) = t) :
    Calls Tryd.prog 23 #[.string s] w fun e w' => e = .returned (.tuple #[.int .i64 (nv (num t)), .int .i64 (er (num t))]) ∧ Below w.heap.size w w' := by
  match t, hT with
  | [], hT => exact refRead_nil s w hs he _ hT rfl
  | [a], hT =>
    by_cases h48 : a = 48
    · exact refRead_zero s w hs he _ hT (by rw [h48])
    · by_cases h45 : a = 45
      · exact refRead_neg s w hs he _ hT (by rw [h45]; rfl)
      · by_cases h43 : a = 43
        · exact refRead_plus s w hs he _ hT (by rw [h43]; rfl)
        · exact refRead_els s w hs he _ hT ⟨a, rfl, h48, h45, h43⟩
  | a :: x :: q, hT =>
    by_cases h48 : a = 48
    · subst h48
      by_cases h120 : x = 120
      · exact refRead_hexa s w hs he _ hT ⟨q, by rw [h120]⟩
      · by_cases h88 : x = 88
        · exact refRead_hexb s w hs he _ hT ⟨q, by rw [h88]⟩
        · exact refRead_oth s w hs he _ hT ⟨x, q, rfl, h120, h88⟩
    · by_cases h45 : a = 45
      · exact refRead_neg s w hs he _ hT (by rw [h45]; rfl)
      · by_cases h43 : a = 43
        · exact refRead_plus s w hs he _ hT (by rw [h43]; rfl)
        · exact refRead_els s w hs he _ hT ⟨a, rfl, h48, h45, h43⟩
theorem refRead_any (s : ByteArray) (w : World) (hs : s.size ≤ 1048576) :
    Calls Tryd.prog 23 #[.string s] w fun e w' => e = .returned (.tuple #[.int .i64 (nv (rd s.data.toList)), .int .i64 (er (rd s.data.toList))]) ∧ Below w.heap.size w w' := by
  by_cases he : s.size % 2 = 0
  · have hr : rd s.data.toList = num (rea (fro (us s.data.toList))) := by
      unfold rd
      rw [size_list, if_pos he]
    rw [hr]
    exact refRead_even s w hs he _ rfl
  · have HR : Hid (rd s.data.toList = none) := Lib.hid (by unfold rd; rw [size_list, if_neg he])
    have H0 : Hid (∀ w, Calls Tryd.prog 39 #[.string s] w fun e w' => e = .returned (.bool false) ∧ w = w') := Lib.hid fun w => by
      have := refCheck_any s w (by unfold maxLen; omega)
      rw [decide_eq_false he] at this
      exact this
    go_enter Tryd.func23, Tryd.ntmps23
    go_wp2_with fail
    refine (H0.out _).mono ?_
    rintro e w' ⟨rfl, rfl⟩
    go_wp2_with fail
    go_ret2
    exact ⟨by rw [HR.out]; rfl, Below.refl _ _⟩

theorem dec_one {u : Nat} (h : u < 10) : Lib.decDigits u = [UInt8.ofNat (48 + u)] := by
  rw [Lib.decDigits, dif_pos h]
theorem dec_more {u : Nat} (h : ¬ u < 10) : Lib.decDigits u = Lib.decDigits (u / 10) ++ [UInt8.ofNat (48 + u % 10)] := by
  rw [Lib.decDigits, dif_neg h]
theorem dec_size (u : Nat) (h : u < 18446744073709551616) : (Lib.decDigits u).length ≤ 30 := by
  have hl := Lib.itoa_length_le ((u / 10 : Nat) : Int) (by omega) (by omega)
  by_cases h10 : u < 10
  · rw [dec_one h10]
    simp
  · rw [dec_more h10, List.length_append]
    unfold Lib.itoa at hl
    rw [if_neg (by omega)] at hl
    simp only [Int.toNat_natCast] at hl
    simp
    omega
set_option maxRecDepth 8000 in
theorem digits_low (u : Nat) (w : World) (h10 : u < 10) :
    Calls Tryd.prog 45 #[.int .u64 (u : Int)] w fun e w' => e = .returned (.string ⟨(Lib.decDigits u).toArray⟩) ∧ Below w.heap.size w w' := by
  have HE := Lib.hid (dec_one h10)
  have hcv := conv_new w [UInt8.ofNat (48 + u)] #[.int .u8 (48 + (u : Int) % 10)] 1 (by simp [bv]; omega) rfl
  have hi : (u : Int) < 10 := by omega
  have HBA := Lib.hid ((Below.refl w.heap.size w).alloc (Nat.le_refl _) (.cells #[.int .u8 (48 + (u : Int) % 10)] 5))
  clear h10
  generalize UInt8.ofNat (48 + u) = c at *
  go_enter Tryd.func45, Tryd.ntmps45
  go_wp2_with fail
  go_ret
  exact ⟨by rw [HE.out]; rfl, HBA.out⟩
set_option maxRecDepth 8000 in
theorem digits_any : ∀ (f u : Nat) (w : World), u ≤ f → u < 18446744073709551616 →
    Calls Tryd.prog 45 #[.int .u64 (u : Int)] w fun e w' => e = .returned (.string ⟨(Lib.decDigits u).toArray⟩) ∧ Below w.heap.size w w' := by
  intro f
  induction f with
  | zero =>
    intro u w hf hu
    exact digits_low u w (by omega)
  | succ f ih =>
    intro u w hf hu
    by_cases h10 : u < 10
    · exact digits_low u w h10
    · have HE := Lib.hid (dec_more h10)
      have HI := Lib.hid fun w' => ih (u / 10) w' (by omega) (by omega)
      have hlen := dec_size (u / 10) (by omega)
      have hcv := conv_new w [UInt8.ofNat (48 + u % 10)] #[.int .u8 (48 + (u : Int) % 10)] 1 (by simp [bv]; omega) rfl
      have hi : (10 : Int) ≤ (u : Int) := by omega
      have hu2 : (u : Int) ≤ 18446744073709551615 := by omega
      have HBA := Lib.hid ((Below.refl w.heap.size w).alloc (Nat.le_refl _) (.cells #[.int .u8 (48 + (u : Int) % 10)] 5))
      have HQ : Hid ((u : Int) / 10 = ((u / 10 : Nat) : Int)) := Lib.hid (by omega)
      clear hf hu ih h10
      generalize UInt8.ofNat (48 + u % 10) = c at *
      generalize Lib.decDigits (u / 10) = dl at *
      have HX := Lib.hid (mk_append dl [c])
      have hls : dl.length + 1 ≤ 9223372036854775807 := by omega
      have hcd : ((u : Int) < 10) = False := by rw [eq_iff_iff, iff_false]; omega
      go_enter Tryd.func45, Tryd.ntmps45
      go_wp2_with fail
      rw [HQ.out]
      refine (HI.out _).mono ?_
      rintro e w1 ⟨rfl, hb1⟩
      have HB1 := Lib.hid (HBA.out.trans (hb1.mono HBA.out.size))
      clear hb1
      go_wp2_with fail
      go_ret
      exact ⟨by rw [HE.out, ← HX.out]; rfl, HB1.out⟩
set_option maxRecDepth 8000 in
theorem refText_any (n : Int) (h1 : -9223372036854775808 ≤ n) (h2 : n ≤ 9223372036854775807) (w : World) :
    Calls Tryd.prog 25 #[.int .i64 n] w fun e w' => e = .returned (.string (tx n)) ∧ Below w.heap.size w w' := by
  by_cases hn : n < 0
  · have HT : Hid (tx n = bz (un (45 :: Lib.decDigits n.natAbs))) := Lib.hid (by unfold tx Lib.itoa; rw [if_pos hn])
    have HD := Lib.hid fun w => digits_any n.natAbs n.natAbs w (Nat.le_refl _) (by omega)
    have hlen := dec_size n.natAbs (by omega)
    have HX : Hid ((ByteArray.mk #[45]) ++ (ByteArray.mk (Lib.decDigits n.natAbs).toArray) = ByteArray.mk (45 :: Lib.decDigits n.natAbs).toArray) := Lib.hid (mk_append [45] _)
    have HU := Lib.hid fun w => u_any (l := 45 :: Lib.decDigits n.natAbs) (by
      intro c hc
      rcases List.mem_cons.1 hc with rfl | hc
      · decide
      · exact asc_dec _ c hc) (by rw [List.length_cons]; omega) w
    have e1 : IntKind.i64.wrap (n + 1) = n + 1 := IntWalk.i64_in _ (by omega)
    have e2 : IntKind.i64.wrap (-(n + 1)) = -(n + 1) := IntWalk.i64_in _ (by omega)
    have hsz : (ByteArray.mk (Lib.decDigits n.natAbs).toArray).size ≤ 30 := by rw [mk_size]; exact hlen
    have hq : ∀ w' : World, (Op.stringOp .add ⟨#[45]⟩ ⟨(Lib.decDigits n.natAbs).toArray⟩).run Tryd.prog w' = .ok (.string (⟨#[45]⟩ ++ ⟨(Lib.decDigits n.natAbs).toArray⟩)) w' := fun w' => run_string_add_sum w' _ _ (by show 1 + _ ≤ _; omega)
    have HA : Hid (∀ x : Int, x = -(n + 1) + 1 → x = (n.natAbs : Int)) := Lib.hid fun x h => by omega
    rw [HX.out] at hq
    clear HX hsz hlen
    generalize ByteArray.mk (45 :: Lib.decDigits n.natAbs).toArray = s1 at *
    generalize ByteArray.mk (Lib.decDigits n.natAbs).toArray = s2 at *
    generalize bz (un (45 :: Lib.decDigits n.natAbs)) = s3 at *
    go_enter Tryd.func25, Tryd.ntmps25
    go_wp2_with fail
    rw [HA.out _ rfl]
    refine (HD.out _).mono ?_
    rintro e w1 ⟨rfl, hb1⟩
    go_wp2_with fail
    refine (HU.out _).mono ?_
    rintro e w2 ⟨rfl, hb2⟩
    go_wp2_with fail
    go_ret
    exact ⟨by rw [HT.out]; rfl, hb1.trans (hb2.mono hb1.size)⟩
  · obtain ⟨u, rfl⟩ := Int.eq_ofNat_of_zero_le (by omega : 0 ≤ n)
    have HT : Hid (tx (u : Int) = bz (un (Lib.decDigits u))) := Lib.hid (by unfold tx; rw [Lib.itoa_nonneg])
    have HD := Lib.hid fun w => digits_any u u w (Nat.le_refl _) (by omega)
    have hlen := dec_size u (by omega)
    have HU := Lib.hid fun w => u_any (l := Lib.decDigits u) (asc_dec _) (by omega) w
    clear hlen
    generalize ByteArray.mk (Lib.decDigits u).toArray = s2 at *
    generalize bz (un (Lib.decDigits u)) = s3 at *
    go_enter Tryd.func25, Tryd.ntmps25
    go_wp2_with fail
    refine (HD.out _).mono ?_
    rintro e w1 ⟨rfl, hb1⟩
    go_wp2_with fail
    refine (HU.out _).mono ?_
    rintro e w2 ⟨rfl, hb2⟩
    go_wp2_with fail
    go_ret
    exact ⟨by rw [HT.out]; rfl, hb1.trans (hb2.mono hb1.size)⟩
end Go.Proofs.YtjgafhodogbemaaDoor.N
