/-
  The laws One, Reads, Writes: each answers true.
-/
import Derived.Test.YtnkknlhdbhfjlaaSf
namespace Go.Proofs.Ytnkknlhdbhfjlaa
open Go.RowKit

theorem decO_good {l : Bs} (h : (decO l).2 = 0) : (decO l).1.chk = 0 ∧ (decO l).1.wrt = l ∧ (decO l).1.bulk ≤ l.length := by
  have hr := dec_right 20 l
  unfold decO at *
  cases hx : dec 20 l with
  | bad q =>
    rw [hx] at h hr
    simp only at h
    have : q = 20 ∨ q = 22 ∨ q = 31 := hr
    omega
  | good v n =>
    rw [hx] at h hr
    simp only at h ⊢
    by_cases hn : n < l.length
    · rw [if_pos hn] at h
      cases h
    · rw [if_neg hn]
      obtain ⟨_, h2, h3, h4, h5, h6⟩ := hr
      have hc : v.chk = 0 := by
        unfold V.chk
        rw [if_pos h4, if_neg (by omega)]
      refine ⟨hc, ?_, by show v.bulk ≤ _; omega⟩
      unfold V.wrt
      rw [if_pos hc, h6]
      exact List.take_of_length_le (by omega)
theorem decO_bulk (l : Bs) : (decO l).1.bulk ≤ l.length + 1 := by
  have hr := dec_right 20 l
  unfold decO
  cases hx : dec 20 l with
  | bad q => exact Nat.succ_le_succ (Nat.zero_le _)
  | good v n =>
    rw [hx] at hr
    obtain ⟨_, h2, h3, _⟩ := hr
    simp only
    split
    · exact Nat.succ_le_succ (Nat.zero_le _)
    · show v.bulk ≤ _
      omega
theorem decO_err (l : Bs) : (decO l).2 = 0 ∨ (decO l).2 = 20 ∨ (decO l).2 = 22 ∨ (decO l).2 = 31 := by
  have hr := dec_right 20 l
  unfold decO
  cases hx : dec 20 l with
  | bad q =>
    rw [hx] at hr
    have : q = 20 ∨ q = 22 ∨ q = 31 := hr
    show (q : Int) = 0 ∨ (q : Int) = 20 ∨ (q : Int) = 22 ∨ (q : Int) = 31
    omega
  | good v n =>
    simp only
    split
    · exact .inr (.inr (.inl rfl))
    · exact .inl rfl
/-- what Read tells: a value, how many bytes, an error -/
def readO (l : Bs) : V × Nat × Nat := match dec 20 l with
  | .bad q => (.mk 0 0 ⟨#[]⟩ [] [], 0, q)
  | .good v n => (v, n, 0)
theorem postR_read {w w' : World} {l : Bs} {e : Ending} (h : PostR w (dec 20 l) e w') : ∃ y : X, e = .returned (.tuple #[y.v, .int .i64 (readO l).2.1, .int .i64 (readO l).2.2]) ∧ Is w' (readO l).1 y ∧ Below w.heap.size w w' := by
  unfold readO
  cases hx : dec 20 l with
  | bad q =>
    rw [hx] at h
    exact ⟨⟨0, 0, ⟨#[]⟩, none, 0, 0, none, 0, 0⟩, h.1, leaf_is _ _ _ _ _, h.2⟩
  | good v n =>
    rw [hx] at h
    obtain ⟨y, h1, h2, h3⟩ := h
    exact ⟨y, h1, IsP.is (fun _ h => h.2) _ _ h2, h3⟩
theorem readO_bulk (l : Bs) : (readO l).1.bulk ≤ l.length + 1 := by
  have hr := dec_right 20 l
  unfold readO
  cases hx : dec 20 l with
  | bad q => exact Nat.succ_le_succ (Nat.zero_le _)
  | good v n =>
    rw [hx] at hr
    obtain ⟨_, h2, h3, _⟩ := hr
    show v.bulk ≤ _
    omega

set_option maxRecDepth 8000 in
set_option maxHeartbeats 1000000 in
theorem lawOne (A : Option Addr) (l : Bs) (c : Nat) (w : World) (hB : O.Byt w A l) (hl : l.length ≤ 4194303) (hlc : l.length ≤ c) :
    Calls Try.prog 5 #[.slice A l.length c] w fun e w' => e = .returned (.bool true) ∧ Below w.heap.size w w' := by
  have HD := Lib.hid fun w' (hb : Below w.heap.size w w') => decode_any A l c w' (hB.below hb) (by omega) hlc
  by_cases he : (decO l).2 = 0
  · obtain ⟨h1, h2, h3⟩ := decO_good he
    have HE : Hid (∀ w' y, Is w' (decO l).1 y → Calls Try.prog 8 #[y.v] w' (GivesE w' l 0)) := fun w' y hy => by
      have := encode_any (decO l).1 y w' hy (by omega)
      rw [h1, h2] at this
      exact this
    have HS := Lib.hid fun w' B d (hb : Below w.heap.size w w') (hY : O.Byt w' B l) => O.same_any B A l d c w' hY (hB.below hb)
    unfold PostD at HD
    rw [he] at HD
    clear h1 h2 h3 he hB
    generalize (decO l).1 = v at *
    go_enter Try.func5, Try.ntmps5
    go_wp2_with fail
    refine (live_any _).mono ?_
    rintro e w1 ⟨rfl, hb1⟩
    have HB1 := Lib.hid hb1
    clear hb1
    go_wp2_with fail
    refine (HD.out _ HB1.out).mono ?_
    rintro e w2 ⟨⟨zk, zn, zs, zka, zkn, zkc, zla, zln, zlc⟩, rfl, hy, hb2⟩
    have HB2 := Lib.hid (HB1.out.trans (hb2.mono HB1.out.size))
    have HI := Lib.hid (IsP.is (fun _ h => h.2) _ _ hy)
    clear hb2 hy
    simp only [X.v]
    go_wp2_with fail
    refine (HE.out _ ⟨zk, zn, zs, zka, zkn, zkc, zla, zln, zlc⟩ (Is.below (below_alloc _ _) _ _ HI.out)).mono ?_
    rintro e w3 ⟨A3, c3, rfl, _, hY, hb3⟩
    have HB3 := Lib.hid (HB2.out.trans (((below_alloc w2 _).trans (hb3.mono (by simp))).mono HB2.out.size))
    have HY := Lib.hid hY
    clear hb3 hY
    go_wp2_with (go_at_call 11; refine (HS.out _ _ _ HB3.out HY.out).mono ?_; rintro e w6 ⟨rfl, rfl⟩)
    go_ret
    exact ⟨rfl, HB3.out⟩
  · have hq0 : ((decO l).2 != 0) = true := by simp [he]
    unfold PostD at HD
    clear he hB
    generalize (decO l).2 = q at *
    generalize (decO l).1 = v at *
    go_enter Try.func5, Try.ntmps5
    go_wp2_with fail
    refine (live_any _).mono ?_
    rintro e w1 ⟨rfl, hb1⟩
    have HB1 := Lib.hid hb1
    clear hb1
    go_wp2_with fail
    refine (HD.out _ HB1.out).mono ?_
    rintro e w2 ⟨⟨zk, zn, zs, zka, zkn, zkc, zla, zln, zlc⟩, rfl, hy, hb2⟩
    have HB2 := Lib.hid (HB1.out.trans (hb2.mono HB1.out.size))
    clear hb2 hy
    simp only [X.v]
    go_wp2_with fail
    go_ret
    exact ⟨rfl, HB2.out.trans ((below_alloc _ _).mono HB2.out.size)⟩
end Go.Proofs.Ytnkknlhdbhfjlaa
