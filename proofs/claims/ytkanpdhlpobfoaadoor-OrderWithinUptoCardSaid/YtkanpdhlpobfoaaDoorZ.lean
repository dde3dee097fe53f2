/-
  The laws Reads, Back, Within, Writes, by contract.
-/
import Derived.Test.YtkanpdhlpobfoaaDoorY
namespace Go.Proofs.YtkanpdhlpobfoaaDoor
open Go.RowKit
open K (Pt)

/-! what is read, error or not -/
def decK (s : ByteArray) : List Pt := (decO s).getD []
def decE (s : ByteArray) : Int := if (decO s).isSome then 0 else 22
theorem decK_some {s : ByteArray} {k : List Pt} (h : decO s = some k) : decK s = k ∧ decE s = 0 := by
  unfold decK decE
  rw [h]
  exact ⟨rfl, rfl⟩
theorem decK_none {s : ByteArray} (h : decO s = none) : decK s = [] ∧ decE s = 22 := by
  unfold decK decE
  rw [h]
  exact ⟨rfl, rfl⟩
/-- .. in one word -/
def DecU (s : ByteArray) (w : World) (e : Ending) (w' : World) : Prop := Below w.heap.size w w' ∧ ∃ A c, e = .returned (.tuple #[.slice A (decK s).length c, .int .i64 (decE s)]) ∧ Row w' A (decK s)
theorem decU_of {s : ByteArray} {w w' : World} {e : Ending} (h : DecR s w e w') : DecU s w e w' := by
  obtain ⟨hb, h⟩ := h
  refine ⟨hb, ?_⟩
  rcases h with ⟨k, A, c, h1, h2, _, h3⟩ | ⟨h1, h2⟩
  · obtain ⟨e1, e2⟩ := decK_some h1
    rw [e1, e2]
    exact ⟨A, c, h2, h3⟩
  · obtain ⟨e1, e2⟩ := decK_none h1
    rw [e1, e2]
    exact ⟨none, 0, h2, .inl rfl⟩
theorem bulk_le_encs (k : List Pt) (h : ∀ p ∈ k, p.may = true) : bulk k ≤ (K.encs k).length := by
  induction k with
  | nil => simp [bulk]
  | cons p r ih =>
    have := ih fun q hq => h q (by simp [hq])
    have hp := h p (by simp)
    rw [K.encs_cons, List.length_append, bulk, enc_length]
    cases ht : p.t
    · have := (K.may_num hp ht).1
      have hz := K.l_length p
      rw [this] at hz
      simp at hz ⊢
      omega
    · simp
      omega
theorem decO_facts {s : ByteArray} {k : List Pt} (h : decO s = some k) : s.size ≤ 256 ∧ K.chk k = 0 ∧ (⟨(K.encs k).toArray⟩ : ByteArray) = s ∧ bulk k ≤ 1048576 := by
  unfold decO at h
  split at h
  · rename_i hs
    obtain ⟨h1, h2⟩ := (K.dec_iff _ _).1 h
    have hb := bulk_le_encs k h2
    rw [h1, size_list] at hb
    refine ⟨hs, K.chk_of h2 (by rw [h1, size_list]; exact hs), by rw [h1], by omega⟩
  · cases h
theorem decO_encs {k : List Pt} (h : K.chk k = 0) : decO ⟨(K.encs k).toArray⟩ = some k := by
  obtain ⟨h1, h2⟩ := K.chk_zero h
  unfold decO
  rw [if_pos (by show (K.encs k).length ≤ 256; exact h2)]
  exact (K.dec_iff _ _).2 ⟨rfl, h1⟩
theorem decK_bulk (s : ByteArray) : bulk (decK s) ≤ 1048576 := by
  cases h : decO s with
  | some k => rw [(decK_some h).1]; exact (decO_facts h).2.2.2
  | none => rw [(decK_none h).1]; exact Nat.zero_le _

set_option maxRecDepth 4000 in
set_option maxHeartbeats 1000000 in
theorem reads_law (s : ByteArray) (w : World) (hs : s.size ≤ 1048576) (hM : Ml w) :
    Calls Tryd.prog 4 #[.string s] w (Yes w) := by
  have HL := Lib.hid fun w' (hb : Below w.heap.size w w') => live_any w' (hM.below hb)
  have HD := Lib.hid fun w' (hb : Below w.heap.size w w') => (decode_any s w' (hM.below hb)).mono fun e w'' h => decU_of h
  have HR := Lib.hid fun w' => (refDecode_any s w' hs).mono fun e w'' h => decU_of h
  have hkb := length_le_bulk (decK s)
  have hkb2 := decK_bulk s
  have HS := Lib.hid fun A B c d w' (h : Row w' A (decK s)) (h' : Row w' B (decK s)) => same_any A B (decK s) (decK s) c d w' h h' (by omega)
  rw [same_yes rfl] at HS
  unfold DecU at HD HR
  generalize decK s = k at *
  generalize decE s = q at *
  clear hM
  go_enter Tryd.func4, Tryd.ntmps4
  go_wp2_with fail
  refine (HD.out _ (Below.refl _ _)).mono ?_
  rintro e w1 ⟨hb1, A, c, rfl, hR1⟩
  have HB1 := Lib.hid hb1
  have HR1 := Lib.hid hR1
  clear hb1 hR1
  go_wp2_with fail
  refine (HR.out _).mono ?_
  rintro e w2 ⟨hb2, B, d, rfl, hR2⟩
  have HR1' := Lib.hid (HR1.out.below hb2)
  have HR2 := Lib.hid hR2
  have HB2 := Lib.hid (HB1.out.trans (hb2.mono HB1.out.size))
  clear hb2 hR2
  go_wp2_with fail
  refine (HL.out _ HB2.out).mono ?_
  rintro e w3 ⟨rfl, hb3⟩
  have HR1'' := Lib.hid (HR1'.out.below hb3)
  have HR2' := Lib.hid (HR2.out.below hb3)
  have HB3 := Lib.hid (HB2.out.trans (hb3.mono HB2.out.size))
  clear hb3
  go_wp2_with fail
  refine (HS.out _ _ _ _ _ HR1''.out HR2'.out).mono ?_
  rintro e w4 ⟨rfl, hb4⟩
  have HB4 := Lib.hid (HB3.out.trans (hb4.mono HB3.out.size))
  clear hb4
  go_wp2_with fail
  go_ret
  exact ⟨by simp, HB4.out⟩

set_option maxRecDepth 4000 in
set_option maxHeartbeats 1000000 in
theorem back_law (A : Option Addr) (k : List Pt) (c : Nat) (s : ByteArray) (w : World) (h : Row w A k) (hk : bulk k ≤ 1048576) (hM : Ml w) :
    Calls Tryd.prog 8 #[.slice A k.length c, .string s] w (Yes w) := by
  have hkl := length_le_bulk k
  have HL := Lib.hid (live_any w hM)
  have HE1 := Lib.hid fun w' (hb : Below w.heap.size w w') => encode_any A k c w' (h.below hb) hk (hM.below hb)
  have HD1 := Lib.hid fun t w' (hb : Below w.heap.size w w') => (decode_any t w' (hM.below hb)).mono fun e w'' h => decU_of h
  have HE2 := Lib.hid fun B d w' (hb : Below w.heap.size w w') (h : Row w' B (decK s)) => encode_any B (decK s) d w' h (decK_bulk s) (hM.below hb)
  have HX : Hid ((decE s = 0 ∧ encV (decK s) = .tuple #[.string s, .int .i64 0]) ∨ decE s = 22) := by
    cases e : decO s with
    | some m =>
      obtain ⟨e1, e2⟩ := decK_some e
      obtain ⟨_, e3, e4, _⟩ := decO_facts e
      refine .inl ⟨e2, ?_⟩
      rw [e1, encV_good e3, e4]
    | none => exact .inr (decK_none e).2
  have HS := Lib.hid fun B d w' (hb : Below w.heap.size w w') (h' : Row w' B k) => same_any A B k k c d w' (h.below hb) h' (by omega)
  rw [same_yes rfl] at HS
  unfold DecU at HD1
  rcases beq_zero _ (chk_cases k) with h0 | ⟨b1, b2⟩
  · have hdk := decK_some (decO_encs h0)
    rw [encV_good h0] at HE1
    have HD := Lib.hid fun w' hb => HD1.out ⟨(K.encs k).toArray⟩ w' hb
    rw [hdk.1, hdk.2] at HD
    generalize (⟨(K.encs k).toArray⟩ : ByteArray) = x at *
    clear h hM h0 hdk
    rcases HX.out with ⟨hX1, hX2⟩ | hX
    · have HDs := Lib.hid fun w' hb => HD1.out s w' hb
      rw [hX1] at HDs
      rw [hX2] at HE2
      generalize decK s = m at *
      clear HX HD1 hX1 hX2
      go_enter Tryd.func8, Tryd.ntmps8
      go_wp2_with fail
      refine HL.out.mono ?_
      rintro e w1 ⟨rfl, hb1⟩
      have HB1 := Lib.hid hb1
      clear hb1
      go_wp2_with fail
      refine (HE1.out _ HB1.out).mono ?_
      rintro e w2 ⟨rfl, hb2⟩
      have HB2 := Lib.hid (HB1.out.trans (hb2.mono HB1.out.size))
      clear hb2
      go_wp2_with fail
      refine (HD.out _ HB2.out).mono ?_
      rintro e w3 ⟨hb3, B, d, rfl, hR3⟩
      have HR3 := Lib.hid hR3
      have HB3 := Lib.hid (HB2.out.trans (hb3.mono HB2.out.size))
      clear hb3 hR3
      go_wp2_with fail
      refine (HS.out _ _ _ HB3.out HR3.out).mono ?_
      rintro e w4 ⟨rfl, hb4⟩
      have HB4 := Lib.hid (HB3.out.trans (hb4.mono HB3.out.size))
      clear hb4
      go_wp2_with fail
      refine (HDs.out _ HB4.out).mono ?_
      rintro e w5 ⟨hb5, B', d', rfl, hR5⟩
      have HR5 := Lib.hid hR5
      have HB5 := Lib.hid (HB4.out.trans (hb5.mono HB4.out.size))
      clear hb5 hR5
      go_wp2_with fail
      refine (HE2.out _ _ _ HB5.out HR5.out).mono ?_
      rintro e w6 ⟨rfl, hb6⟩
      have HB6 := Lib.hid (HB5.out.trans (hb6.mono HB5.out.size))
      clear hb6
      go_wp2_with fail
      go_ret
      exact ⟨by simp, HB6.out⟩
    · have HDs := Lib.hid fun w' hb => HD1.out s w' hb
      rw [hX] at HDs
      unfold encV at HE2
      generalize (⟨(K.wrt (decK s)).toArray⟩ : ByteArray) = u at *
      generalize K.chk (decK s) = hh at *
      generalize decK s = m at *
      clear HX HD1 hX
      go_enter Tryd.func8, Tryd.ntmps8
      go_wp2_with fail
      refine HL.out.mono ?_
      rintro e w1 ⟨rfl, hb1⟩
      have HB1 := Lib.hid hb1
      clear hb1
      go_wp2_with fail
      refine (HE1.out _ HB1.out).mono ?_
      rintro e w2 ⟨rfl, hb2⟩
      have HB2 := Lib.hid (HB1.out.trans (hb2.mono HB1.out.size))
      clear hb2
      go_wp2_with fail
      refine (HD.out _ HB2.out).mono ?_
      rintro e w3 ⟨hb3, B, d, rfl, hR3⟩
      have HR3 := Lib.hid hR3
      have HB3 := Lib.hid (HB2.out.trans (hb3.mono HB2.out.size))
      clear hb3 hR3
      go_wp2_with fail
      refine (HS.out _ _ _ HB3.out HR3.out).mono ?_
      rintro e w4 ⟨rfl, hb4⟩
      have HB4 := Lib.hid (HB3.out.trans (hb4.mono HB3.out.size))
      clear hb4
      go_wp2_with fail
      refine (HDs.out _ HB4.out).mono ?_
      rintro e w5 ⟨hb5, B', d', rfl, hR5⟩
      have HR5 := Lib.hid hR5
      have HB5 := Lib.hid (HB4.out.trans (hb5.mono HB4.out.size))
      clear hb5 hR5
      go_wp2_with fail
      refine (HE2.out _ _ _ HB5.out HR5.out).mono ?_
      rintro e w6 ⟨rfl, hb6⟩
      have HB6 := Lib.hid (HB5.out.trans (hb6.mono HB5.out.size))
      clear hb6
      go_wp2_with fail
      go_ret
      exact ⟨rfl, HB6.out⟩
  · unfold encV at HE1
    have HD := Lib.hid fun w' hb => HD1.out ⟨(K.wrt k).toArray⟩ w' hb
    generalize (⟨(K.wrt k).toArray⟩ : ByteArray) = x at *
    generalize decK x = lx at *
    generalize decE x = ex at *
    generalize K.chk k = ck at *
    clear h hM HS
    rcases HX.out with ⟨hX1, hX2⟩ | hX
    · have HDs := Lib.hid fun w' hb => HD1.out s w' hb
      rw [hX1] at HDs
      rw [hX2] at HE2
      generalize decK s = m at *
      clear HX HD1 hX1 hX2
      go_enter Tryd.func8, Tryd.ntmps8
      go_wp2_with fail
      refine HL.out.mono ?_
      rintro e w1 ⟨rfl, hb1⟩
      have HB1 := Lib.hid hb1
      clear hb1
      go_wp2_with fail
      refine (HE1.out _ HB1.out).mono ?_
      rintro e w2 ⟨rfl, hb2⟩
      have HB2 := Lib.hid (HB1.out.trans (hb2.mono HB1.out.size))
      clear hb2
      go_wp2_with fail
      refine (HD.out _ HB2.out).mono ?_
      rintro e w3 ⟨hb3, B, d, rfl, hR3⟩
      have HB3 := Lib.hid (HB2.out.trans (hb3.mono HB2.out.size))
      clear hb3 hR3
      go_wp2_with fail
      refine (HDs.out _ HB3.out).mono ?_
      rintro e w5 ⟨hb5, B', d', rfl, hR5⟩
      have HR5 := Lib.hid hR5
      have HB5 := Lib.hid (HB3.out.trans (hb5.mono HB3.out.size))
      clear hb5 hR5
      go_wp2_with fail
      refine (HE2.out _ _ _ HB5.out HR5.out).mono ?_
      rintro e w6 ⟨rfl, hb6⟩
      have HB6 := Lib.hid (HB5.out.trans (hb6.mono HB5.out.size))
      clear hb6
      go_wp2_with fail
      go_ret
      exact ⟨by simp, HB6.out⟩
    · have HDs := Lib.hid fun w' hb => HD1.out s w' hb
      rw [hX] at HDs
      unfold encV at HE2
      generalize (⟨(K.wrt (decK s)).toArray⟩ : ByteArray) = u at *
      generalize K.chk (decK s) = hh at *
      generalize decK s = m at *
      clear HX HD1 hX
      go_enter Tryd.func8, Tryd.ntmps8
      go_wp2_with fail
      refine HL.out.mono ?_
      rintro e w1 ⟨rfl, hb1⟩
      have HB1 := Lib.hid hb1
      clear hb1
      go_wp2_with fail
      refine (HE1.out _ HB1.out).mono ?_
      rintro e w2 ⟨rfl, hb2⟩
      have HB2 := Lib.hid (HB1.out.trans (hb2.mono HB1.out.size))
      clear hb2
      go_wp2_with fail
      refine (HD.out _ HB2.out).mono ?_
      rintro e w3 ⟨hb3, B, d, rfl, hR3⟩
      have HB3 := Lib.hid (HB2.out.trans (hb3.mono HB2.out.size))
      clear hb3 hR3
      go_wp2_with fail
      refine (HDs.out _ HB3.out).mono ?_
      rintro e w5 ⟨hb5, B', d', rfl, hR5⟩
      have HR5 := Lib.hid hR5
      have HB5 := Lib.hid (HB3.out.trans (hb5.mono HB3.out.size))
      clear hb5 hR5
      go_wp2_with fail
      refine (HE2.out _ _ _ HB5.out HR5.out).mono ?_
      rintro e w6 ⟨rfl, hb6⟩
      have HB6 := Lib.hid (HB5.out.trans (hb6.mono HB5.out.size))
      clear hb6
      go_wp2_with fail
      go_ret
      exact ⟨rfl, HB6.out⟩
end Go.Proofs.YtkanpdhlpobfoaaDoor
