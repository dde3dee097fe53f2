/-
  The reference's bytes, Encode, Check, Behind, by contract.
-/
import Derived.Test.YtkanpdhlpobfoaaDoorS
namespace Go.Proofs.YtkanpdhlpobfoaaDoor
open Go.RowKit
open K (Pt)

/-- what the reference's bytes answers -/
def bysV (k : List Pt) : Value := if k.all Pt.may = true then .tuple #[.string ⟨(K.encs k).toArray⟩, .bool true] else .tuple #[.string ⟨#[]⟩, .bool false]
theorem bysV_bad {k : List Pt} {j : Nat} (h : j < k.length) (hm : k[j].may = false) : bysV k = .tuple #[.string ⟨#[]⟩, .bool false] := by
  unfold bysV
  rw [if_neg]
  intro ha
  rw [List.all_eq_true.1 ha _ (List.getElem_mem h)] at hm
  cases hm
theorem bysV_good {k : List Pt} (h : ∀ p ∈ k, p.may = true) : bysV k = .tuple #[.string ⟨(K.encs k).toArray⟩, .bool true] := by
  unfold bysV
  rw [if_pos (List.all_eq_true.2 h)]
set_option maxRecDepth 4000 in
set_option maxHeartbeats 1000000 in
theorem bytes_any (A : Option Addr) (k : List Pt) (c : Nat) (w : World) (h : Row w A k) (hb : bulk k ≤ 1048576) :
    Calls Tryd.prog 25 #[.slice A k.length c] w fun e w' => e = .returned (bysV k) ∧ Below w.heap.size w w' := by
  have hll : k.length ≤ 1048576 := Nat.le_trans (length_le_bulk k) hb
  go_enter Tryd.func25, Tryd.ntmps25
  go_wp2_with fail
  go_loopw [4, 9] (fun t i wr => ∃ (j : Nat) (es : Bs), j ≤ k.length ∧ i = .int .i64 j ∧ t = .string ⟨es.toArray⟩ ∧ Hid (es = K.encs (k.take j)) ∧ es.length ≤ 9437184 ∧ Hid (∀ p ∈ k.take j, p.may = true) ∧ Below w.heap.size w wr)
    (fun _ i _ => k.length - (intOf i).toNat)
  case atStart => exact ⟨0, [], Nat.zero_le _, rfl, rfl, rfl, by decide, fun p hp => by simp at hp, Below.refl _ _⟩
  case round =>
    obtain ⟨j, es, hj, rfl, rfl, hes, hl1, hm, hbw⟩ := hrel
    by_cases hlt : j < k.length
    · obtain ⟨g, o, rfl, hg, hp⟩ := h.at_ hlt
      obtain ⟨c0, c1, c2⟩ := hp.below hg hbw
      have hps := mem_bulk (List.getElem_mem hlt)
      have HV := Lib.hid fun w => refMay_any k[j] w (by unfold maxLen; omega)
      have HS := Lib.hid fun w (hp : k[j].may = true) => part_any k[j] w hp (by omega)
      have HN := Lib.hid fun e => may_snoc hlt hm.out e
      have HB := Lib.hid fun e => bysV_bad hlt e
      have HE := Lib.hid (encs_snoc k j hlt)
      have hl2 := enc_le k[j]
      have hl3 : (K.encs (k.take (j + 1))).length ≤ 9437184 := by
        have := encs_le (k.take (j + 1))
        have := take_bulk k (j + 1)
        omega
      have HL3 : Hid (es.length + k[j].enc.length ≤ 9437184) := by
        show _ ≤ _
        rw [hes.out, ← List.length_append, ← HE.out]
        exact hl3
      have hat := at_new' wr (p := k[j])
      unfold cellsP at hat
      generalize k[j] = p at *
      obtain ⟨t, n, s⟩ := p
      simp only [pV] at *
      obtain ⟨B, hB⟩ : ∃ B, B = Pt.may ⟨t, n, s⟩ := ⟨_, rfl⟩
      have HB' := Lib.hid hB
      rw [← hB] at HV
      have HA := Lib.hid hat
      clear hp hat hB h hl3
      cases B with
      | false =>
        go_wp2_with fail
        refine (HV.out _).mono ?_
        rintro e w1 ⟨rfl, hb1⟩
        have hb2 := (hbw.alloc (B := w.heap.size) (by have := hbw.size; omega) (.cells #[.bool t, .int .i64 n, .string s] 39)).trans (hb1.mono (by have := hbw.size; simp; omega))
        clear c0 c1 c2 hb1 hbw
        go_wp2_with fail
        go_ret2
        exact ⟨by rw [HB.out HB'.out.symm]; rfl, hb2⟩
      | true =>
        have HP := Lib.hid fun w => HS.out w HB'.out.symm
        obtain ⟨ec, hec⟩ : ∃ ec, ec = Pt.enc ⟨t, n, s⟩ := ⟨_, rfl⟩
        rw [← hec] at HP hl2 HE HL3
        clear hec HS
        go_wp2_with fail
        refine (HV.out _).mono ?_
        rintro e w1 ⟨rfl, hb1⟩
        obtain ⟨d0, d1, d2⟩ := HA.out _ hb1
        have hb2 := (hbw.alloc (B := w.heap.size) (by have := hbw.size; omega) (.cells #[.bool t, .int .i64 n, .string s] 39)).trans (hb1.mono (by have := hbw.size; simp; omega))
        clear c0 c1 c2 hb1 hbw
        go_wp2_with fail
        refine (HP.out _).mono ?_
        rintro e w2 ⟨rfl, hb3⟩
        have hb4 := hb2.trans (hb3.mono hb2.size)
        clear d0 d1 d2 hb2 hb3
        have hl4 : ec.length ≤ 9437184 := by have := HL3.out; omega
        go_wp2_with fail
        go_roundw
        case rel => exact ⟨j + 1, es ++ ec, by omega, by go_num, rfl, by rw [HE.out, hes.out]; exact Lib.hid rfl, by rw [List.length_append]; exact HL3.out, HN.out HB'.out.symm, hb4⟩
        case measure => simp [intOf]; omega
    · obtain rfl : j = k.length := by omega
      rw [List.take_length] at hm hes
      have HC := Lib.hid (bysV_good hm.out)
      rw [← hes.out] at HC
      go_wp2_with fail
      go_ret2
      exact ⟨by rw [HC.out]; rfl, hbw⟩

theorem refEncode_any (A : Option Addr) (k : List Pt) (c : Nat) (w : World) (h : Row w A k) (hb : bulk k ≤ 1048576) :
    Calls Tryd.prog 11 #[.slice A k.length c] w fun e w' => e = .returned (encV k) ∧ Below w.heap.size w w' := by
  have HB := Lib.hid (bytes_any A k c w h hb)
  have hle := encs_le k
  clear h
  by_cases hm : k.all Pt.may = true
  · have HC := chk_good (List.all_eq_true.1 hm)
    rw [bysV_good (List.all_eq_true.1 hm)] at HB
    by_cases h256 : (K.encs k).length ≤ 256
    · rw [if_pos h256] at HC
      have HV := Lib.hid (encV_good HC)
      generalize K.encs k = es at *
      clear HC hm
      go_enter Tryd.func11, Tryd.ntmps11
      go_wp2_with fail
      refine HB.out.mono ?_
      rintro e w1 ⟨rfl, hb1⟩
      go_wp2_with fail
      go_ret2
      exact ⟨by rw [HV.out]; rfl, hb1⟩
    · rw [if_neg h256] at HC
      have HV := encV_bad (k := k) (by omega)
      rw [HC] at HV
      have HV' := Lib.hid HV
      have h257 : 256 < (K.encs k).length := by omega
      generalize K.encs k = es at *
      clear HC hm HV h256
      go_enter Tryd.func11, Tryd.ntmps11
      go_wp2_with fail
      refine HB.out.mono ?_
      rintro e w1 ⟨rfl, hb1⟩
      go_wp2_with fail
      go_ret2
      exact ⟨by rw [HV'.out]; rfl, hb1⟩
  · have HC : K.chk k = 50 := by unfold K.chk; rw [if_neg hm]
    have HV := encV_bad (k := k) (by omega)
    rw [HC] at HV
    have HV' := Lib.hid HV
    have e : bysV k = .tuple #[.string ⟨#[]⟩, .bool false] := by unfold bysV; rw [if_neg hm]
    rw [e] at HB
    clear HC hm HV e hle
    go_enter Tryd.func11, Tryd.ntmps11
    go_wp2_with fail
    refine HB.out.mono ?_
    rintro e w1 ⟨rfl, hb1⟩
    go_wp2_with fail
    go_ret2
    exact ⟨by rw [HV'.out]; rfl, hb1⟩
theorem refChk_any (A : Option Addr) (k : List Pt) (c : Nat) (w : World) (h : Row w A k) (hb : bulk k ≤ 1048576) :
    Calls Tryd.prog 16 #[.slice A k.length c] w fun e w' => e = .returned (.int .i64 (K.chk k)) ∧ Below w.heap.size w w' := by
  have HB := Lib.hid (refEncode_any A k c w h hb)
  clear h
  unfold encV at HB
  generalize K.chk k = x at *
  generalize (⟨(K.wrt k).toArray⟩ : ByteArray) = y at *
  go_enter Tryd.func16, Tryd.ntmps16
  go_wp2_with fail
  refine HB.out.mono ?_
  rintro e w1 ⟨rfl, hb1⟩
  go_wp2_with fail
  go_ret
  exact ⟨rfl, hb1⟩
set_option maxRecDepth 4000 in
theorem refBehind_any (A : Option Addr) (k : List Pt) (c : Nat) (w : World) (h : Row w A k) (hb : bulk k ≤ 1048576) :
    Calls Tryd.prog 13 #[.slice A k.length c] w fun e w' => e = .returned (behV k) ∧ Below w.heap.size w w' := by
  have HC := Lib.hid (refEncode_any A k c w h hb)
  have hl := encs_le k
  clear h
  rcases chk_cases k with h0 | h0
  · have HV := Lib.hid (behV_good h0)
    rw [encV_good h0] at HC
    generalize K.encs k = es at *
    clear h0
    go_enter Tryd.func13, Tryd.ntmps13
    go_wp2_with fail
    refine HC.out.mono ?_
    rintro e w1 ⟨rfl, hb1⟩
    have hcv : (convert 37 9 (.slice (some ⟨w1.heap.size, 0, none⟩) 1 1)).run Tryd.prog (w1.alloc (.cells #[.int .u8 255] 5)) = .ok (.string ⟨#[255]⟩) (w1.alloc (.cells #[.int .u8 255] 5)) := string_of (P := Tryd.prog) (c := 1) (l := [255]) (w1.alloc (.cells #[.int .u8 255] 5)) 37 9 5 Tryd.underlying37 Tryd.underlying5 Tryd.underlying9 (byt_lit w1 [255] #[.int .u8 255] 5 _ rfl rfl)
    go_wp2_with fail
    go_ret2
    exact ⟨by rw [HV.out]; rfl, hb1.trans ((below_alloc _ _).mono hb1.size)⟩
  · have HV := Lib.hid (behV_bad (k := k) (by omega))
    rw [encV_bad (by omega)] at HC
    rcases h0 with h0 | h0
    all_goals
      rw [h0] at HC HV
      clear h0
      go_enter Tryd.func13, Tryd.ntmps13
      go_wp2_with fail
      refine HC.out.mono ?_
      rintro e w1 ⟨rfl, hb1⟩
      go_wp2_with fail
      go_ret2
      exact ⟨by rw [HV.out]; rfl, hb1⟩
end Go.Proofs.YtkanpdhlpobfoaaDoor
