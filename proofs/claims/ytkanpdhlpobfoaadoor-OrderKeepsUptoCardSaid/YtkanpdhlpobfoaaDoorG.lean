/-
  Encode, Behind, by contract.
-/
import Derived.Test.YtkanpdhlpobfoaaDoorD
import Derived.Test.YtkanpdhlpobfoaaDoorF
namespace Go.Proofs.YtkanpdhlpobfoaaDoor
open Go.RowKit
open K (Pt)

theorem chk_cases (k : List Pt) : K.chk k = 0 ∨ K.chk k = 2 ∨ K.chk k = 50 := by
  unfold K.chk
  split
  · split <;> simp
  · simp
/-- what Encode answers -/
def encV (k : List Pt) : Value := .tuple #[.string ⟨(K.wrt k).toArray⟩, .int .i64 (K.chk k)]
theorem encV_bad {k : List Pt} (h : K.chk k ≠ 0) : encV k = .tuple #[.string ⟨#[]⟩, .int .i64 (K.chk k)] := by
  unfold encV K.wrt
  rw [if_neg h]
theorem encV_good {k : List Pt} (h : K.chk k = 0) : encV k = .tuple #[.string ⟨(K.encs k).toArray⟩, .int .i64 0] := by
  unfold encV K.wrt
  rw [if_pos h, h]
theorem take_encs (k : List Pt) (j : Nat) : (K.encs (k.take j)).length ≤ (K.encs k).length := by
  have := K.encs_append (k.take j) (k.drop j)
  rw [List.take_append_drop] at this
  rw [this, List.length_append]
  omega
set_option maxRecDepth 4000 in
set_option maxHeartbeats 1000000 in
theorem encode_any (A : Option Addr) (k : List Pt) (c : Nat) (w : World) (h : Row w A k) (hb : bulk k ≤ 1048576) (hM : Ml w) :
    Calls Tryd.prog 10 #[.slice A k.length c] w fun e w' => e = .returned (encV k) ∧ Below w.heap.size w w' := by
  have HC := Lib.hid (chk_any A k c w h hb)
  have hll : k.length ≤ 1048576 := Nat.le_trans (length_le_bulk k) hb
  rcases chk_cases k with h0 | h0
  · obtain ⟨i0, hi, hz0, hz1, hz2⟩ := info_parts info5
    have HV := Lib.hid (encV_good h0)
    have hgood := K.chk_zero h0
    rw [h0] at HC
    obtain ⟨hmay, h256⟩ := hgood
    have HMay := Lib.hid hmay
    clear h0 hmay
    go_enter Tryd.func10, Tryd.ntmps10
    go_wp2_with fail
    refine HC.out.mono ?_
    rintro e w1 ⟨rfl, hb1⟩
    have HR := Lib.hid (h.below hb1)
    have HMl := Lib.hid (hM.below hb1)
    have HB1 := Lib.hid hb1
    have HS1 := Lib.hid hb1.size
    clear h hM hb1 HC
    go_wp2_with (at_make; refine wpList_make_own _ rfl _ _ 37 (by rfl) w1.heap.size 5 i0 _ 1 Tryd.underlying37 hi hz0 hz1 .i64 .i64 _ 256 (by rfl) (by rfl) ?c1 ?c2 ?c3 (Nat.le_refl _) ?_)
    case c1 => omega
    case c2 => rw [hz2]; omega
    case c3 => unfold maxLen; omega
    intro w2 hown2 hg2
    have HB2 : Hid (Below w1.heap.size w1 w2) := (Below.refl _ _).grown hg2 (Nat.le_refl _) (by intro k hk; cases hk)
    obtain ⟨v2, hv2⟩ : ∃ v2, v2 = Value.slice (some ⟨w1.heap.size, 0, none⟩) 0 256 := ⟨_, rfl⟩
    rw [← hv2] at hown2 ⊢
    have HO2 : Hid (Own w2 (· < w1.heap.size) v2 []) := ⟨own_lower hown2 (Nat.zero_le _), fun k hk => by have := (hown2.lt k hk).1; simp; omega⟩
    clear hg2 hown2 hv2
    go_wp2_with fail
    go_loopw [5, 16] (fun x i wr => ∃ j : Nat, j ≤ k.length ∧ i = .int .i64 j ∧ Own wr (· < w1.heap.size) x (K.encs (k.take j)) ∧ Fr (· < w1.heap.size) w1 wr)
      (fun _ i _ => k.length - (intOf i).toNat)
    case atStart => exact ⟨0, by omega, rfl, HO2.out, Fr.of HB2.out fun _ hk => hk⟩
    case round =>
      obtain ⟨j, hj, rfl, hO, hf⟩ := hrel
      by_cases hlt : j < k.length
      · obtain ⟨g, o, rfl, hg, hp⟩ := HR.out.at_ hlt
        have hbw : Below w1.heap.size w1 wr := hf.below
        obtain ⟨c0, c1, c2⟩ := hp.below hg hbw
        have hps := mem_bulk (List.getElem_mem hlt)
        have hl1 := take_encs k j
        have HF : Hid (∀ i, i < w1.heap.size → i < (wr.alloc (cellsP k[j])).heap.size) := Lib.hid fun i hi => by have := hf.size; simp; omega
        have HA := Lib.hid fun (hF : ∀ i, i < w1.heap.size → i < (wr.alloc (cellsP k[j])).heap.size) v (l : Bs) (h : Own (wr.alloc (cellsP k[j])) (· < w1.heap.size) v l) (hM : Ml (wr.alloc (cellsP k[j]))) (hl : l.length ≤ 1048576) => appendPart_any (· < w1.heap.size) v l k[j] (wr.alloc (cellsP k[j])) hF h hM (HMl.out.lt) (HMay.out _ (List.getElem_mem hlt)) (by omega) hl
        have HE := Lib.hid (encs_snoc k j hlt)
        have hO1 := Lib.hid (hO.below (below_alloc wr (cellsP k[j])))
        have hM1 := Lib.hid ((HMl.out.fr (F := (· < w1.heap.size)) HMl.out.lt hf).below (below_alloc wr (cellsP k[j])))
        have hf1 := Lib.hid (hf.alloc (fun _ hk => hk) (cellsP k[j]))
        generalize K.encs (k.take j) = es at *
        generalize k[j] = p at *
        obtain ⟨t, n, s⟩ := p
        unfold cellsP at *
        simp only [pV] at *
        clear hp hO hf hbw
        go_wp2_with fail
        refine (HA.out HF.out _ _ hO1.out hM1.out (by omega)).mono ?_
        rintro e w3 ⟨v3, rfl, hO3, hf3⟩
        have HO : Hid (Own w3 (· < w1.heap.size) v3 (K.encs (k.take (j + 1)))) := by
          show Own _ _ _ _
          rw [HE.out]
          exact hO3
        have hf4 := hf1.out.trans hf3
        clear hO3 hf3 c0 c1 c2
        go_wp2_with fail
        go_roundw
        case rel => exact ⟨j + 1, by omega, by go_num, HO.out, hf4⟩
        case measure => simp [intOf]; omega
      · obtain rfl : j = k.length := by omega
        rw [List.take_length] at hO
        obtain ⟨A', c', rfl, hlc, hY⟩ := hO.open
        have hcv := string_of (P := Tryd.prog) (c := c') wr 37 9 5 Tryd.underlying37 Tryd.underlying5 Tryd.underlying9 hY
        have HB : Hid (Below w.heap.size w wr) := HB1.out.trans (hf.below.mono HS1.out)
        generalize K.encs k = es at *
        clear hO hf hY
        go_wp2_with fail
        go_ret2
        exact ⟨by rw [HV.out]; rfl, HB.out⟩
  · have HV := Lib.hid (encV_bad (k := k) (by omega))
    rcases h0 with h0 | h0
    all_goals
      rw [h0] at HC HV
      clear h0 h
      go_enter Tryd.func10, Tryd.ntmps10
      go_wp2_with fail
      refine HC.out.mono ?_
      rintro e w1 ⟨rfl, hb1⟩
      go_wp2_with fail
      go_ret2
      exact ⟨by rw [HV.out]; rfl, hb1⟩
/-- what Behind answers -/
def behV (k : List Pt) : Value := .tuple #[.string ⟨(if K.chk k = 0 then K.encs k ++ [255] else []).toArray⟩, .int .i64 (K.chk k)]
theorem behV_bad {k : List Pt} (h : K.chk k ≠ 0) : behV k = .tuple #[.string ⟨#[]⟩, .int .i64 (K.chk k)] := by
  unfold behV
  rw [if_neg h]
theorem behV_good {k : List Pt} (h : K.chk k = 0) : behV k = .tuple #[.string ⟨(K.encs k ++ [255]).toArray⟩, .int .i64 0] := by
  unfold behV
  rw [if_pos h, h]
set_option maxRecDepth 4000 in
theorem behind_any (A : Option Addr) (k : List Pt) (c : Nat) (w : World) (h : Row w A k) (hb : bulk k ≤ 1048576) (hM : Ml w) :
    Calls Tryd.prog 12 #[.slice A k.length c] w fun e w' => e = .returned (behV k) ∧ Below w.heap.size w w' := by
  have HC := Lib.hid (encode_any A k c w h hb hM)
  have hl := encs_le k
  clear h
  rcases chk_cases k with h0 | h0
  · have HV := Lib.hid (behV_good h0)
    rw [encV_good h0] at HC
    generalize K.encs k = es at *
    clear h0
    go_enter Tryd.func12, Tryd.ntmps12
    go_wp2_with fail
    refine HC.out.mono ?_
    rintro e w1 ⟨rfl, hb1⟩
    go_wp2_with fail
    go_ret2
    exact ⟨by rw [HV.out]; rfl, hb1⟩
  · have HV := Lib.hid (behV_bad (k := k) (by omega))
    rw [encV_bad (by omega)] at HC
    rcases h0 with h0 | h0
    all_goals
      rw [h0] at HC HV
      clear h0
      go_enter Tryd.func12, Tryd.ntmps12
      go_wp2_with fail
      refine HC.out.mono ?_
      rintro e w1 ⟨rfl, hb1⟩
      go_wp2_with fail
      go_ret2
      exact ⟨by rw [HV.out]; rfl, hb1⟩
end Go.Proofs.YtkanpdhlpobfoaaDoor
