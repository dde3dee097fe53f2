/-
  The law OctetsBursts, by contract.
-/
import Derived.Test.YtjjjbjepgieahaaW
import Derived.Test.YtjjjbjepgieahaaFlp
namespace Go.Proofs.Ytjjjbjepgieahaa
open Go.RowKit

set_option maxRecDepth 20000 in
set_option maxHeartbeats 1000000 in
theorem bursts_early (A : Option Addr) (l : Bs) (c : Nat) (at' : Int) (bits : Nat) (w : World) (h : Byt w A l) (hl : l.length ≤ 140737488351232) (he : 4000 < l.length ∨ bits = 0) :
    Calls Try.prog 8 #[.slice A l.length c, .int .i64 at', .int .u32 bits] w fun e w' => e = .returned (.bool true) ∧ Below w.heap.size w w' := by
  have H1 : Hid (∀ w', Below w.heap.size w w' → Calls Try.prog 20 #[.slice A l.length c] w' (GivesB w' (frame l))) := fun w' hb => frame_any A l c w' (h.below hb) hl
  have hfl : 8 ≤ (frame l).length := by rw [frame_length]; omega
  generalize frame l = fr at *
  have hcase : 4000 < l.length ∨ (l.length ≤ 4000 ∧ ((bits : Int) == 0) = true) := by
    by_cases h4 : 4000 < l.length
    · exact .inl h4
    · exact .inr ⟨by omega, by rw [beq_iff_eq]; omega⟩
  clear he h
  rcases hcase with h4 | ⟨h4, hz⟩
  all_goals
    go_enter Try.func8, Try.ntmps8
    go_wp2_with fail
    refine (framed_any _).mono ?_
    rintro e w1 ⟨rfl, hb1⟩
    go_wp2_with fail
    refine (H1.out _ hb1).mono ?_
    rintro e w2 ⟨v, rfl, hown, hb⟩
    obtain ⟨-, A2, c2, rfl, -, -⟩ := Byt.of_own hown
    have hb2 := hb1.trans (hb.mono hb1.size)
    clear hown hb hb1
    go_wp2
    go_ret
    exact ⟨rfl, hb2⟩

theorem bit_test (bits j : Nat) : (((bits : Int) / 2 ^ j).tmod 2 == 1) = bits.testBit j := by
  have e : ((bits : Int) / 2 ^ j) = ((bits / 2 ^ j : Nat) : Int) := by simp
  rw [bit_div, e]
  generalize bits / 2 ^ j = x
  rw [Int.tmod_eq_emod_of_nonneg (by omega), Bool.eq_iff_iff]
  simp
  omega
theorem xor_bit (c : UInt8) (q : Nat) (hq : q < 8) : Value.int .u8 (Go.bits .xor .u8 (c.toNat : Int) ((2 : Int) ^ q % 256)) = bv (UInt8.ofNat (c.toNat ^^^ 2 ^ q)) := by
  have hc := c.toNat_lt
  have h8 : 2 ^ q ≤ 128 := Nat.pow_le_pow_right (n := 2) (j := 7) (by decide) (by omega)
  have e2 : ((2 : Int) ^ q) = ((2 ^ q : Nat) : Int) := by simp
  rw [e2]
  generalize 2 ^ q = y at *
  have e : ((y : Int) % 256) = (y : Int) := by omega
  have hx : c.toNat ^^^ y < 2 ^ 8 := Nat.xor_lt_two_pow hc (by omega)
  rw [e, u8_xor_nat _ _ (by omega) (by omega)]
  unfold bv
  rw [ofNat_small (by omega)]
theorem tmod_lt {a M : Int} (h : 0 < M) : -M < Int.tmod a M ∧ Int.tmod a M < M := by
  have h1 := Int.tmod_lt_of_pos a h
  have h2 := Int.lt_tmod_of_pos a h
  exact ⟨h2, h1⟩
set_option maxRecDepth 20000 in
set_option maxHeartbeats 1000000 in
theorem bursts_late (A : Option Addr) (l : Bs) (c : Nat) (at' : Int) (bits : Nat) (w : World) (h : Byt w A l) (hl : l.length ≤ 4000) (h0 : bits ≠ 0) (hb : bits < 4294967296) (hat : -9223372036854775808 ≤ at' ∧ at' ≤ 9223372036854775807) :
    Calls Try.prog 8 #[.slice A l.length c, .int .i64 at', .int .u32 bits] w fun e w' => e = .returned (.bool true) ∧ Below w.heap.size w w' := by
  have H1 : Hid (∀ w', Below w.heap.size w w' → Calls Try.prog 20 #[.slice A l.length c] w' (GivesB w' (frame l))) := fun w' hb => frame_any A l c w' (h.below hb) (by omega)
  have hfl : (frame l).length = 8 + l.length := frame_length l
  obtain ⟨M, hM⟩ : ∃ M : Nat, M = 8 * (frame l).length - 31 := ⟨_, rfl⟩
  obtain ⟨a1, ha1⟩ : ∃ a1, Int.tmod at' (8 * ((frame l).length : Int) - 31) = a1 := ⟨_, rfl⟩
  have hab := tmod_lt (a := at') (show 0 < 8 * ((frame l).length : Int) - 31 by omega)
  rw [ha1] at hab
  obtain ⟨k, hk⟩ : ∃ k : Nat, (a1 + (8 * ((frame l).length : Int) - 31)) % (8 * ((frame l).length : Int) - 31) = (k : Int) := ⟨_, (Int.toNat_of_nonneg (Int.emod_nonneg _ (by omega))).symm⟩
  have hkM : k < M := by
    have := Int.emod_lt_of_pos (a1 + (8 * ((frame l).length : Int) - 31)) (show 0 < 8 * ((frame l).length : Int) - 31 by omega)
    omega
  obtain ⟨hat1, hat2⟩ := hat
  obtain ⟨hab1, hab2⟩ := hab
  have hkf : k + 32 ≤ 8 * (frame l).length := by omega
  have hz : ((bits : Int) == 0) = false := by rw [beq_eq_false_iff_ne]; omega
  have hf1 : 8 ≤ (frame l).length := by omega
  have hf2 : (frame l).length ≤ 4008 := by omega
  clear hM hkM hfl
  generalize hfr : frame l = fr at *
  have HFR := Lib.hid hfr
  have H00 := Lib.hid h0
  clear hfr h h0
  go_enter Try.func8, Try.ntmps8
  go_wp2_with fail
  refine (framed_any _).mono ?_
  rintro e w1 ⟨rfl, hb1⟩
  go_wp2_with fail
  refine (H1.out _ hb1).mono ?_
  rintro e w2 ⟨v, rfl, hown, hb2⟩
  rcases hown.2 with ⟨-, h0⟩ | ⟨gf, capf, cur, rfl, hgf, -, hcf, -⟩
  · omega
  clear cur
  go_wp2
  rw [hk]
  have hfz0 : (flip fr (upTo bits k 0)).map bv = fr.map bv := by rw [upTo_zero, flip_zero]
  have hown0 : w2.ownsRow w1.heap.size 5 1 (.slice (some ⟨gf, 0, none⟩) fr.length capf) fr.length ((flip fr (upTo bits k 0)).map bv) := by rw [hfz0]; exact hown
  clear hk ha1 hab1 hab2 hown hfz0 hat1 hat2
  go_loopw [10, 11, 48] (fun hd rs i wr => ∃ j : Nat, j ≤ 32 ∧ i = .int .i64 j ∧ hd = .bool (hdF bits k j) ∧ rs = .bool (rsF bits k j) ∧
      wr.ownsRow w1.heap.size 5 1 (.slice (some ⟨gf, 0, none⟩) fr.length capf) fr.length ((flip fr (upTo bits k j)).map bv) ∧ Below w1.heap.size w1 wr)
    (fun _ _ i _ => 32 - (intOf i).toNat)
  case atStart => exact ⟨0, by omega, rfl, rfl, rfl, hown0, hb2⟩
  case round =>
    obtain ⟨j, hj, rfl, rfl, rfl, ho, hcw⟩ := hrel
    clear hown0 hb2
    by_cases hlt : j < 32
    · have hd := hdF_succ bits k j
      have rs := rsF_succ bits k j
      by_cases hbit : bits.testBit j = true
      · have hup := upTo_yes (k := k) hbit
        have hlen : (k + j) / 8 < fr.length := by omega
        have hfs := flip_set fr (upTo bits k j) ((k + j) / 8) ((k + j) % 8) hlen (by omega) (by rw [show 8 * ((k + j) / 8) + (k + j) % 8 = k + j by omega]; exact upTo_lt bits k j)
        rw [show 8 * ((k + j) / 8) + (k + j) % 8 = k + j by omega, ← hup] at hfs
        have hbd := bit_test bits j
        rw [hbit] at hbd
        rw [hbit, Bool.true_and] at hd rs
        have hcell := ho.cellAt ((k + j) / 8) (by omega)
        have hfz := ho.frozenAt ((k + j) / 8)
        have hst := ho.stored ((k + j) / 8)
        have hlf : (k + j) / 8 < (flip fr (upTo bits k j)).length := by rw [flip_length]; exact hlen
        rw [List.getElem?_map, List.getElem?_eq_getElem hlf] at hcell
        have HFS := Lib.hid hfs
        have HD := Lib.hid hd
        have HRS := Lib.hid rs
        have HST := Lib.hid hst
        have hc8 := ((flip fr (upTo bits k j))[(k + j) / 8]).toNat_lt
        generalize (flip fr (upTo bits k j))[(k + j) / 8] = ch at *
        simp only [Option.map_some, bv] at hcell
        have H : Hid ((wr.setCell ⟨gf, (k + j) / 8, none⟩ (.int .u8 (Go.bits .xor .u8 (ch.toNat : Int) ((2 : Int) ^ ((k + j) % 8) % 256)))).ownsRow w1.heap.size 5 1 (.slice (some ⟨gf, 0, none⟩) fr.length capf) fr.length ((flip fr (upTo bits k (j + 1))).map bv) ∧
            Below w1.heap.size w1 (wr.setCell ⟨gf, (k + j) / 8, none⟩ (.int .u8 (Go.bits .xor .u8 (ch.toNat : Int) ((2 : Int) ^ ((k + j) % 8) % 256))))) := by
          refine ⟨?_, hcw.setCell (by exact hgf) _⟩
          have := (HST.out (.int .u8 (Go.bits .xor .u8 (ch.toNat : Int) ((2 : Int) ^ ((k + j) % 8) % 256)))).1
          rw [HFS.out, List.map_set, ← xor_bit ch _ (Nat.mod_lt _ (by decide))]
          exact this
        generalize hdF bits k j = hd0 at *
        generalize rsF bits k j = rs0 at *
        clear hfs hd rs hst ho hup hbit hlf HST HFS hcw
        cases hd0
        · cases rs0
          · go_wp2
            go_roundw
            case rel => exact ⟨j + 1, by omega, by go_num, by rw [HD.out, Bool.false_or]; congr 1; rw [Bool.eq_iff_iff]; simp; omega, by rw [HRS.out, Bool.false_or]; congr 1; rw [Bool.eq_iff_iff]; simp; omega, H.out.1, H.out.2⟩
            case measure => simp [intOf]; omega
          · go_wp2
            go_roundw
            case rel => exact ⟨j + 1, by omega, by go_num, by rw [HD.out, Bool.false_or]; congr 1; rw [Bool.eq_iff_iff]; simp; omega, by rw [HRS.out, Bool.true_or], H.out.1, H.out.2⟩
            case measure => simp [intOf]; omega
        · cases rs0
          · go_wp2
            go_roundw
            case rel => exact ⟨j + 1, by omega, by go_num, by rw [HD.out, Bool.true_or], by rw [HRS.out, Bool.false_or]; congr 1; rw [Bool.eq_iff_iff]; simp; omega, H.out.1, H.out.2⟩
            case measure => simp [intOf]; omega
          · go_wp2
            go_roundw
            case rel => exact ⟨j + 1, by omega, by go_num, by rw [HD.out, Bool.true_or], by rw [HRS.out, Bool.true_or], H.out.1, H.out.2⟩
            case measure => simp [intOf]; omega
      · have hbit' : bits.testBit j = false := by simpa using hbit
        have hbd := bit_test bits j
        rw [hbit'] at hbd
        have hup := upTo_no (k := k) hbit'
        rw [hbit', Bool.false_and, Bool.or_false] at hd rs
        have H : Hid (wr.ownsRow w1.heap.size 5 1 (.slice (some ⟨gf, 0, none⟩) fr.length capf) fr.length ((flip fr (upTo bits k (j + 1))).map bv) ∧ Below w1.heap.size w1 wr) := by
          rw [hup]
          exact Lib.hid ⟨ho, hcw⟩
        have HD := Lib.hid hd
        have HRS := Lib.hid rs
        clear hup hd rs ho hbit hbit' hcw
        go_wp2
        go_roundw
        case rel => exact ⟨j + 1, by omega, by go_num, by rw [HD.out], by rw [HRS.out], H.out.1, H.out.2⟩
        case measure => simp [intOf]; omega
    · obtain rfl : j = 32 := by omega
      have HB : Hid (bits < 2 ^ 32) := by rw [lim32]; exact Lib.hid hb
      have HU := Lib.hid (upTo_all (k := k) HB.out)
      rw [HU.out] at ho
      have HO := Lib.hid ho
      have HCW := Lib.hid hcw
      have hcase : (hdF bits k 32 = true ∧ rsF bits k 32 = true) ∨ (((hdF bits k 32 = false ∧ rsF bits k 32 = true) ∨ (hdF bits k 32 = false ∧ rsF bits k 32 = false) ∨ (hdF bits k 32 = true ∧ rsF bits k 32 = false)) ∧ Hid (2 ^ k * bits < 2 ^ 64 ∨ 2 ^ k * bits % 2 ^ 64 = 0)) := by
        by_cases h1 : rsF bits k 32 = false
        · refine .inr ⟨?_, .inl (side_low HB.out h1)⟩
          cases h2 : hdF bits k 32
          · exact .inr (.inl ⟨rfl, h1⟩)
          · exact .inr (.inr ⟨rfl, h1⟩)
        · have h1' : rsF bits k 32 = true := by simpa using h1
          cases h2 : hdF bits k 32
          · exact .inr ⟨.inl ⟨rfl, h1'⟩, .inr (side_high HB.out h2)⟩
          · exact .inl ⟨rfl, h1'⟩
      generalize hdF bits k 32 = hd0 at *
      generalize rsF bits k 32 = rs0 at *
      clear ho hcw
      rcases hcase with ⟨rfl, rfl⟩ | ⟨hcase, hside⟩
      · go_wp2
        go_ret
        exact ⟨rfl, hb1.trans (HCW.out.mono hb1.size)⟩
      · have hk32 : k + 32 ≤ 8 * (8 + l.length) := by
          have := frame_length l
          rw [HFR.out] at this
          omega
        have hO := burst l bits k (by omega) HB.out H00.out hk32 hside.out
        have RU : Hid (∀ w', Byt w' (some ⟨gf, 0, none⟩) (flip fr (2 ^ k * bits)) → Calls Try.prog 21 #[.slice (some ⟨gf, 0, none⟩) fr.length capf, .int .i64 l.length] w' (GivesU w' (unfr (flip fr (2 ^ k * bits)) l.length))) := fun w' h' => by
          have := unframe_any (some ⟨gf, 0, none⟩) (flip fr (2 ^ k * bits)) capf l.length w' h' (by rw [flip_length]; omega) (by rw [flip_length]; exact hcf) (by omega)
          rw [flip_length] at this
          exact this
        rw [HFR.out] at hO
        have hfl : fr.length = 8 + l.length := by rw [← HFR.out]; exact frame_length l
        have hYF := byt_own HO.out
        have HYF := Lib.hid hYF
        generalize unfr (flip fr (2 ^ k * bits)) l.length = ur at *
        obtain ⟨xb, xk, xe⟩ := ur
        have hfacts : ((((xe : Int) == 0) = false ∧ ((xe : Int) != 0) = true)) ∨ ((((xe : Int) == 0) = true ∧ ((xe : Int) != 0) = false) ∧ (((xk : Int) == (fr.length : Int)) = false ∧ ((xb.length : Int) != (l.length : Int)) = true)) := by
          by_cases hxe : xe = 0
          · rcases hO with h | ⟨h1, h2⟩
            · exact absurd hxe h
            · simp only at h1 h2
              exact .inr ⟨⟨by rw [beq_iff_eq]; omega, by rw [bne_eq_false_iff_eq]; omega⟩, by rw [beq_eq_false_iff_ne]; omega, by rw [bne_iff_ne]; omega⟩
          · exact .inl ⟨by rw [beq_eq_false_iff_ne]; omega, by rw [bne_iff_ne]; omega⟩
        have HFA := Lib.hid hfacts
        clear hO hfl hside hfacts hYF HO hk32
        rcases hcase with ⟨rfl, rfl⟩ | ⟨rfl, rfl⟩ | ⟨rfl, rfl⟩
        all_goals
          go_wp2_with fail
          refine (RU.out _ HYF.out).mono ?_
          rintro e w4 ⟨v, rfl, hown4, hb4⟩
          obtain ⟨-, A4, c4, rfl, -, -⟩ := Byt.of_own hown4
          have hbw := hb1.trans ((HCW.out.trans (hb4.mono HCW.out.size)).mono hb1.size)
          clear hown4 hb4
          rcases HFA.out with ⟨e1, e2⟩ | ⟨⟨e1, e2⟩, e3, e4⟩
          · go_wp2
            go_ret
            exact ⟨rfl, hbw⟩
          · go_wp2
            go_ret
            exact ⟨rfl, hbw⟩
theorem lawBursts (A : Option Addr) (l : Bs) (c : Nat) (at' : Int) (bits : Nat) (w : World) (h : Byt w A l) (hl : l.length ≤ 140737488351232) (hb : bits < 4294967296) (hat : -9223372036854775808 ≤ at' ∧ at' ≤ 9223372036854775807) :
    Calls Try.prog 8 #[.slice A l.length c, .int .i64 at', .int .u32 bits] w fun e w' => e = .returned (.bool true) ∧ Below w.heap.size w w' := by
  by_cases h4 : 4000 < l.length
  · exact bursts_early A l c at' bits w h hl (.inl h4)
  · by_cases h0 : bits = 0
    · exact bursts_early A l c at' bits w h hl (.inr h0)
    · exact bursts_late A l c at' bits w h (by omega) h0 hb hat
end Go.Proofs.Ytjjjbjepgieahaa
