/-
  The law OctetsFrames, by contract.
-/
import Derived.Test.YtjjjbjepgieahaaV
namespace Go.Proofs.Ytjjjbjepgieahaa
open Go.RowKit

/-- a row of bytes, whatever they are -/
def Bytes (xs : List Value) : Prop := ∀ u ∈ xs, ∃ b : UInt8, u = bv b
theorem bytes_map (l : Bs) : Bytes (l.map bv) := fun u hu => by
  obtain ⟨b, _, rfl⟩ := List.mem_map.1 hu
  exact ⟨b, rfl⟩
theorem bytes_set {xs : List Value} (h : Bytes xs) (k : Nat) (b : UInt8) : Bytes (xs.set k (bv b)) := fun u hu => by
  rcases List.mem_or_eq_of_mem_set hu with h1 | h1
  · exact h u h1
  · exact ⟨b, h1⟩
theorem bv_inc (b : UInt8) : .int .u8 (((b.toNat : Int) + 1) % 256) = bv (UInt8.ofNat (b.toNat + 1)) := by
  unfold bv
  rw [UInt8.toNat_ofNat']
  congr 1
/-- a row of bytes at a place -/
theorem bytes_at {w : World} {B g n cap : Nat} {xs : List Value} (h : w.ownsRow B 5 1 (.slice (some ⟨g, 0, none⟩) n cap) n xs) (hb : Bytes xs) {k : Nat} (hk : k < n) :
    ∃ b : UInt8, w.cell? ⟨g, k, none⟩ = some (.int .u8 (b.toNat : Nat)) ∧ w.frozen? ⟨g, k, none⟩ = false ∧
      (w.setCell ⟨g, k, none⟩ (.int .u8 (((b.toNat : Int) + 1) % 256))).ownsRow B 5 1 (.slice (some ⟨g, 0, none⟩) n cap) n (xs.set k (.int .u8 (((b.toNat : Int) + 1) % 256))) ∧
      Bytes (xs.set k (.int .u8 (((b.toNat : Int) + 1) % 256))) ∧ w.grownBy (w.setCell ⟨g, k, none⟩ (.int .u8 (((b.toNat : Int) + 1) % 256))) (some g) := by
  have hlen : xs.length = n := by have := h.1; omega
  have hc := h.cellAt k (by omega)
  rw [List.getElem?_eq_getElem (by omega)] at hc
  obtain ⟨b, hbv⟩ := hb _ (List.getElem_mem (show k < xs.length by omega))
  rw [hbv] at hc
  have hs := h.stored k (.int .u8 (((b.toNat : Int) + 1) % 256))
  refine ⟨b, hc, h.frozenAt k, hs.1, ?_, hs.2⟩
  rw [bv_inc]
  exact bytes_set hb k _

theorem byt_own {w : World} {B n m c : Nat} {A : Option Addr} {l : Bs} (h : w.ownsRow B 5 1 (.slice A n c) m (l.map bv)) : Byt w A l := by
  obtain ⟨-, A', c', hv, -, hY⟩ := Byt.of_own h
  injection hv with hA
  subst hA
  exact hY
theorem own_some {w : World} {B n c : Nat} {A : Option Addr} {xs : List Value} (h : w.ownsRow B 5 1 (.slice A n c) n xs) (hn : 0 < n) : ∃ g, A = some ⟨g, 0, none⟩ ∧ B ≤ g ∧ g < w.heap.size := by
  rcases h.2 with ⟨-, h0⟩ | ⟨g, cap, cur, hv, hg, hh, -⟩
  · omega
  · injection hv with hA
    exact ⟨g, hA, hg, (Array.getElem?_eq_some_iff.1 hh).1⟩
set_option maxRecDepth 20000 in
set_option maxHeartbeats 2000000 in
theorem lawFrames (A : Option Addr) (l : Bs) (c : Nat) (most : Int) (w : World) (h : Byt w A l) (hl : l.length ≤ 140737488351232) (hlc : l.length ≤ c) (hm : most ≤ 9223372036854775807) :
    Calls Try.prog 5 #[.slice A l.length c, .int .i64 most] w fun e w' => e = .returned (.bool true) ∧ Below w.heap.size w w' := by
  obtain ⟨i0, hi, hz0, hz1, hz2⟩ := info_parts info5
  have HYl : Hid (∀ w', Below w.heap.size w w' → Byt w' A l) := fun w' hb => h.below hb
  have H1 : Hid (∀ w' A c, Byt w' A l → Calls Try.prog 20 #[.slice A l.length c] w' (GivesB w' (frame l))) := fun w' A c hy => frame_any A l c w' hy hl
  have H2 : Hid (∀ w' A c, Byt w' A l → Calls Try.prog 23 #[.slice A l.length c] w' (GivesB w' (frame l))) := fun w' A c hy => refFrame_any A l c w' hy hl
  have H3 : Hid (∀ w' A c, Byt w' A l → l.length ≤ c → Calls Try.prog 21 #[.slice A l.length c, .int .i64 most] w' (GivesU w' (unfr l most))) := fun w' A c hy hc => unframe_any A l c most w' hy hl hc hm
  have H4 : Hid (∀ w' A c, Byt w' A l → l.length ≤ c → Calls Try.prog 22 #[.slice A l.length c, .int .i64 most] w' (GivesU w' (unfr l most))) := fun w' A c hy hc => refUnframe_any A l c most w' hy hl hc hm
  have H5 : Hid (∀ w' A c, Byt w' A l → Calls Try.prog 24 #[.slice A l.length c] w' fun e w'' => e = .returned (.int .u32 (sum l : Nat)) ∧ Below w'.heap.size w' w'') := fun w' A c hy => sum_any A l c w' hy (by omega)
  have H6 : Hid (∀ w' A c, Byt w' A l → Calls Try.prog 25 #[.slice A l.length c] w' fun e w'' => e = .returned (.int .u32 (sum l : Nat)) ∧ w' = w'') := fun w' A c hy => refSum_any A l c w' hy (by omega)
  have hfl : 8 ≤ (frame l).length := by rw [frame_length]; omega
  have hfl2 : (frame l).length ≤ 140737488351240 := by rw [frame_length]; omega
  have hul : (unfr l most).1.length ≤ 140737488351232 := by
    unfold unfr
    split
    · simp
    · split
      · simp
      · split
        · simp
        · show ((l.drop 8).take (word l)).length ≤ _
          rw [List.length_take, List.length_drop]
          omega
  generalize frame l = fr at *
  generalize unfr l most = ur at *
  generalize sum l = sm at *
  obtain ⟨xb, xk, xe⟩ := ur
  simp only at hul
  have HLC := Lib.hid hlc
  clear h hm
  go_enter Try.func5, Try.ntmps5
  go_wp2_with (at_builtin
               refine app_bytes _ rfl (.const (.slice none 0 0)) (.tmp 16) 25 (by rfl) w.heap.size 5 i0 _ Try.underlying25 hi hz0 hz1 hz2 rfl _ 0 [] (by rfl) (World.ownsRow_nil _ _ _ _) A c l (by rfl) (HYl.out _ (Below.refl _ _)) (by omega) (Nat.le_refl _) ?_
               intro v1 w1 hown1 hb1
               rw [Nat.zero_add, List.nil_append] at hown1
               obtain ⟨-, A1, c1, rfl, hc1, hY1⟩ := Byt.of_own hown1
               clear hown1)
  have HY1 : Hid (∀ w', Below w1.heap.size w1 w' → Byt w' A1 l) := fun w' hb => hY1.below hb
  have HC1 := Lib.hid hc1
  clear hY1 hc1
  refine (H1.out _ _ _ (HY1.out _ (Below.refl _ _))).mono ?_
  rintro e w2 ⟨v, rfl, hown2, hc2⟩
  rcases hown2.2 with ⟨-, h0⟩ | ⟨gf, capf, cur, rfl, hgf, -, hcf, -⟩
  · omega
  clear cur
  go_wp2_with fail
  refine (H3.out _ _ _ (HY1.out _ hc2) HC1.out).mono ?_
  rintro e w3 ⟨vx, rfl, hown3, hb3⟩
  obtain ⟨-, Ax, cx, rfl, -, -⟩ := Byt.of_own hown3
  have hf3 := own_below hown2 hb3
  have hc3 := hc2.trans (hb3.mono hc2.size)
  have HGX : Hid (gf < w2.heap.size) := Lib.hid (hown2.lt gf rfl).2
  clear hown2 hb3
  go_wp2_with fail
  refine (H4.out _ _ _ (HYl.out _ (hb1.trans (hc3.mono hb1.size))) HLC.out).mono ?_
  rintro e w4 ⟨vy, rfl, hown4, hb4⟩
  obtain ⟨-, A4, c4, rfl, -, hY4⟩ := Byt.of_own hown4
  have hx4 := own_below hown3 hb4
  have hf4 := own_below hf3 hb4
  have hc4 := hc3.trans (hb4.mono hc3.size)
  clear hown4 hown3 hf3 hb4 hc3
  go_wp2_with fail
  refine (H2.out _ _ _ (HYl.out _ (hb1.trans (hc4.mono hb1.size)))).mono ?_
  rintro e w5 ⟨v, rfl, hown5, hb5⟩
  obtain ⟨-, A5, c5, rfl, -, hY5⟩ := Byt.of_own hown5
  have hx := own_below hx4 hb5
  have hf := own_below hf4 hb5
  have hY4' := hY4.below hb5
  have hc5 := hc4.trans (hb5.mono hc4.size)
  clear hown5 hx4 hf4 hY4 hc4
  go_wp2_with fail
  refine (same_any _ _ fr _ _ _ (byt_own hf) hY5).mono ?_
  rintro e w' ⟨rfl, rfl⟩
  clear hY5
  go_wp2_with fail
  refine (H5.out _ _ _ (HY1.out _ hc5)).mono ?_
  rintro e w6 ⟨rfl, hb6⟩
  have hx' := own_below hx hb6
  have hf' := own_below hf hb6
  have hY4 := hY4'.below hb6
  have hc6 := hc5.trans (hb6.mono hc5.size)
  clear hx hf hY4' hb6 hc5
  go_wp2_with fail
  refine (H6.out _ _ _ (HYl.out _ (hb1.trans (hc6.mono hb1.size)))).mono ?_
  rintro e w' ⟨rfl, rfl⟩
  go_wp2_with fail
  refine (same_any _ _ xb _ _ _ (byt_own hx') hY4).mono ?_
  rintro e w' ⟨rfl, rfl⟩
  clear hY4
  have HNE : Hid ((Value.slice Ax xb.length cx).ownBlock ≠ some gf) := by
    intro he
    have := (hx'.lt gf he).1
    have := HGX.out
    omega
  go_wp2
  go_loopw [62] (fun i wr => ∃ (k : Nat) (xs : List Value), k ≤ fr.length ∧ i = .int .i64 k ∧ wr.ownsRow w1.heap.size 5 1 (.slice (some ⟨gf, 0, none⟩) fr.length capf) fr.length xs ∧ Bytes xs ∧
      wr.ownsRow w2.heap.size 5 1 (.slice Ax xb.length cx) xb.length (xb.map bv) ∧ Below w1.heap.size w1 wr)
    (fun i _ => fr.length - (intOf i).toNat)
  case atStart => exact ⟨0, _, by omega, rfl, hf', bytes_map fr, hx', hc6⟩
  case round =>
    obtain ⟨k, xs, hk, rfl, ho, hbs, hxo, hcw⟩ := hrel
    clear hf' hx' hc6
    by_cases hlt : k < fr.length
    · obtain ⟨b, hcell, hfz, ho2, hbs2, hgr⟩ := bytes_at ho hbs hlt
      have H : Hid ((wr.setCell ⟨gf, k, none⟩ (.int .u8 (((b.toNat : Int) + 1) % 256))).ownsRow w1.heap.size 5 1 (.slice (some ⟨gf, 0, none⟩) fr.length capf) fr.length (xs.set k (.int .u8 (((b.toNat : Int) + 1) % 256))) ∧ Bytes (xs.set k (.int .u8 (((b.toNat : Int) + 1) % 256))) ∧
          (wr.setCell ⟨gf, k, none⟩ (.int .u8 (((b.toNat : Int) + 1) % 256))).ownsRow w2.heap.size 5 1 (.slice Ax xb.length cx) xb.length (xb.map bv) ∧ Below w1.heap.size w1 (wr.setCell ⟨gf, k, none⟩ (.int .u8 (((b.toNat : Int) + 1) % 256)))) :=
        ⟨ho2, hbs2, hxo.kept hgr (.inr HNE.out), hcw.setCell (by exact hgf) _⟩
      have hb8 := b.toNat_lt
      clear ho hbs hxo hcw ho2 hbs2 hgr
      go_wp2
      go_roundw
      case rel => exact ⟨k + 1, _, by omega, by go_num, H.out.1, H.out.2.1, H.out.2.2.1, H.out.2.2.2⟩
      case measure => simp [intOf]; omega
    · clear ho hbs
      obtain ⟨wo, rfl⟩ : ∃ wo : World, wo = wr := ⟨_, rfl⟩
      go_wp2
      go_loopw [74] (fun i wr => ∃ (k : Nat) (xs : List Value), k ≤ xb.length ∧ i = .int .i64 k ∧ wr.ownsRow w2.heap.size 5 1 (.slice Ax xb.length cx) xb.length xs ∧ Bytes xs ∧ Below w1.heap.size w1 wr)
        (fun i _ => xb.length - (intOf i).toNat)
      case atStart => exact ⟨0, _, by omega, rfl, hxo, bytes_map xb, hcw⟩
      case round =>
        obtain ⟨j, ys, hj, rfl, ho, hbs, hcw2⟩ := hrel
        clear hxo hcw
        by_cases hltj : j < xb.length
        · obtain ⟨gx, rfl, hgx, -⟩ := own_some ho (by omega)
          obtain ⟨b, hcell, hfz, ho2, hbs2, -⟩ := bytes_at ho hbs hltj
          have H : Hid ((wr.setCell ⟨gx, j, none⟩ (.int .u8 (((b.toNat : Int) + 1) % 256))).ownsRow w2.heap.size 5 1 (.slice (some ⟨gx, 0, none⟩) xb.length cx) xb.length (ys.set j (.int .u8 (((b.toNat : Int) + 1) % 256))) ∧ Bytes (ys.set j (.int .u8 (((b.toNat : Int) + 1) % 256))) ∧
              Below w1.heap.size w1 (wr.setCell ⟨gx, j, none⟩ (.int .u8 (((b.toNat : Int) + 1) % 256)))) :=
            ⟨ho2, hbs2, hcw2.setCell (Nat.le_trans hc2.size (by exact hgx)) _⟩
          have hb8 := b.toNat_lt
          clear ho hbs hcw2 ho2 hbs2
          go_wp2
          go_roundw
          case rel => exact ⟨j + 1, _, by omega, by go_num, H.out.1, H.out.2.1, H.out.2.2⟩
          case measure => simp [intOf]; omega
        · clear ho hbs
          go_wp2_with fail
          refine (live_any _).mono ?_
          rintro e w8 ⟨rfl, hb8⟩
          have hc8 := hcw2.trans (hb8.mono hcw2.size)
          clear hcw2 hb8
          go_wp2_with fail
          refine (framed_any _).mono ?_
          rintro e w9 ⟨rfl, hb9⟩
          have hc9 := hc8.trans (hb9.mono hc8.size)
          have hbw := hb1.trans (hc9.mono hb1.size)
          clear hc8 hb9
          go_wp2_with fail
          refine (same_any _ _ l _ _ _ (HY1.out _ hc9) (HYl.out _ hbw)).mono ?_
          rintro e w' ⟨rfl, rfl⟩
          go_wp2
          go_ret
          exact ⟨rfl, hbw⟩
end Go.Proofs.Ytjjjbjepgieahaa
