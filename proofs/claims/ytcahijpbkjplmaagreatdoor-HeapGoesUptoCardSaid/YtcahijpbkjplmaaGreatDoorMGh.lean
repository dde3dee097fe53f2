/-
 The chapter's example in plain Lean; num by contract.
 live, by contract: the chapter's example holds.
 A row of ops in memory.
-/
import Derived.Test.YtcahijpbkjplmaaGreatDoorMFn
import Derived.Test.YtcahijpbkjplmaaGreatDoorMZ0
set_option linter.unusedSimpArgs false
namespace Go.Proofs.YtcahijpbkjplmaaGreatDoor.G
open Go.RowKit Go.Shelf Go.Maps Go.Lib Go.Proofs.YtcahijpbkjplmaaGreatDoor
theorem num_any (n : Int) (w : World) : Calls Tryz.prog 27 #[.int .i64 n] w fun e w' => e = .returned (num n).v ∧ Below w.heap.size w w' := by
 have HB := Lib.hid (below_new w)
 go_enter Tryz.func27, Tryz.ntmps27
 go_wp2_with fail
 refine bodyPost_ret (res_v rfl _ _ w.heap.size (num n) (by rfl) ?_) rfl ⟨rfl, ?_⟩
 ·exact Blk.new w _ _
 ·exact HB.out _
def K0 : ByteArray := ⟨#[0, 48]⟩
def K1 : ByteArray := ⟨#[0, 49]⟩
def K5 : ByteArray := ⟨#[0, 53]⟩
theorem dec_one {n : Nat} (h : n < 10) : Lib.decDigits n = [UInt8.ofNat (48 + n)] := by
 rw [Lib.decDigits]
 simp [h]
theorem dx0 : dx 0 = K0 := by
 unfold dx
 rw [dec_one (by decide)]
 decide +kernel
theorem dx1 : dx 1 = K1 := by
 unfold dx
 rw [dec_one (by decide)]
 decide +kernel
theorem u0_any (w : World) : Calls Tryz.prog 16 #[.string ⟨#[48]⟩] w fun e w' => e = .returned (.string K0) ∧ Below w.heap.size w w' := by
 have h := u_any (l := [48]) (by unfold Asc; decide) (by decide) w
 rw [show bz (un [48]) = K0 from by decide +kernel] at h
 exact h
theorem u5_any (w : World) : Calls Tryz.prog 16 #[.string ⟨#[53]⟩] w fun e w' => e = .returned (.string K5) ∧ Below w.heap.size w w' := by
 have h := u_any (l := [53]) (by unfold Asc; decide) (by decide) w
 rw [show bz (un [53]) = K5 from by decide +kernel] at h
 exact h
def PA : Pr := ⟨K0, num 1, true, true, true⟩
def PB : Pr := ⟨K1, num 2, true, true, true⟩
def PC : Pr := ⟨K5, num 7, true, true, true⟩
def E1 : Hs := ⟨[⟨AR, none, [PA, PB], false, 2, true⟩], 9, 3⟩
def E2 : Hs := ⟨[⟨AR, none, [PA, PB, PC], false, 6, true⟩], 9, 4⟩
def E3 : Hs := ⟨[⟨AR, none, [PA], false, 1, true⟩], 9, 4⟩
theorem e1_is : (Hs.new 9).array dx AR null [num 1, num 2] = (E1, some 0) := by
 have h : (Hs.new 9).at null = none := at_none (by rintro ⟨h, -⟩; exact absurd h (by decide))
 unfold Hs.array
 rw [if_neg (by decide), h]
 show (({ os := [] ++ [⟨AR, none, [⟨dx 0, num 1, true, true, true⟩, ⟨dx 1, num 2, true, true, true⟩], false, 2, true⟩], most := 9, n := 0 + (2 + 1) } : Hs), some 0) = (E1, some 0)
 rw [dx0, dx1]
 rfl
theorem e2_is : E1.put ix LK AR (ref 0) K5 (num 7) = (E2, 0) := by kernel_rfl
theorem e3_is : E2.put ix LK AR (ref 0) LK (num 1) = (E3, 0) := by kernel_rfl
theorem e_get : E3.find LK AR (E3.at (ref 0)) K0 = some PA := by kernel_rfl
theorem e_len : lenR (E2.obj (ref 0)) = .tuple #[.int .i64 6, .bool true] := by kernel_rfl
theorem e_keys : keysR (E3.obj (ref 0)) = [K0] := by kernel_rfl
theorem gd_e1 : Gd E1 := by
 have g := gd_array (gd_new 9) null (l := [num 1, num 2]) (by intro v hv; unfold Sv; simp only [List.mem_cons, List.not_mem_nil, or_false] at hv; rcases hv with rfl | rfl <;> decide)
 rw [e1_is] at g
 exact g
theorem gd_e2 : Gd E2 := by
 have g := gd_put gd_e1 (ref 0) (key := K5) (x := num 7) (by decide) (by unfold Sv; decide)
 rw [e2_is] at g
 exact g
theorem gd_e3 : Gd E3 := by
 have g := gd_put gd_e2 (ref 0) (key := LK) (x := num 1) (by decide) (by unfold Sv; decide)
 rw [e3_is] at g
 exact g
structure LvS (w : World) (b : Nat) (H : Hs) (w1 : World) (ow : Nat → Option Nat) (L : List OL) : Prop where
 ph : PH w1 b H ow L
 own : ∀ k, ow k ≠ none → w.heap.size ≤ k
 bel : Below w.heap.size w w1
section
variable {w w1 w2 : World} {b B : Nat} {H H1 : Hs} {ow ow1 : Nat → Option Nat} {L L1 : List OL} {T : TypeId} {xs : List Value}
theorem LvS.low (h : LvS w b H w1 ow L) (hb : Below w1.heap.size w1 w2) : LvS w b H w2 ow L := ⟨h.ph.low hb, h.own, h.bel.trans (hb.mono h.bel.size)⟩
theorem LvS.off (h : LvS w b H w1 ow L) {k : Nat} (hk : k < w.heap.size) : ow k = none := by
 cases e : ow k with
 | none => rfl
 | some r =>
  have := h.own k (by rw [e]; simp)
  omega
theorem LvS.next (h : LvS w b H w1 ow L) (k : Hch w1 b ow L H1 w2 ow1 L1) : LvS w b H1 w2 ow1 L1 := by
 refine ⟨k.ph, fun j hj => ?_, h.bel.trans (k.fr.mono (fun j (hj : j < w.heap.size) => ⟨Nat.lt_of_lt_of_le hj h.bel.size, h.off hj⟩)).below⟩
 rcases k.new j hj with e | e
 ·exact h.own j e
 ·exact Nat.le_trans h.bel.size e
theorem LvS.fresh (h : LvS w b H w1 ow L) : ow w1.heap.size = none := by
 cases e : ow w1.heap.size with
 | none => rfl
 | some r => exact absurd (h.ph.lt _ (by rw [e]; simp)) (Nat.lt_irrefl _)
end
theorem set3_keep {w : World} {g B : Nat} {T : TypeId} {xs : List Value} {a b c : Value} (h : Blk w B T xs) (hne : g ≠ B) : Blk (((w.setCell ⟨g, 0, none⟩ a).setCell ⟨g, 1, none⟩ b).setCell ⟨g, 2, none⟩ c) B T xs :=
 ((h.other (p := ⟨g, 0, none⟩) (Ne.symm hne) a).other (p := ⟨g, 1, none⟩) (Ne.symm hne) b).other (p := ⟨g, 2, none⟩) (Ne.symm hne) c
theorem set3_new {w : World} {g : Nat} {T : TypeId} {x y z a b c : Value} (h : Blk w g T [x, y, z]) : Blk (((w.setCell ⟨g, 0, none⟩ a).setCell ⟨g, 1, none⟩ b).setCell ⟨g, 2, none⟩ c) g T [a, b, c] := ((h.set 0 a).set 1 b).set 2 c
theorem LvS.set3 {w w1 : World} {b g : Nat} {H : Hs} {ow : Nat → Option Nat} {L : List OL} {x y z : Value} (h : LvS w b H w1 ow L) (hz : w.heap.size ≤ g) (ho : ow g = none) : LvS w b H (((w1.setCell ⟨g, 0, none⟩ x).setCell ⟨g, 1, none⟩ y).setCell ⟨g, 2, none⟩ z) ow L := by
 have hzo : ∀ j, ow j ≠ none → j ≠ g := fun j hj e => hj (by rw [e]; exact ho)
 exact ⟨h.ph.fr (fun j hj => by rw [Below.heap_setCell _ _ _ _ (hzo j hj), Below.heap_setCell _ _ _ _ (hzo j hj), Below.heap_setCell _ _ _ _ (hzo j hj)]) (by simp [World.setCell]), h.own, ((h.bel.setCell (p := ⟨g, 0, none⟩) hz _).setCell (p := ⟨g, 1, none⟩) hz _).setCell (p := ⟨g, 2, none⟩) hz _⟩
def R0 : Vl := ⟨7, 1, nil⟩
theorem nm_one (w : World) (s : ByteArray) : Nm (w.alloc (.cells #[.string s] 9)) (.slice (some ⟨w.heap.size, 0, none⟩) 1 1) [s] := by
 refine ⟨_, 1, rfl, .inr ⟨w.heap.size, rfl, by rw [World.size_alloc]; exact Nat.lt_succ_self _, fun j t hj => ?_⟩⟩
 cases j with
 | zero =>
  simp only [List.getElem?_cons_zero, Option.some.injEq] at hj
  subst hj
  exact (Blk.new w 9 [.string s]).cell rfl
 | succ j => simp at hj
theorem vls_two {w : World} {g : Nat} (h : Blk w g 29 [.int .i64 3, .int .i64 1, .string ⟨#[]⟩, .int .i64 3, .int .i64 2, .string ⟨#[]⟩]) : Vls w (.slice (some ⟨g, 0, none⟩) 2 2) [num 1, num 2] g := by
 refine ⟨_, 2, rfl, fun j v hj => ⟨0, rfl, ?_⟩⟩
 rcases j with _ | _ | j
 ·simp only [List.getElem?_cons_zero, Option.some.injEq] at hj
  subst hj
  exact ⟨h.cell rfl, h.cell rfl, h.cell rfl⟩
 ·simp only [List.getElem?_cons_succ, List.getElem?_cons_zero, Option.some.injEq] at hj
  subst hj
  exact ⟨h.cell rfl, h.cell rfl, h.cell rfl⟩
 ·simp at hj
set_option maxRecDepth 20000 in
set_option maxHeartbeats 4000000 in
theorem live_any (w : World) (hT : Tab w) : Calls Tryz.prog 8 #[] w (AnsB w true) := by
 have HT := Lib.hid hT
 have HN1 := Lib.hid (num_any 1)
 have HN2 := Lib.hid (num_any 2)
 have HN7 := Lib.hid (num_any 7)
 clear hT
 simp only [num, Vl.v, nil] at HN1 HN2 HN7
 go_enter Tryz.func8, Tryz.ntmps8
 go_wp2_with fail
 refine (new_any 9 _).mono ?_
 rintro e w1 ⟨b, ow, rfl, hp, hown, hb⟩
 have S1 : Hid (LvS w b (Hs.new 9) w1 ow []) := ⟨hp, hown, hb⟩
 clear hp hown hb
 go_wp2_with fail
 refine (HN1.out _).mono ?_
 rintro e w2 ⟨rfl, hb⟩
 have S2 := Lib.hid (S1.out.low hb)
 clear hb S1
 go_wp2_with fail
 refine (HN2.out _).mono ?_
 rintro e w3 ⟨rfl, hb⟩
 have S3a := Lib.hid (S2.out.low hb)
 have hb3 := below_new w3 (.cells #[.int .i64 3, .int .i64 1, .string ⟨#[]⟩, .int .i64 3, .int .i64 2, .string ⟨#[]⟩] 29)
 have S3 := Lib.hid (S3a.out.low hb3)
 have HX : Hid (Vls (w3.alloc (.cells #[.int .i64 3, .int .i64 1, .string ⟨#[]⟩, .int .i64 3, .int .i64 2, .string ⟨#[]⟩] 29)) (.slice (some ⟨w3.heap.size, 0, none⟩) 2 2) [num 1, num 2] w3.heap.size) := vls_two (Blk.new w3 29 [.int .i64 3, .int .i64 1, .string ⟨#[]⟩, .int .i64 3, .int .i64 2, .string ⟨#[]⟩])
 have HF := Lib.hid S3a.out.fresh
 clear hb hb3 S2 S3a
 have HA := array_any S3.out.ph (gd_new 9) null [num 1, num 2] (by intro v hv; unfold Sv; simp only [List.mem_cons, List.not_mem_nil, or_false] at hv; rcases hv with rfl | rfl <;> decide) HX.out ⟨by rw [World.size_alloc]; exact Nat.lt_succ_self _, HF.out⟩ (HT.out.below S3.out.bel) (S3.out.off HT.out.lt) (by decide)
 rw [e1_is] at HA
 have HA := Lib.hid HA
 rw [show makeR (some 0) = .tuple #[R0.v, .bool true] from rfl] at HA
 simp only [null, Vl.v, nil, R0] at HA
 go_wp2_with fail
 refine HA.out.mono ?_
 rintro e w4 ⟨rfl, ow1, L1, hch⟩
 have S4 := Lib.hid (S3.out.next hch)
 clear hch HA HX HF S3 HT
 have hb4 := (below_new w4 (.cells #[.int .i64 7, .int .i64 1, .string ⟨#[]⟩] 29)).drew
 have S5 := Lib.hid (S4.out.low hb4)
 have HB5 : Hid (Blk (w4.alloc (.cells #[.int .i64 7, .int .i64 1, .string ⟨#[]⟩] 29)).drew w4.heap.size 29 [.int .i64 7, .int .i64 1, .string ⟨#[]⟩]) := (Blk.new w4 29 [.int .i64 7, .int .i64 1, .string ⟨#[]⟩]).fr rfl
 have HW5 : Hid (ow1 w4.heap.size = none) := S4.out.fresh
 have hs5 := Blk.three (v := R0) HB5.out
 dsimp only [R0, nil] at hs5
 clear hb4 S4
 go_wp2_with fail
 refine wp_region_held_drew (S := (fun w' : World => w'.cell? ⟨w4.heap.size, 0, none⟩ = some (.int .i64 7) ∧ w'.cell? ⟨w4.heap.size, 1, none⟩ = some (.int .i64 1) ∧ w'.cell? ⟨w4.heap.size, 2, none⟩ = some (.string ⟨#[]⟩))) (by kernel_rfl) (hs5) (fun hHeld0 => ?_)
 generalize World.drew _ = w5 at *
 clear hs5
 refine tk 0 ?_ ‹_› ?_ ?_; rotate_left; focus (intro w0 hSw; obtain ⟨e0, e1, e2⟩ := hSw; go_simp; try with_reducible rfl)
 refine tk 1 ?_ ‹_› ?_ ?_; rotate_left; focus (intro w0 hSw; obtain ⟨e0, e1, e2⟩ := hSw; go_simp; try with_reducible rfl)
 try simp only [PT]
 refine wpAnyH_ready (rs := [2]) (by decide +kernel) (by simp) (AllReadyH.cons rfl (fun K hK => ?_) AllReadyH.nil)
 go_simp
 refine (u5_any _).mono ?_
 rintro e w6 ⟨rfl, hb⟩
 have S6 := Lib.hid (S5.out.low hb)
 have HB6 := Lib.hid (HB5.out.low hb)
 have hs6 := Blk.three (v := R0) HB6.out
 dsimp only [R0, nil] at hs6
 clear hb S5 HB5
 refine hK.out _ _ hs6 (fun hHeld1 => ?_)
 clear hK K hHeld0 
 try simp only [PT]
 refine wpAnyH_ready (rs := [3]) (by decide +kernel) (by simp) (AllReadyH.cons rfl (fun K hK => ?_) AllReadyH.nil)
 go_simp
 refine (HN7.out _).mono ?_
 rintro e w7 ⟨rfl, hb⟩
 have S7 := Lib.hid (S6.out.low hb)
 have HB7 := Lib.hid (HB6.out.low hb)
 have hs7 := Blk.three (v := R0) HB7.out
 dsimp only [R0, nil] at hs7
 clear hb S6 HB6
 refine hK.out _ _ hs7 (fun hHeld2 => ?_)
 clear hK K hHeld1 
 try simp only [PT]
 refine wpAnyH_ready (rs := [4]) (by decide +kernel) (by simp) (AllReadyH.cons rfl (fun K hK => ?_) AllReadyH.nil)
 have HP := put_any S7.out.ph gd_e1 R0 K5 (by decide) (num 7) (by unfold Sv; decide)
 rw [show R0 = ref 0 from rfl, e2_is] at HP
 rw [show (ref 0) = R0 from rfl] at HP
 simp only [num, Vl.v, nil, R0] at HP
 go_simp
 refine HP.mono ?_
 rintro e w8 ⟨rfl, ow8, L8, hch⟩
 have S8 := Lib.hid (S7.out.next hch)
 have HB8 := Lib.hid (HB7.out.fr (hch.kept HB7.out.lt HW5.out))
 have HW8 : Hid (ow8 w4.heap.size = none) := hch.out HB7.out.lt HW5.out
 have hs8 := Blk.three (v := R0) HB8.out
 dsimp only [R0, nil] at hs8
 clear HP hch S7 HB7 HW5
 refine hK.out _ _ hs8 (fun hHeld3 => ?_)
 clear hK K hHeld2 
 try simp only [PT]
 refine tk 5 ?_ ‹_› ?_ ?_; rotate_left; focus (intro w0 hSw; obtain ⟨e0, e1, e2⟩ := hSw; go_simp; try with_reducible rfl)
 try simp only [PT]
 refine wpAnyH_done (by kernel_rfl) ?_ _
 clear hHeld3 hs8
 have hs8 := Blk.three (v := R0) HB8.out
 obtain ⟨d0, d1, d2⟩ := hs8
 dsimp only [R0, nil] at d0 d1 d2
 have HL := len_any S8.out.ph gd_e2 R0
 rw [show R0 = ref 0 from rfl, e_len, show (ref 0) = R0 from rfl] at HL
 have HL := Lib.hid HL
 simp only [R0, Vl.v, nil] at HL
 go_wp2_with fail
 refine HL.out.mono ?_
 rintro e w9a ⟨rfl, hb⟩
 have hb9 := hb.drew
 have S9 := Lib.hid (S8.out.low hb9)
 have HB9 := Lib.hid (HB8.out.low hb9)
 have HW9 := HW8
 have hs9 := Blk.three (v := R0) HB9.out
 dsimp only [R0, nil] at hs9
 clear hb hb9 d0 d1 d2 HL S8 HB8 HW8
 go_wp2_with fail
 refine wp_region_held_drew (S := (fun w' : World => w'.cell? ⟨w4.heap.size, 0, none⟩ = some (.int .i64 7) ∧ w'.cell? ⟨w4.heap.size, 1, none⟩ = some (.int .i64 1) ∧ w'.cell? ⟨w4.heap.size, 2, none⟩ = some (.string ⟨#[]⟩))) (by kernel_rfl) (hs9) (fun hHeld0 => ?_)
 generalize World.drew _ = w9 at *
 clear hs9
 refine tk 0 ?_ ‹_› ?_ ?_; rotate_left; focus (intro w0 hSw; obtain ⟨e0, e1, e2⟩ := hSw; go_simp; try with_reducible rfl)
 refine tk 1 ?_ ‹_› ?_ ?_; rotate_left; focus (intro w0 hSw; obtain ⟨e0, e1, e2⟩ := hSw; go_simp; try with_reducible rfl)
 try simp only [PT]
 refine wpAnyH_ready (rs := [2]) (by decide +kernel) (by simp) (AllReadyH.cons rfl (fun K hK => ?_) AllReadyH.nil)
 go_simp
 refine (ulen_any _).mono ?_
 rintro e w10 ⟨rfl, hb⟩
 have S10 := Lib.hid (S9.out.low hb)
 have HB10 := Lib.hid (HB9.out.low hb)
 have hs10 := Blk.three (v := R0) HB10.out
 dsimp only [R0, nil] at hs10
 clear hb S9 HB9
 refine hK.out _ _ hs10 (fun hHeld1 => ?_)
 clear hK K hHeld0 
 try simp only [PT]
 refine wpAnyH_ready (rs := [3]) (by decide +kernel) (by simp) (AllReadyH.cons rfl (fun K hK => ?_) AllReadyH.nil)
 go_simp
 refine (HN1.out _).mono ?_
 rintro e w11 ⟨rfl, hb⟩
 have S11 := Lib.hid (S10.out.low hb)
 have HB11 := Lib.hid (HB10.out.low hb)
 have hs11 := Blk.three (v := R0) HB11.out
 dsimp only [R0, nil] at hs11
 clear hb S10 HB10
 refine hK.out _ _ hs11 (fun hHeld2 => ?_)
 clear hK K hHeld1 
 try simp only [PT]
 refine wpAnyH_ready (rs := [4]) (by decide +kernel) (by simp) (AllReadyH.cons rfl (fun K hK => ?_) AllReadyH.nil)
 have HP := put_any S11.out.ph gd_e2 R0 LK (by decide) (num 1) (by unfold Sv; decide)
 rw [show R0 = ref 0 from rfl, e3_is] at HP
 rw [show (ref 0) = R0 from rfl] at HP
 simp only [num, Vl.v, nil, R0] at HP
 go_simp
 refine HP.mono ?_
 rintro e w12 ⟨rfl, ow12, L12, hch⟩
 have S12 := Lib.hid (S11.out.next hch)
 have HB12 := Lib.hid (HB11.out.fr (hch.kept HB11.out.lt HW9.out))
 have HW12 : Hid (ow12 w4.heap.size = none) := hch.out HB11.out.lt HW9.out
 have hs12 := Blk.three (v := R0) HB12.out
 dsimp only [R0, nil] at hs12
 clear HP hch S11 HB11 HW9
 refine hK.out _ _ hs12 (fun hHeld3 => ?_)
 clear hK K hHeld2 
 try simp only [PT]
 refine tk 5 ?_ ‹_› ?_ ?_; rotate_left; focus (intro w0 hSw; obtain ⟨e0, e1, e2⟩ := hSw; go_simp; try with_reducible rfl)
 try simp only [PT]
 refine wpAnyH_done (by kernel_rfl) ?_ _
 clear hHeld3 hs12
 have S13 := Lib.hid (S12.out.low (below_draw _))
 have HB13 := Lib.hid (HB12.out.low (below_draw _))
 have hs13 := Blk.three (v := R0) HB13.out
 dsimp only [R0, nil] at hs13
 clear S12 HB12 HW12
 go_wp2_with fail
 refine wp_region_held_drew (S := (fun w' : World => w'.cell? ⟨w4.heap.size, 0, none⟩ = some (.int .i64 7) ∧ w'.cell? ⟨w4.heap.size, 1, none⟩ = some (.int .i64 1) ∧ w'.cell? ⟨w4.heap.size, 2, none⟩ = some (.string ⟨#[]⟩))) (by kernel_rfl) (hs13) (fun hHeld0 => ?_)
 generalize World.drew _ = w13 at *
 clear hs13
 refine tk 0 ?_ ‹_› ?_ ?_; rotate_left; focus (intro w0 hSw; obtain ⟨e0, e1, e2⟩ := hSw; go_simp; try with_reducible rfl)
 refine tk 1 ?_ ‹_› ?_ ?_; rotate_left; focus (intro w0 hSw; obtain ⟨e0, e1, e2⟩ := hSw; go_simp; try with_reducible rfl)
 try simp only [PT]
 refine wpAnyH_ready (rs := [2, 7]) (by decide +kernel) (by simp) (AllReadyH.cons rfl (fun K hK => ?_) (AllReadyH.cons rfl (fun K hK => ?_) AllReadyH.nil))
 ·
  go_simp
  refine (u0_any _).mono ?_
  rintro e w14 ⟨rfl, hb⟩
  have S14 := Lib.hid (S13.out.low hb)
  have HB14 := Lib.hid (HB13.out.low hb)
  have hs14 := Blk.three (v := R0) HB14.out
  dsimp only [R0, nil] at hs14
  clear hb S13 HB13
  refine hK.out _ _ hs14 (fun hHeld1 => ?_)
  clear hK K hHeld0 
  try simp only [PT]
  refine wpAnyH_ready (rs := [3, 7]) (by decide +kernel) (by simp) (AllReadyH.cons rfl (fun K hK => ?_) (AllReadyH.cons rfl (fun K hK => ?_) AllReadyH.nil))
  ·
   have HG := get_any S14.out.ph gd_e3 R0 K0 (by decide)
   rw [show R0 = ref 0 from rfl, e_get, show (ref 0) = R0 from rfl] at HG
   simp only [R0, Vl.v, nil, getR, PA, num] at HG
   go_simp
   refine (HG).mono ?_
   rintro e w15 ⟨rfl, hb⟩
   have S15 := Lib.hid (S14.out.low hb)
   have HB15 := Lib.hid (HB14.out.low hb)
   have hs15 := Blk.three (v := R0) HB15.out
   dsimp only [R0, nil] at hs15
   clear hb HG S14 HB14
   refine hK.out _ _ hs15 (fun hHeld2 => ?_)
   clear hK K hHeld1 
   try simp only [PT]
   refine tk 4 ?_ ‹_› ?_ ?_; rotate_left; focus (intro w0 hSw; obtain ⟨e0, e1, e2⟩ := hSw; go_simp; try with_reducible rfl)
   refine tk 5 ?_ ‹_› ?_ ?_; rotate_left; focus (intro w0 hSw; obtain ⟨e0, e1, e2⟩ := hSw; go_simp; try with_reducible rfl)
   refine tk 6 ?_ ‹_› ?_ ?_; rotate_left; focus (intro w0 hSw; obtain ⟨e0, e1, e2⟩ := hSw; go_simp; try with_reducible rfl)
   try simp only [PT]
   refine wpAnyH_ready (rs := [7]) (by decide +kernel) (by simp) (AllReadyH.cons rfl (fun K hK => ?_) AllReadyH.nil)
   go_simp
   have hb := below_new w15 (.cells #[.int .i64 0, .int .i64 0, .string ⟨#[]⟩] 29)
   have S16 := Lib.hid (S15.out.low hb)
   have HB16 := Lib.hid (HB15.out.low hb)
   have HZ16 := Lib.hid (Blk.new w15 29 [.int .i64 0, .int .i64 0, .string ⟨#[]⟩])
   have HZN16 : Hid (w15.heap.size ≠ w4.heap.size) := Nat.ne_of_gt HB15.out.lt
   have hs16 := Blk.three (v := R0) HB16.out
   dsimp only [R0, nil] at hs16
   have HZW : Hid (w.heap.size ≤ w15.heap.size) := S15.out.bel.size
   have HZO : Hid (ow12 w15.heap.size = none) := S15.out.fresh
   generalize w15.heap.size = z at *
   clear hb S15 HB15
   refine hK.out _ _ hs16 (fun hHeld3 => ?_)
   clear hK K hHeld2 
   generalize World.alloc _ _ = w16 at *
   try simp only [PT]
   refine wpAnyH_ready (rs := [8]) (by decide +kernel) (by simp) (AllReadyH.cons rfl (fun K hK => ?_) AllReadyH.nil)
   obtain ⟨z0, z1, z2⟩ := Blk.three (v := vl0) HZ16.out
   have zf := HZ16.out.fz
   dsimp only [vl0] at z0 z1 z2
   go_simp
   have HZ17 := Lib.hid (set3_new (a := .int .i64 3) (b := .int .i64 1) (c := .string ⟨#[]⟩) HZ16.out)
   have HB17 := Lib.hid (set3_keep (a := .int .i64 3) (b := .int .i64 1) (c := .string ⟨#[]⟩) HB16.out HZN16.out)
   have S17 := Lib.hid (S16.out.set3 (x := .int .i64 3) (y := .int .i64 1) (z := .string ⟨#[]⟩) HZW.out HZO.out)
   have hs17 := Blk.three (v := R0) HB17.out
   dsimp only [R0, nil] at hs17
   clear z0 z1 z2 zf S16 HB16 HZ16 HZN16 HZW HZO
   refine hK.out _ _ hs17 (fun hHeld4 => ?_)
   clear hK K hHeld3 
   try simp only [PT]
   generalize (((w16.setCell ⟨z, 0, none⟩ (.int .i64 3)).setCell ⟨z, 1, none⟩ (.int .i64 1)).setCell ⟨z, 2, none⟩ (.string ⟨#[]⟩)) = w17 at *
   refine tk 9 ?_ ‹_› ?_ ?_; rotate_left; focus (intro w0 hSw; obtain ⟨e0, e1, e2⟩ := hSw; go_simp; try with_reducible rfl)
   try simp only [PT]
   refine wpAnyH_done (by kernel_rfl) ?_ _
   clear hHeld4 hs17
   have S18 := Lib.hid (S17.out.low (below_draw _))
   have hz := HZ17.out.low (below_draw _)
   have hs18 := (⟨Blk.three (v := R0) (HB17.out.low (below_draw _)), Blk.three (v := num 1) hz⟩ : _ ∧ _)
   dsimp only [R0, nil, num] at hs18
   have HZ18 := Lib.hid hz
   have HB18 := Lib.hid (HB17.out.low (below_draw _))
   clear hz S17 HB17 HZ17
   go_wp2_with fail
   refine wp_region_held_drew (S := (fun w' : World => (w'.cell? ⟨w4.heap.size, 0, none⟩ = some (.int .i64 7) ∧ w'.cell? ⟨w4.heap.size, 1, none⟩ = some (.int .i64 1) ∧ w'.cell? ⟨w4.heap.size, 2, none⟩ = some (.string ⟨#[]⟩)) ∧ (w'.cell? ⟨z, 0, none⟩ = some (.int .i64 3) ∧ w'.cell? ⟨z, 1, none⟩ = some (.int .i64 1) ∧ w'.cell? ⟨z, 2, none⟩ = some (.string ⟨#[]⟩)))) (by kernel_rfl) (hs18) (fun hHeld0 => ?_)
   generalize World.drew _ = w18 at *
   clear hs18
   refine tk 0 ?_ ‹_› ?_ ?_; rotate_left; focus (intro w0 hSw; obtain ⟨⟨e0, e1, e2⟩, ⟨f0, f1, f2⟩⟩ := hSw; go_simp; try with_reducible rfl)
   try simp only [PT]
   refine tk 1 ?_ ‹_› ?_ ?_; rotate_left; focus (intro w0 hSw; obtain ⟨⟨e0, e1, e2⟩, ⟨f0, f1, f2⟩⟩ := hSw; go_simp; try with_reducible rfl)
   try simp only [PT]
   refine tk 2 ?_ ‹_› ?_ ?_; rotate_left; focus (intro w0 hSw; obtain ⟨⟨e0, e1, e2⟩, ⟨f0, f1, f2⟩⟩ := hSw; go_simp; try with_reducible rfl)
   try simp only [PT]
   refine tk 3 ?_ ‹_› ?_ ?_; rotate_left; focus (intro w0 hSw; obtain ⟨⟨e0, e1, e2⟩, ⟨f0, f1, f2⟩⟩ := hSw; go_simp; try with_reducible rfl)
   try simp only [PT]
   refine tk 4 ?_ ‹_› ?_ ?_; rotate_left; focus (intro w0 hSw; obtain ⟨⟨e0, e1, e2⟩, ⟨f0, f1, f2⟩⟩ := hSw; go_simp; try with_reducible rfl)
   try simp only [PT]
   refine tk 5 ?_ ‹_› ?_ ?_; rotate_left; focus (intro w0 hSw; obtain ⟨⟨e0, e1, e2⟩, ⟨f0, f1, f2⟩⟩ := hSw; go_simp; try with_reducible rfl)
   try simp only [PT]
   refine tk 6 ?_ ‹_› ?_ ?_; rotate_left; focus (intro w0 hSw; obtain ⟨⟨e0, e1, e2⟩, ⟨f0, f1, f2⟩⟩ := hSw; go_simp; try with_reducible rfl)
   try simp only [PT]
   refine tk 7 ?_ ‹_› ?_ ?_; rotate_left; focus (intro w0 hSw; obtain ⟨⟨e0, e1, e2⟩, ⟨f0, f1, f2⟩⟩ := hSw; go_simp; try with_reducible rfl)
   try simp only [PT]
   refine tk 8 ?_ ‹_› ?_ ?_; rotate_left; focus (intro w0 hSw; obtain ⟨⟨e0, e1, e2⟩, ⟨f0, f1, f2⟩⟩ := hSw; go_simp; try with_reducible rfl)
   try simp only [PT]
   refine tk 9 ?_ ‹_› ?_ ?_; rotate_left; focus (intro w0 hSw; obtain ⟨⟨e0, e1, e2⟩, ⟨f0, f1, f2⟩⟩ := hSw; go_simp; try with_reducible rfl)
   try simp only [PT]
   refine tk 10 ?_ ‹_› ?_ ?_; rotate_left; focus (intro w0 hSw; obtain ⟨⟨e0, e1, e2⟩, ⟨f0, f1, f2⟩⟩ := hSw; go_simp; try with_reducible rfl)
   try simp only [PT]
   refine tk 11 ?_ ‹_› ?_ ?_; rotate_left; focus (intro w0 hSw; obtain ⟨⟨e0, e1, e2⟩, ⟨f0, f1, f2⟩⟩ := hSw; go_simp; try with_reducible rfl)
   try simp only [PT]
   refine tk 12 ?_ ‹_› ?_ ?_; rotate_left; focus (intro w0 hSw; obtain ⟨⟨e0, e1, e2⟩, ⟨f0, f1, f2⟩⟩ := hSw; go_simp; try with_reducible rfl)
   try simp only [PT]
   refine tk 13 ?_ ‹_› ?_ ?_; rotate_left; focus (intro w0 hSw; obtain ⟨⟨e0, e1, e2⟩, ⟨f0, f1, f2⟩⟩ := hSw; go_simp; try with_reducible rfl)
   try simp only [PT]
   refine tk 14 ?_ ‹_› ?_ ?_; rotate_left; focus (intro w0 hSw; obtain ⟨⟨e0, e1, e2⟩, ⟨f0, f1, f2⟩⟩ := hSw; go_simp; try with_reducible rfl)
   try simp only [PT]
   refine tk 15 ?_ ‹_› ?_ ?_; rotate_left; focus (intro w0 hSw; obtain ⟨⟨e0, e1, e2⟩, ⟨f0, f1, f2⟩⟩ := hSw; go_simp; try with_reducible rfl)
   try simp only [PT]
   refine tk 16 ?_ ‹_› ?_ ?_; rotate_left; focus (intro w0 hSw; obtain ⟨⟨e0, e1, e2⟩, ⟨f0, f1, f2⟩⟩ := hSw; go_simp; try with_reducible rfl)
   try simp only [PT]
   refine tk 17 ?_ ‹_› ?_ ?_; rotate_left; focus (intro w0 hSw; obtain ⟨⟨e0, e1, e2⟩, ⟨f0, f1, f2⟩⟩ := hSw; go_simp; try with_reducible rfl)
   try simp only [PT]
   refine tk 18 ?_ ‹_› ?_ ?_; rotate_left; focus (intro w0 hSw; obtain ⟨⟨e0, e1, e2⟩, ⟨f0, f1, f2⟩⟩ := hSw; go_simp; try with_reducible rfl)
   try simp only [PT]
   refine wpAnyH_ready (rs := [19]) (by decide +kernel) (by simp) (AllReadyH.cons rfl (fun K hK => ?_) AllReadyH.nil)
   have HKC := keys_any S18.out.ph gd_e3 R0
   rw [show R0 = ref 0 from rfl, e_keys, show (ref 0) = R0 from rfl] at HKC
   simp only [R0, Vl.v, nil] at HKC
   go_simp
   refine (HKC).mono ?_
   rintro e w19 ⟨r, rfl, htx, hb⟩
   have S19 := Lib.hid (S18.out.low hb)
   have HB19 := Lib.hid (HB18.out.low hb)
   have HZ19 := Lib.hid (HZ18.out.low hb)
   have hs19 := (⟨Blk.three (v := R0) HB19.out, Blk.three (v := num 1) HZ19.out⟩ : _ ∧ _)
   dsimp only [R0, nil, num] at hs19
   have N1 := Lib.hid htx.nm
   clear htx HKC
   clear hb S18 HB18 HZ18
   refine hK.out _ _ hs19 (fun hHeld1 => ?_)
   clear hK K hHeld0 
   try simp only [PT]
   refine wpAnyH_ready (rs := [20]) (by decide +kernel) (by simp) (AllReadyH.cons rfl (fun K hK => ?_) AllReadyH.nil)
   go_simp
   refine (u0_any _).mono ?_
   rintro e w20 ⟨rfl, hb⟩
   have S20 := Lib.hid (S19.out.low hb)
   have HB20 := Lib.hid (HB19.out.low hb)
   have HZ20 := Lib.hid (HZ19.out.low hb)
   have hs20 := (⟨Blk.three (v := R0) HB20.out, Blk.three (v := num 1) HZ20.out⟩ : _ ∧ _)
   dsimp only [R0, nil, num] at hs20
   have N2 := Lib.hid (N1.out.low hb)
   clear N1
   clear hb S19 HB19 HZ19
   refine hK.out _ _ hs20 (fun hHeld2 => ?_)
   clear hK K hHeld1 
   try simp only [PT]
   refine wpAnyH_ready (rs := [21]) (by decide +kernel) (by simp) (AllReadyH.cons rfl (fun K hK => ?_) AllReadyH.nil)
   go_simp
   have hb := below_new w20 (.cells #[.string K0] 9)
   have S21 := Lib.hid (S20.out.low hb)
   have HB21 := Lib.hid (HB20.out.low hb)
   have HZ21 := Lib.hid (HZ20.out.low hb)
   have hs21 := (⟨Blk.three (v := R0) HB21.out, Blk.three (v := num 1) HZ21.out⟩ : _ ∧ _)
   dsimp only [R0, nil, num] at hs21
   have N3 := Lib.hid (N2.out.low hb)
   have N4 : Hid (Nm (w20.alloc (.cells #[.string K0] 9)) (.slice (some ⟨w20.heap.size, 0, none⟩) 1 1) [K0]) := nm_one w20 K0
   clear hb N2 S20 HB20 HZ20
   refine hK.out _ _ hs21 (fun hHeld3 => ?_)
   clear hK K hHeld2 
   try simp only [PT]
   generalize (w20.alloc (.cells #[.string K0] 9)) = w21 at *
   refine wpAnyH_ready (rs := [22]) (by decide +kernel) (by simp) (AllReadyH.cons rfl (fun K hK => ?_) AllReadyH.nil)
   have HN := names_any [K0] [K0] _ _ w21 N3.out N4.out (by decide) (by decide)
   rw [show decide ([K0] = [K0]) = true from decide_eq_true rfl] at HN
   go_simp
   refine (HN).mono ?_
   rintro e w22 ⟨rfl, hb⟩
   have S22 := Lib.hid (S21.out.low hb)
   have HB22 := Lib.hid (HB21.out.low hb)
   have HZ22 := Lib.hid (HZ21.out.low hb)
   have hs22 := (⟨Blk.three (v := R0) HB22.out, Blk.three (v := num 1) HZ22.out⟩ : _ ∧ _)
   dsimp only [R0, nil, num] at hs22
   clear HN N3 N4
   clear hb S21 HB21 HZ21
   refine hK.out _ _ hs22 (fun hHeld4 => ?_)
   clear hK K hHeld3 
   try simp only [PT]
   refine tk 23 ?_ ‹_› ?_ ?_; rotate_left; focus (intro w0 hSw; obtain ⟨⟨e0, e1, e2⟩, ⟨f0, f1, f2⟩⟩ := hSw; go_simp; try with_reducible rfl)
   try simp only [PT]
   refine tk 24 ?_ ‹_› ?_ ?_; rotate_left; focus (intro w0 hSw; obtain ⟨⟨e0, e1, e2⟩, ⟨f0, f1, f2⟩⟩ := hSw; go_simp; try with_reducible rfl)
   try simp only [PT]
   refine tk 25 ?_ ‹_› ?_ ?_; rotate_left; focus (intro w0 hSw; obtain ⟨⟨e0, e1, e2⟩, ⟨f0, f1, f2⟩⟩ := hSw; go_simp; try with_reducible rfl)
   try simp only [PT]
   refine tk 26 ?_ ‹_› ?_ ?_; rotate_left; focus (intro w0 hSw; obtain ⟨⟨e0, e1, e2⟩, ⟨f0, f1, f2⟩⟩ := hSw; go_simp; try with_reducible rfl)
   try simp only [PT]
   refine tk 27 ?_ ‹_› ?_ ?_; rotate_left; focus (intro w0 hSw; obtain ⟨⟨e0, e1, e2⟩, ⟨f0, f1, f2⟩⟩ := hSw; go_simp; try with_reducible rfl)
   try simp only [PT]
   refine tk 28 ?_ ‹_› ?_ ?_; rotate_left; focus (intro w0 hSw; obtain ⟨⟨e0, e1, e2⟩, ⟨f0, f1, f2⟩⟩ := hSw; go_simp; try with_reducible rfl)
   try simp only [PT]
   refine wpAnyH_ready (rs := [29]) (by decide +kernel) (by simp) (AllReadyH.cons rfl (fun K hK => ?_) AllReadyH.nil)
   go_simp
   refine (HN1.out _).mono ?_
   rintro e w23 ⟨rfl, hb⟩
   have S23 := Lib.hid (S22.out.low hb)
   have HB23 := Lib.hid (HB22.out.low hb)
   have HZ23 := Lib.hid (HZ22.out.low hb)
   have hs23 := (⟨Blk.three (v := R0) HB23.out, Blk.three (v := num 1) HZ23.out⟩ : _ ∧ _)
   dsimp only [R0, nil, num] at hs23
   clear hb S22 HB22 HZ22
   refine hK.out _ _ hs23 (fun hHeld5 => ?_)
   clear hK K hHeld4 
   try simp only [PT]
   refine tk 30 ?_ ‹_› ?_ ?_; rotate_left; focus (intro w0 hSw; obtain ⟨⟨e0, e1, e2⟩, ⟨f0, f1, f2⟩⟩ := hSw; go_simp; try with_reducible rfl)
   try simp only [PT]
   refine tk 31 ?_ ‹_› ?_ ?_; rotate_left; focus (intro w0 hSw; obtain ⟨⟨e0, e1, e2⟩, ⟨f0, f1, f2⟩⟩ := hSw; go_simp; try with_reducible rfl)
   try simp only [PT]
   refine tk 32 ?_ ‹_› ?_ ?_; rotate_left; focus (intro w0 hSw; obtain ⟨⟨e0, e1, e2⟩, ⟨f0, f1, f2⟩⟩ := hSw; go_simp; try with_reducible rfl)
   try simp only [PT]
   refine tk 33 ?_ ‹_› ?_ ?_; rotate_left; focus (intro w0 hSw; obtain ⟨⟨e0, e1, e2⟩, ⟨f0, f1, f2⟩⟩ := hSw; go_simp; try with_reducible rfl)
   try simp only [PT]
   refine wpAnyH_ready (rs := [34]) (by decide +kernel) (by simp) (AllReadyH.cons rfl (fun K hK => ?_) AllReadyH.nil)
   have HU := used_any S23.out.ph
   rw [show ((E3.n : Nat) : Int) = 4 from rfl] at HU
   go_simp
   refine (HU).mono ?_
   rintro e w24 ⟨rfl, hww⟩
   have hb : Below w23.heap.size w23 w24 := by rw [← hww]; exact Below.refl _ _
   clear hww
   have S24 := Lib.hid (S23.out.low hb)
   have HB24 := Lib.hid (HB23.out.low hb)
   have HZ24 := Lib.hid (HZ23.out.low hb)
   have hs24 := (⟨Blk.three (v := R0) HB24.out, Blk.three (v := num 1) HZ24.out⟩ : _ ∧ _)
   dsimp only [R0, nil, num] at hs24
   clear HU
   clear hb S23 HB23 HZ23
   refine hK.out _ _ hs24 (fun hHeld6 => ?_)
   clear hK K hHeld5 
   try simp only [PT]
   refine tk 35 ?_ ‹_› ?_ ?_; rotate_left; focus (intro w0 hSw; obtain ⟨⟨e0, e1, e2⟩, ⟨f0, f1, f2⟩⟩ := hSw; go_simp; try with_reducible rfl)
   try simp only [PT]
   refine tk 36 ?_ ‹_› ?_ ?_; rotate_left; focus (intro w0 hSw; obtain ⟨⟨e0, e1, e2⟩, ⟨f0, f1, f2⟩⟩ := hSw; go_simp; try with_reducible rfl)
   try simp only [PT]
   refine tk 37 ?_ ‹_› ?_ ?_; rotate_left; focus (intro w0 hSw; obtain ⟨⟨e0, e1, e2⟩, ⟨f0, f1, f2⟩⟩ := hSw; go_simp; try with_reducible rfl)
   try simp only [PT]
   refine wpAnyH_done (by kernel_rfl) ?_ _
   clear hHeld6 hs24
   go_wp2_with fail
   refine bodyPost_ret (results_tmp rfl _ _ _) rfl ⟨rfl, S24.out.bel⟩
  ·
   go_simp
   have hb := below_new w14 (.cells #[.int .i64 0, .int .i64 0, .string ⟨#[]⟩] 29)
   have S15 := Lib.hid (S14.out.low hb)
   have HB15 := Lib.hid (HB14.out.low hb)
   have HZ15 := Lib.hid (Blk.new w14 29 [.int .i64 0, .int .i64 0, .string ⟨#[]⟩])
   have HZN15 : Hid (w14.heap.size ≠ w4.heap.size) := Nat.ne_of_gt HB14.out.lt
   have hs15 := Blk.three (v := R0) HB15.out
   dsimp only [R0, nil] at hs15
   have HZW : Hid (w.heap.size ≤ w14.heap.size) := S14.out.bel.size
   have HZO : Hid (ow12 w14.heap.size = none) := S14.out.fresh
   generalize w14.heap.size = z at *
   clear hb S14 HB14
   refine hK.out _ _ hs15 (fun hHeld2 => ?_)
   clear hK K hHeld1 
   generalize World.alloc _ _ = w15 at *
   try simp only [PT]
   refine wpAnyH_ready (rs := [3]) (by decide +kernel) (by simp) (AllReadyH.cons rfl (fun K hK => ?_) AllReadyH.nil)
   have HG := get_any S15.out.ph gd_e3 R0 K0 (by decide)
   rw [show R0 = ref 0 from rfl, e_get, show (ref 0) = R0 from rfl] at HG
   simp only [R0, Vl.v, nil, getR, PA, num] at HG
   go_simp
   refine (HG).mono ?_
   rintro e w16 ⟨rfl, hb⟩
   have S16 := Lib.hid (S15.out.low hb)
   have HB16 := Lib.hid (HB15.out.low hb)
   have HZ16 := Lib.hid (HZ15.out.low hb)
   have HZN16 := HZN15
   have hs16 := Blk.three (v := R0) HB16.out
   dsimp only [R0, nil] at hs16
   clear hb HG S15 HB15 HZ15 HZN15
   refine hK.out _ _ hs16 (fun hHeld3 => ?_)
   clear hK K hHeld2 
   try simp only [PT]
   refine tk 4 ?_ ‹_› ?_ ?_; rotate_left; focus (intro w0 hSw; obtain ⟨e0, e1, e2⟩ := hSw; go_simp; try with_reducible rfl)
   refine tk 5 ?_ ‹_› ?_ ?_; rotate_left; focus (intro w0 hSw; obtain ⟨e0, e1, e2⟩ := hSw; go_simp; try with_reducible rfl)
   refine tk 6 ?_ ‹_› ?_ ?_; rotate_left; focus (intro w0 hSw; obtain ⟨e0, e1, e2⟩ := hSw; go_simp; try with_reducible rfl)
   try simp only [PT]
   refine wpAnyH_ready (rs := [8]) (by decide +kernel) (by simp) (AllReadyH.cons rfl (fun K hK => ?_) AllReadyH.nil)
   obtain ⟨z0, z1, z2⟩ := Blk.three (v := vl0) HZ16.out
   have zf := HZ16.out.fz
   dsimp only [vl0] at z0 z1 z2
   go_simp
   have HZ17 := Lib.hid (set3_new (a := .int .i64 3) (b := .int .i64 1) (c := .string ⟨#[]⟩) HZ16.out)
   have HB17 := Lib.hid (set3_keep (a := .int .i64 3) (b := .int .i64 1) (c := .string ⟨#[]⟩) HB16.out HZN16.out)
   have S17 := Lib.hid (S16.out.set3 (x := .int .i64 3) (y := .int .i64 1) (z := .string ⟨#[]⟩) HZW.out HZO.out)
   have hs17 := Blk.three (v := R0) HB17.out
   dsimp only [R0, nil] at hs17
   clear z0 z1 z2 zf S16 HB16 HZ16 HZN16 HZW HZO
   refine hK.out _ _ hs17 (fun hHeld4 => ?_)
   clear hK K hHeld3 
   try simp only [PT]
   generalize (((w16.setCell ⟨z, 0, none⟩ (.int .i64 3)).setCell ⟨z, 1, none⟩ (.int .i64 1)).setCell ⟨z, 2, none⟩ (.string ⟨#[]⟩)) = w17 at *
   refine tk 9 ?_ ‹_› ?_ ?_; rotate_left; focus (intro w0 hSw; obtain ⟨e0, e1, e2⟩ := hSw; go_simp; try with_reducible rfl)
   try simp only [PT]
   refine wpAnyH_done (by kernel_rfl) ?_ _
   clear hHeld4 hs17
   have S18 := Lib.hid (S17.out.low (below_draw _))
   have hz := HZ17.out.low (below_draw _)
   have hs18 := (⟨Blk.three (v := R0) (HB17.out.low (below_draw _)), Blk.three (v := num 1) hz⟩ : _ ∧ _)
   dsimp only [R0, nil, num] at hs18
   have HZ18 := Lib.hid hz
   have HB18 := Lib.hid (HB17.out.low (below_draw _))
   clear hz S17 HB17 HZ17
   go_wp2_with fail
   refine wp_region_held_drew (S := (fun w' : World => (w'.cell? ⟨w4.heap.size, 0, none⟩ = some (.int .i64 7) ∧ w'.cell? ⟨w4.heap.size, 1, none⟩ = some (.int .i64 1) ∧ w'.cell? ⟨w4.heap.size, 2, none⟩ = some (.string ⟨#[]⟩)) ∧ (w'.cell? ⟨z, 0, none⟩ = some (.int .i64 3) ∧ w'.cell? ⟨z, 1, none⟩ = some (.int .i64 1) ∧ w'.cell? ⟨z, 2, none⟩ = some (.string ⟨#[]⟩)))) (by kernel_rfl) (hs18) (fun hHeld0 => ?_)
   generalize World.drew _ = w18 at *
   clear hs18
   refine tk 0 ?_ ‹_› ?_ ?_; rotate_left; focus (intro w0 hSw; obtain ⟨⟨e0, e1, e2⟩, ⟨f0, f1, f2⟩⟩ := hSw; go_simp; try with_reducible rfl)
   try simp only [PT]
   refine tk 1 ?_ ‹_› ?_ ?_; rotate_left; focus (intro w0 hSw; obtain ⟨⟨e0, e1, e2⟩, ⟨f0, f1, f2⟩⟩ := hSw; go_simp; try with_reducible rfl)
   try simp only [PT]
   refine tk 2 ?_ ‹_› ?_ ?_; rotate_left; focus (intro w0 hSw; obtain ⟨⟨e0, e1, e2⟩, ⟨f0, f1, f2⟩⟩ := hSw; go_simp; try with_reducible rfl)
   try simp only [PT]
   refine tk 3 ?_ ‹_› ?_ ?_; rotate_left; focus (intro w0 hSw; obtain ⟨⟨e0, e1, e2⟩, ⟨f0, f1, f2⟩⟩ := hSw; go_simp; try with_reducible rfl)
   try simp only [PT]
   refine tk 4 ?_ ‹_› ?_ ?_; rotate_left; focus (intro w0 hSw; obtain ⟨⟨e0, e1, e2⟩, ⟨f0, f1, f2⟩⟩ := hSw; go_simp; try with_reducible rfl)
   try simp only [PT]
   refine tk 5 ?_ ‹_› ?_ ?_; rotate_left; focus (intro w0 hSw; obtain ⟨⟨e0, e1, e2⟩, ⟨f0, f1, f2⟩⟩ := hSw; go_simp; try with_reducible rfl)
   try simp only [PT]
   refine tk 6 ?_ ‹_› ?_ ?_; rotate_left; focus (intro w0 hSw; obtain ⟨⟨e0, e1, e2⟩, ⟨f0, f1, f2⟩⟩ := hSw; go_simp; try with_reducible rfl)
   try simp only [PT]
   refine tk 7 ?_ ‹_› ?_ ?_; rotate_left; focus (intro w0 hSw; obtain ⟨⟨e0, e1, e2⟩, ⟨f0, f1, f2⟩⟩ := hSw; go_simp; try with_reducible rfl)
   try simp only [PT]
   refine tk 8 ?_ ‹_› ?_ ?_; rotate_left; focus (intro w0 hSw; obtain ⟨⟨e0, e1, e2⟩, ⟨f0, f1, f2⟩⟩ := hSw; go_simp; try with_reducible rfl)
   try simp only [PT]
   refine tk 9 ?_ ‹_› ?_ ?_; rotate_left; focus (intro w0 hSw; obtain ⟨⟨e0, e1, e2⟩, ⟨f0, f1, f2⟩⟩ := hSw; go_simp; try with_reducible rfl)
   try simp only [PT]
   refine tk 10 ?_ ‹_› ?_ ?_; rotate_left; focus (intro w0 hSw; obtain ⟨⟨e0, e1, e2⟩, ⟨f0, f1, f2⟩⟩ := hSw; go_simp; try with_reducible rfl)
   try simp only [PT]
   refine tk 11 ?_ ‹_› ?_ ?_; rotate_left; focus (intro w0 hSw; obtain ⟨⟨e0, e1, e2⟩, ⟨f0, f1, f2⟩⟩ := hSw; go_simp; try with_reducible rfl)
   try simp only [PT]
   refine tk 12 ?_ ‹_› ?_ ?_; rotate_left; focus (intro w0 hSw; obtain ⟨⟨e0, e1, e2⟩, ⟨f0, f1, f2⟩⟩ := hSw; go_simp; try with_reducible rfl)
   try simp only [PT]
   refine tk 13 ?_ ‹_› ?_ ?_; rotate_left; focus (intro w0 hSw; obtain ⟨⟨e0, e1, e2⟩, ⟨f0, f1, f2⟩⟩ := hSw; go_simp; try with_reducible rfl)
   try simp only [PT]
   refine tk 14 ?_ ‹_› ?_ ?_; rotate_left; focus (intro w0 hSw; obtain ⟨⟨e0, e1, e2⟩, ⟨f0, f1, f2⟩⟩ := hSw; go_simp; try with_reducible rfl)
   try simp only [PT]
   refine tk 15 ?_ ‹_› ?_ ?_; rotate_left; focus (intro w0 hSw; obtain ⟨⟨e0, e1, e2⟩, ⟨f0, f1, f2⟩⟩ := hSw; go_simp; try with_reducible rfl)
   try simp only [PT]
   refine tk 16 ?_ ‹_› ?_ ?_; rotate_left; focus (intro w0 hSw; obtain ⟨⟨e0, e1, e2⟩, ⟨f0, f1, f2⟩⟩ := hSw; go_simp; try with_reducible rfl)
   try simp only [PT]
   refine tk 17 ?_ ‹_› ?_ ?_; rotate_left; focus (intro w0 hSw; obtain ⟨⟨e0, e1, e2⟩, ⟨f0, f1, f2⟩⟩ := hSw; go_simp; try with_reducible rfl)
   try simp only [PT]
   refine tk 18 ?_ ‹_› ?_ ?_; rotate_left; focus (intro w0 hSw; obtain ⟨⟨e0, e1, e2⟩, ⟨f0, f1, f2⟩⟩ := hSw; go_simp; try with_reducible rfl)
   try simp only [PT]
   refine wpAnyH_ready (rs := [19]) (by decide +kernel) (by simp) (AllReadyH.cons rfl (fun K hK => ?_) AllReadyH.nil)
   have HKC := keys_any S18.out.ph gd_e3 R0
   rw [show R0 = ref 0 from rfl, e_keys, show (ref 0) = R0 from rfl] at HKC
   simp only [R0, Vl.v, nil] at HKC
   go_simp
   refine (HKC).mono ?_
   rintro e w19 ⟨r, rfl, htx, hb⟩
   have S19 := Lib.hid (S18.out.low hb)
   have HB19 := Lib.hid (HB18.out.low hb)
   have HZ19 := Lib.hid (HZ18.out.low hb)
   have hs19 := (⟨Blk.three (v := R0) HB19.out, Blk.three (v := num 1) HZ19.out⟩ : _ ∧ _)
   dsimp only [R0, nil, num] at hs19
   have N1 := Lib.hid htx.nm
   clear htx HKC
   clear hb S18 HB18 HZ18
   refine hK.out _ _ hs19 (fun hHeld1 => ?_)
   clear hK K hHeld0 
   try simp only [PT]
   refine wpAnyH_ready (rs := [20]) (by decide +kernel) (by simp) (AllReadyH.cons rfl (fun K hK => ?_) AllReadyH.nil)
   go_simp
   refine (u0_any _).mono ?_
   rintro e w20 ⟨rfl, hb⟩
   have S20 := Lib.hid (S19.out.low hb)
   have HB20 := Lib.hid (HB19.out.low hb)
   have HZ20 := Lib.hid (HZ19.out.low hb)
   have hs20 := (⟨Blk.three (v := R0) HB20.out, Blk.three (v := num 1) HZ20.out⟩ : _ ∧ _)
   dsimp only [R0, nil, num] at hs20
   have N2 := Lib.hid (N1.out.low hb)
   clear N1
   clear hb S19 HB19 HZ19
   refine hK.out _ _ hs20 (fun hHeld2 => ?_)
   clear hK K hHeld1 
   try simp only [PT]
   refine wpAnyH_ready (rs := [21]) (by decide +kernel) (by simp) (AllReadyH.cons rfl (fun K hK => ?_) AllReadyH.nil)
   go_simp
   have hb := below_new w20 (.cells #[.string K0] 9)
   have S21 := Lib.hid (S20.out.low hb)
   have HB21 := Lib.hid (HB20.out.low hb)
   have HZ21 := Lib.hid (HZ20.out.low hb)
   have hs21 := (⟨Blk.three (v := R0) HB21.out, Blk.three (v := num 1) HZ21.out⟩ : _ ∧ _)
   dsimp only [R0, nil, num] at hs21
   have N3 := Lib.hid (N2.out.low hb)
   have N4 : Hid (Nm (w20.alloc (.cells #[.string K0] 9)) (.slice (some ⟨w20.heap.size, 0, none⟩) 1 1) [K0]) := nm_one w20 K0
   clear hb N2 S20 HB20 HZ20
   refine hK.out _ _ hs21 (fun hHeld3 => ?_)
   clear hK K hHeld2 
   try simp only [PT]
   generalize (w20.alloc (.cells #[.string K0] 9)) = w21 at *
   refine wpAnyH_ready (rs := [22]) (by decide +kernel) (by simp) (AllReadyH.cons rfl (fun K hK => ?_) AllReadyH.nil)
   have HN := names_any [K0] [K0] _ _ w21 N3.out N4.out (by decide) (by decide)
   rw [show decide ([K0] = [K0]) = true from decide_eq_true rfl] at HN
   go_simp
   refine (HN).mono ?_
   rintro e w22 ⟨rfl, hb⟩
   have S22 := Lib.hid (S21.out.low hb)
   have HB22 := Lib.hid (HB21.out.low hb)
   have HZ22 := Lib.hid (HZ21.out.low hb)
   have hs22 := (⟨Blk.three (v := R0) HB22.out, Blk.three (v := num 1) HZ22.out⟩ : _ ∧ _)
   dsimp only [R0, nil, num] at hs22
   clear HN N3 N4
   clear hb S21 HB21 HZ21
   refine hK.out _ _ hs22 (fun hHeld4 => ?_)
   clear hK K hHeld3 
   try simp only [PT]
   refine tk 23 ?_ ‹_› ?_ ?_; rotate_left; focus (intro w0 hSw; obtain ⟨⟨e0, e1, e2⟩, ⟨f0, f1, f2⟩⟩ := hSw; go_simp; try with_reducible rfl)
   try simp only [PT]
   refine tk 24 ?_ ‹_› ?_ ?_; rotate_left; focus (intro w0 hSw; obtain ⟨⟨e0, e1, e2⟩, ⟨f0, f1, f2⟩⟩ := hSw; go_simp; try with_reducible rfl)
   try simp only [PT]
   refine tk 25 ?_ ‹_› ?_ ?_; rotate_left; focus (intro w0 hSw; obtain ⟨⟨e0, e1, e2⟩, ⟨f0, f1, f2⟩⟩ := hSw; go_simp; try with_reducible rfl)
   try simp only [PT]
   refine tk 26 ?_ ‹_› ?_ ?_; rotate_left; focus (intro w0 hSw; obtain ⟨⟨e0, e1, e2⟩, ⟨f0, f1, f2⟩⟩ := hSw; go_simp; try with_reducible rfl)
   try simp only [PT]
   refine tk 27 ?_ ‹_› ?_ ?_; rotate_left; focus (intro w0 hSw; obtain ⟨⟨e0, e1, e2⟩, ⟨f0, f1, f2⟩⟩ := hSw; go_simp; try with_reducible rfl)
   try simp only [PT]
   refine tk 28 ?_ ‹_› ?_ ?_; rotate_left; focus (intro w0 hSw; obtain ⟨⟨e0, e1, e2⟩, ⟨f0, f1, f2⟩⟩ := hSw; go_simp; try with_reducible rfl)
   try simp only [PT]
   refine wpAnyH_ready (rs := [29]) (by decide +kernel) (by simp) (AllReadyH.cons rfl (fun K hK => ?_) AllReadyH.nil)
   go_simp
   refine (HN1.out _).mono ?_
   rintro e w23 ⟨rfl, hb⟩
   have S23 := Lib.hid (S22.out.low hb)
   have HB23 := Lib.hid (HB22.out.low hb)
   have HZ23 := Lib.hid (HZ22.out.low hb)
   have hs23 := (⟨Blk.three (v := R0) HB23.out, Blk.three (v := num 1) HZ23.out⟩ : _ ∧ _)
   dsimp only [R0, nil, num] at hs23
   clear hb S22 HB22 HZ22
   refine hK.out _ _ hs23 (fun hHeld5 => ?_)
   clear hK K hHeld4 
   try simp only [PT]
   refine tk 30 ?_ ‹_› ?_ ?_; rotate_left; focus (intro w0 hSw; obtain ⟨⟨e0, e1, e2⟩, ⟨f0, f1, f2⟩⟩ := hSw; go_simp; try with_reducible rfl)
   try simp only [PT]
   refine tk 31 ?_ ‹_› ?_ ?_; rotate_left; focus (intro w0 hSw; obtain ⟨⟨e0, e1, e2⟩, ⟨f0, f1, f2⟩⟩ := hSw; go_simp; try with_reducible rfl)
   try simp only [PT]
   refine tk 32 ?_ ‹_› ?_ ?_; rotate_left; focus (intro w0 hSw; obtain ⟨⟨e0, e1, e2⟩, ⟨f0, f1, f2⟩⟩ := hSw; go_simp; try with_reducible rfl)
   try simp only [PT]
   refine tk 33 ?_ ‹_› ?_ ?_; rotate_left; focus (intro w0 hSw; obtain ⟨⟨e0, e1, e2⟩, ⟨f0, f1, f2⟩⟩ := hSw; go_simp; try with_reducible rfl)
   try simp only [PT]
   refine wpAnyH_ready (rs := [34]) (by decide +kernel) (by simp) (AllReadyH.cons rfl (fun K hK => ?_) AllReadyH.nil)
   have HU := used_any S23.out.ph
   rw [show ((E3.n : Nat) : Int) = 4 from rfl] at HU
   go_simp
   refine (HU).mono ?_
   rintro e w24 ⟨rfl, hww⟩
   have hb : Below w23.heap.size w23 w24 := by rw [← hww]; exact Below.refl _ _
   clear hww
   have S24 := Lib.hid (S23.out.low hb)
   have HB24 := Lib.hid (HB23.out.low hb)
   have HZ24 := Lib.hid (HZ23.out.low hb)
   have hs24 := (⟨Blk.three (v := R0) HB24.out, Blk.three (v := num 1) HZ24.out⟩ : _ ∧ _)
   dsimp only [R0, nil, num] at hs24
   clear HU
   clear hb S23 HB23 HZ23
   refine hK.out _ _ hs24 (fun hHeld6 => ?_)
   clear hK K hHeld5 
   try simp only [PT]
   refine tk 35 ?_ ‹_› ?_ ?_; rotate_left; focus (intro w0 hSw; obtain ⟨⟨e0, e1, e2⟩, ⟨f0, f1, f2⟩⟩ := hSw; go_simp; try with_reducible rfl)
   try simp only [PT]
   refine tk 36 ?_ ‹_› ?_ ?_; rotate_left; focus (intro w0 hSw; obtain ⟨⟨e0, e1, e2⟩, ⟨f0, f1, f2⟩⟩ := hSw; go_simp; try with_reducible rfl)
   try simp only [PT]
   refine tk 37 ?_ ‹_› ?_ ?_; rotate_left; focus (intro w0 hSw; obtain ⟨⟨e0, e1, e2⟩, ⟨f0, f1, f2⟩⟩ := hSw; go_simp; try with_reducible rfl)
   try simp only [PT]
   refine wpAnyH_done (by kernel_rfl) ?_ _
   clear hHeld6 hs24
   go_wp2_with fail
   refine bodyPost_ret (results_tmp rfl _ _ _) rfl ⟨rfl, S24.out.bel⟩
 ·
  go_simp
  have hb := below_new w13 (.cells #[.int .i64 0, .int .i64 0, .string ⟨#[]⟩] 29)
  have S14 := Lib.hid (S13.out.low hb)
  have HB14 := Lib.hid (HB13.out.low hb)
  have HZ14 := Lib.hid (Blk.new w13 29 [.int .i64 0, .int .i64 0, .string ⟨#[]⟩])
  have HZN14 : Hid (w13.heap.size ≠ w4.heap.size) := Nat.ne_of_gt HB13.out.lt
  have hs14 := Blk.three (v := R0) HB14.out
  dsimp only [R0, nil] at hs14
  have HZW : Hid (w.heap.size ≤ w13.heap.size) := S13.out.bel.size
  have HZO : Hid (ow12 w13.heap.size = none) := S13.out.fresh
  generalize w13.heap.size = z at *
  clear hb S13 HB13
  refine hK.out _ _ hs14 (fun hHeld1 => ?_)
  clear hK K hHeld0 
  generalize World.alloc _ _ = w14 at *
  try simp only [PT]
  refine wpAnyH_ready (rs := [2]) (by decide +kernel) (by simp) (AllReadyH.cons rfl (fun K hK => ?_) AllReadyH.nil)
  go_simp
  refine (u0_any _).mono ?_
  rintro e w15 ⟨rfl, hb⟩
  have S15 := Lib.hid (S14.out.low hb)
  have HB15 := Lib.hid (HB14.out.low hb)
  have HZ15 := Lib.hid (HZ14.out.low hb)
  have HZN15 := HZN14
  have hs15 := Blk.three (v := R0) HB15.out
  dsimp only [R0, nil] at hs15
  clear hb S14 HB14 HZ14 HZN14
  refine hK.out _ _ hs15 (fun hHeld2 => ?_)
  clear hK K hHeld1 
  try simp only [PT]
  refine wpAnyH_ready (rs := [3]) (by decide +kernel) (by simp) (AllReadyH.cons rfl (fun K hK => ?_) AllReadyH.nil)
  have HG := get_any S15.out.ph gd_e3 R0 K0 (by decide)
  rw [show R0 = ref 0 from rfl, e_get, show (ref 0) = R0 from rfl] at HG
  simp only [R0, Vl.v, nil, getR, PA, num] at HG
  go_simp
  refine (HG).mono ?_
  rintro e w16 ⟨rfl, hb⟩
  have S16 := Lib.hid (S15.out.low hb)
  have HB16 := Lib.hid (HB15.out.low hb)
  have HZ16 := Lib.hid (HZ15.out.low hb)
  have HZN16 := HZN15
  have hs16 := Blk.three (v := R0) HB16.out
  dsimp only [R0, nil] at hs16
  clear hb HG S15 HB15 HZ15 HZN15
  refine hK.out _ _ hs16 (fun hHeld3 => ?_)
  clear hK K hHeld2 
  try simp only [PT]
  refine tk 4 ?_ ‹_› ?_ ?_; rotate_left; focus (intro w0 hSw; obtain ⟨e0, e1, e2⟩ := hSw; go_simp; try with_reducible rfl)
  refine tk 5 ?_ ‹_› ?_ ?_; rotate_left; focus (intro w0 hSw; obtain ⟨e0, e1, e2⟩ := hSw; go_simp; try with_reducible rfl)
  refine tk 6 ?_ ‹_› ?_ ?_; rotate_left; focus (intro w0 hSw; obtain ⟨e0, e1, e2⟩ := hSw; go_simp; try with_reducible rfl)
  try simp only [PT]
  refine wpAnyH_ready (rs := [8]) (by decide +kernel) (by simp) (AllReadyH.cons rfl (fun K hK => ?_) AllReadyH.nil)
  obtain ⟨z0, z1, z2⟩ := Blk.three (v := vl0) HZ16.out
  have zf := HZ16.out.fz
  dsimp only [vl0] at z0 z1 z2
  go_simp
  have HZ17 := Lib.hid (set3_new (a := .int .i64 3) (b := .int .i64 1) (c := .string ⟨#[]⟩) HZ16.out)
  have HB17 := Lib.hid (set3_keep (a := .int .i64 3) (b := .int .i64 1) (c := .string ⟨#[]⟩) HB16.out HZN16.out)
  have S17 := Lib.hid (S16.out.set3 (x := .int .i64 3) (y := .int .i64 1) (z := .string ⟨#[]⟩) HZW.out HZO.out)
  have hs17 := Blk.three (v := R0) HB17.out
  dsimp only [R0, nil] at hs17
  clear z0 z1 z2 zf S16 HB16 HZ16 HZN16 HZW HZO
  refine hK.out _ _ hs17 (fun hHeld4 => ?_)
  clear hK K hHeld3 
  try simp only [PT]
  generalize (((w16.setCell ⟨z, 0, none⟩ (.int .i64 3)).setCell ⟨z, 1, none⟩ (.int .i64 1)).setCell ⟨z, 2, none⟩ (.string ⟨#[]⟩)) = w17 at *
  refine tk 9 ?_ ‹_› ?_ ?_; rotate_left; focus (intro w0 hSw; obtain ⟨e0, e1, e2⟩ := hSw; go_simp; try with_reducible rfl)
  try simp only [PT]
  refine wpAnyH_done (by kernel_rfl) ?_ _
  clear hHeld4 hs17
  have S18 := Lib.hid (S17.out.low (below_draw _))
  have hz := HZ17.out.low (below_draw _)
  have hs18 := (⟨Blk.three (v := R0) (HB17.out.low (below_draw _)), Blk.three (v := num 1) hz⟩ : _ ∧ _)
  dsimp only [R0, nil, num] at hs18
  have HZ18 := Lib.hid hz
  have HB18 := Lib.hid (HB17.out.low (below_draw _))
  clear hz S17 HB17 HZ17
  go_wp2_with fail
  refine wp_region_held_drew (S := (fun w' : World => (w'.cell? ⟨w4.heap.size, 0, none⟩ = some (.int .i64 7) ∧ w'.cell? ⟨w4.heap.size, 1, none⟩ = some (.int .i64 1) ∧ w'.cell? ⟨w4.heap.size, 2, none⟩ = some (.string ⟨#[]⟩)) ∧ (w'.cell? ⟨z, 0, none⟩ = some (.int .i64 3) ∧ w'.cell? ⟨z, 1, none⟩ = some (.int .i64 1) ∧ w'.cell? ⟨z, 2, none⟩ = some (.string ⟨#[]⟩)))) (by kernel_rfl) (hs18) (fun hHeld0 => ?_)
  generalize World.drew _ = w18 at *
  clear hs18
  refine tk 0 ?_ ‹_› ?_ ?_; rotate_left; focus (intro w0 hSw; obtain ⟨⟨e0, e1, e2⟩, ⟨f0, f1, f2⟩⟩ := hSw; go_simp; try with_reducible rfl)
  try simp only [PT]
  refine tk 1 ?_ ‹_› ?_ ?_; rotate_left; focus (intro w0 hSw; obtain ⟨⟨e0, e1, e2⟩, ⟨f0, f1, f2⟩⟩ := hSw; go_simp; try with_reducible rfl)
  try simp only [PT]
  refine tk 2 ?_ ‹_› ?_ ?_; rotate_left; focus (intro w0 hSw; obtain ⟨⟨e0, e1, e2⟩, ⟨f0, f1, f2⟩⟩ := hSw; go_simp; try with_reducible rfl)
  try simp only [PT]
  refine tk 3 ?_ ‹_› ?_ ?_; rotate_left; focus (intro w0 hSw; obtain ⟨⟨e0, e1, e2⟩, ⟨f0, f1, f2⟩⟩ := hSw; go_simp; try with_reducible rfl)
  try simp only [PT]
  refine tk 4 ?_ ‹_› ?_ ?_; rotate_left; focus (intro w0 hSw; obtain ⟨⟨e0, e1, e2⟩, ⟨f0, f1, f2⟩⟩ := hSw; go_simp; try with_reducible rfl)
  try simp only [PT]
  refine tk 5 ?_ ‹_› ?_ ?_; rotate_left; focus (intro w0 hSw; obtain ⟨⟨e0, e1, e2⟩, ⟨f0, f1, f2⟩⟩ := hSw; go_simp; try with_reducible rfl)
  try simp only [PT]
  refine tk 6 ?_ ‹_› ?_ ?_; rotate_left; focus (intro w0 hSw; obtain ⟨⟨e0, e1, e2⟩, ⟨f0, f1, f2⟩⟩ := hSw; go_simp; try with_reducible rfl)
  try simp only [PT]
  refine tk 7 ?_ ‹_› ?_ ?_; rotate_left; focus (intro w0 hSw; obtain ⟨⟨e0, e1, e2⟩, ⟨f0, f1, f2⟩⟩ := hSw; go_simp; try with_reducible rfl)
  try simp only [PT]
  refine tk 8 ?_ ‹_› ?_ ?_; rotate_left; focus (intro w0 hSw; obtain ⟨⟨e0, e1, e2⟩, ⟨f0, f1, f2⟩⟩ := hSw; go_simp; try with_reducible rfl)
  try simp only [PT]
  refine tk 9 ?_ ‹_› ?_ ?_; rotate_left; focus (intro w0 hSw; obtain ⟨⟨e0, e1, e2⟩, ⟨f0, f1, f2⟩⟩ := hSw; go_simp; try with_reducible rfl)
  try simp only [PT]
  refine tk 10 ?_ ‹_› ?_ ?_; rotate_left; focus (intro w0 hSw; obtain ⟨⟨e0, e1, e2⟩, ⟨f0, f1, f2⟩⟩ := hSw; go_simp; try with_reducible rfl)
  try simp only [PT]
  refine tk 11 ?_ ‹_› ?_ ?_; rotate_left; focus (intro w0 hSw; obtain ⟨⟨e0, e1, e2⟩, ⟨f0, f1, f2⟩⟩ := hSw; go_simp; try with_reducible rfl)
  try simp only [PT]
  refine tk 12 ?_ ‹_› ?_ ?_; rotate_left; focus (intro w0 hSw; obtain ⟨⟨e0, e1, e2⟩, ⟨f0, f1, f2⟩⟩ := hSw; go_simp; try with_reducible rfl)
  try simp only [PT]
  refine tk 13 ?_ ‹_› ?_ ?_; rotate_left; focus (intro w0 hSw; obtain ⟨⟨e0, e1, e2⟩, ⟨f0, f1, f2⟩⟩ := hSw; go_simp; try with_reducible rfl)
  try simp only [PT]
  refine tk 14 ?_ ‹_› ?_ ?_; rotate_left; focus (intro w0 hSw; obtain ⟨⟨e0, e1, e2⟩, ⟨f0, f1, f2⟩⟩ := hSw; go_simp; try with_reducible rfl)
  try simp only [PT]
  refine tk 15 ?_ ‹_› ?_ ?_; rotate_left; focus (intro w0 hSw; obtain ⟨⟨e0, e1, e2⟩, ⟨f0, f1, f2⟩⟩ := hSw; go_simp; try with_reducible rfl)
  try simp only [PT]
  refine tk 16 ?_ ‹_› ?_ ?_; rotate_left; focus (intro w0 hSw; obtain ⟨⟨e0, e1, e2⟩, ⟨f0, f1, f2⟩⟩ := hSw; go_simp; try with_reducible rfl)
  try simp only [PT]
  refine tk 17 ?_ ‹_› ?_ ?_; rotate_left; focus (intro w0 hSw; obtain ⟨⟨e0, e1, e2⟩, ⟨f0, f1, f2⟩⟩ := hSw; go_simp; try with_reducible rfl)
  try simp only [PT]
  refine tk 18 ?_ ‹_› ?_ ?_; rotate_left; focus (intro w0 hSw; obtain ⟨⟨e0, e1, e2⟩, ⟨f0, f1, f2⟩⟩ := hSw; go_simp; try with_reducible rfl)
  try simp only [PT]
  refine wpAnyH_ready (rs := [19]) (by decide +kernel) (by simp) (AllReadyH.cons rfl (fun K hK => ?_) AllReadyH.nil)
  have HKC := keys_any S18.out.ph gd_e3 R0
  rw [show R0 = ref 0 from rfl, e_keys, show (ref 0) = R0 from rfl] at HKC
  simp only [R0, Vl.v, nil] at HKC
  go_simp
  refine (HKC).mono ?_
  rintro e w19 ⟨r, rfl, htx, hb⟩
  have S19 := Lib.hid (S18.out.low hb)
  have HB19 := Lib.hid (HB18.out.low hb)
  have HZ19 := Lib.hid (HZ18.out.low hb)
  have hs19 := (⟨Blk.three (v := R0) HB19.out, Blk.three (v := num 1) HZ19.out⟩ : _ ∧ _)
  dsimp only [R0, nil, num] at hs19
  have N1 := Lib.hid htx.nm
  clear htx HKC
  clear hb S18 HB18 HZ18
  refine hK.out _ _ hs19 (fun hHeld1 => ?_)
  clear hK K hHeld0 
  try simp only [PT]
  refine wpAnyH_ready (rs := [20]) (by decide +kernel) (by simp) (AllReadyH.cons rfl (fun K hK => ?_) AllReadyH.nil)
  go_simp
  refine (u0_any _).mono ?_
  rintro e w20 ⟨rfl, hb⟩
  have S20 := Lib.hid (S19.out.low hb)
  have HB20 := Lib.hid (HB19.out.low hb)
  have HZ20 := Lib.hid (HZ19.out.low hb)
  have hs20 := (⟨Blk.three (v := R0) HB20.out, Blk.three (v := num 1) HZ20.out⟩ : _ ∧ _)
  dsimp only [R0, nil, num] at hs20
  have N2 := Lib.hid (N1.out.low hb)
  clear N1
  clear hb S19 HB19 HZ19
  refine hK.out _ _ hs20 (fun hHeld2 => ?_)
  clear hK K hHeld1 
  try simp only [PT]
  refine wpAnyH_ready (rs := [21]) (by decide +kernel) (by simp) (AllReadyH.cons rfl (fun K hK => ?_) AllReadyH.nil)
  go_simp
  have hb := below_new w20 (.cells #[.string K0] 9)
  have S21 := Lib.hid (S20.out.low hb)
  have HB21 := Lib.hid (HB20.out.low hb)
  have HZ21 := Lib.hid (HZ20.out.low hb)
  have hs21 := (⟨Blk.three (v := R0) HB21.out, Blk.three (v := num 1) HZ21.out⟩ : _ ∧ _)
  dsimp only [R0, nil, num] at hs21
  have N3 := Lib.hid (N2.out.low hb)
  have N4 : Hid (Nm (w20.alloc (.cells #[.string K0] 9)) (.slice (some ⟨w20.heap.size, 0, none⟩) 1 1) [K0]) := nm_one w20 K0
  clear hb N2 S20 HB20 HZ20
  refine hK.out _ _ hs21 (fun hHeld3 => ?_)
  clear hK K hHeld2 
  try simp only [PT]
  generalize (w20.alloc (.cells #[.string K0] 9)) = w21 at *
  refine wpAnyH_ready (rs := [22]) (by decide +kernel) (by simp) (AllReadyH.cons rfl (fun K hK => ?_) AllReadyH.nil)
  have HN := names_any [K0] [K0] _ _ w21 N3.out N4.out (by decide) (by decide)
  rw [show decide ([K0] = [K0]) = true from decide_eq_true rfl] at HN
  go_simp
  refine (HN).mono ?_
  rintro e w22 ⟨rfl, hb⟩
  have S22 := Lib.hid (S21.out.low hb)
  have HB22 := Lib.hid (HB21.out.low hb)
  have HZ22 := Lib.hid (HZ21.out.low hb)
  have hs22 := (⟨Blk.three (v := R0) HB22.out, Blk.three (v := num 1) HZ22.out⟩ : _ ∧ _)
  dsimp only [R0, nil, num] at hs22
  clear HN N3 N4
  clear hb S21 HB21 HZ21
  refine hK.out _ _ hs22 (fun hHeld4 => ?_)
  clear hK K hHeld3 
  try simp only [PT]
  refine tk 23 ?_ ‹_› ?_ ?_; rotate_left; focus (intro w0 hSw; obtain ⟨⟨e0, e1, e2⟩, ⟨f0, f1, f2⟩⟩ := hSw; go_simp; try with_reducible rfl)
  try simp only [PT]
  refine tk 24 ?_ ‹_› ?_ ?_; rotate_left; focus (intro w0 hSw; obtain ⟨⟨e0, e1, e2⟩, ⟨f0, f1, f2⟩⟩ := hSw; go_simp; try with_reducible rfl)
  try simp only [PT]
  refine tk 25 ?_ ‹_› ?_ ?_; rotate_left; focus (intro w0 hSw; obtain ⟨⟨e0, e1, e2⟩, ⟨f0, f1, f2⟩⟩ := hSw; go_simp; try with_reducible rfl)
  try simp only [PT]
  refine tk 26 ?_ ‹_› ?_ ?_; rotate_left; focus (intro w0 hSw; obtain ⟨⟨e0, e1, e2⟩, ⟨f0, f1, f2⟩⟩ := hSw; go_simp; try with_reducible rfl)
  try simp only [PT]
  refine tk 27 ?_ ‹_› ?_ ?_; rotate_left; focus (intro w0 hSw; obtain ⟨⟨e0, e1, e2⟩, ⟨f0, f1, f2⟩⟩ := hSw; go_simp; try with_reducible rfl)
  try simp only [PT]
  refine tk 28 ?_ ‹_› ?_ ?_; rotate_left; focus (intro w0 hSw; obtain ⟨⟨e0, e1, e2⟩, ⟨f0, f1, f2⟩⟩ := hSw; go_simp; try with_reducible rfl)
  try simp only [PT]
  refine wpAnyH_ready (rs := [29]) (by decide +kernel) (by simp) (AllReadyH.cons rfl (fun K hK => ?_) AllReadyH.nil)
  go_simp
  refine (HN1.out _).mono ?_
  rintro e w23 ⟨rfl, hb⟩
  have S23 := Lib.hid (S22.out.low hb)
  have HB23 := Lib.hid (HB22.out.low hb)
  have HZ23 := Lib.hid (HZ22.out.low hb)
  have hs23 := (⟨Blk.three (v := R0) HB23.out, Blk.three (v := num 1) HZ23.out⟩ : _ ∧ _)
  dsimp only [R0, nil, num] at hs23
  clear hb S22 HB22 HZ22
  refine hK.out _ _ hs23 (fun hHeld5 => ?_)
  clear hK K hHeld4 
  try simp only [PT]
  refine tk 30 ?_ ‹_› ?_ ?_; rotate_left; focus (intro w0 hSw; obtain ⟨⟨e0, e1, e2⟩, ⟨f0, f1, f2⟩⟩ := hSw; go_simp; try with_reducible rfl)
  try simp only [PT]
  refine tk 31 ?_ ‹_› ?_ ?_; rotate_left; focus (intro w0 hSw; obtain ⟨⟨e0, e1, e2⟩, ⟨f0, f1, f2⟩⟩ := hSw; go_simp; try with_reducible rfl)
  try simp only [PT]
  refine tk 32 ?_ ‹_› ?_ ?_; rotate_left; focus (intro w0 hSw; obtain ⟨⟨e0, e1, e2⟩, ⟨f0, f1, f2⟩⟩ := hSw; go_simp; try with_reducible rfl)
  try simp only [PT]
  refine tk 33 ?_ ‹_› ?_ ?_; rotate_left; focus (intro w0 hSw; obtain ⟨⟨e0, e1, e2⟩, ⟨f0, f1, f2⟩⟩ := hSw; go_simp; try with_reducible rfl)
  try simp only [PT]
  refine wpAnyH_ready (rs := [34]) (by decide +kernel) (by simp) (AllReadyH.cons rfl (fun K hK => ?_) AllReadyH.nil)
  have HU := used_any S23.out.ph
  rw [show ((E3.n : Nat) : Int) = 4 from rfl] at HU
  go_simp
  refine (HU).mono ?_
  rintro e w24 ⟨rfl, hww⟩
  have hb : Below w23.heap.size w23 w24 := by rw [← hww]; exact Below.refl _ _
  clear hww
  have S24 := Lib.hid (S23.out.low hb)
  have HB24 := Lib.hid (HB23.out.low hb)
  have HZ24 := Lib.hid (HZ23.out.low hb)
  have hs24 := (⟨Blk.three (v := R0) HB24.out, Blk.three (v := num 1) HZ24.out⟩ : _ ∧ _)
  dsimp only [R0, nil, num] at hs24
  clear HU
  clear hb S23 HB23 HZ23
  refine hK.out _ _ hs24 (fun hHeld6 => ?_)
  clear hK K hHeld5 
  try simp only [PT]
  refine tk 35 ?_ ‹_› ?_ ?_; rotate_left; focus (intro w0 hSw; obtain ⟨⟨e0, e1, e2⟩, ⟨f0, f1, f2⟩⟩ := hSw; go_simp; try with_reducible rfl)
  try simp only [PT]
  refine tk 36 ?_ ‹_› ?_ ?_; rotate_left; focus (intro w0 hSw; obtain ⟨⟨e0, e1, e2⟩, ⟨f0, f1, f2⟩⟩ := hSw; go_simp; try with_reducible rfl)
  try simp only [PT]
  refine tk 37 ?_ ‹_› ?_ ?_; rotate_left; focus (intro w0 hSw; obtain ⟨⟨e0, e1, e2⟩, ⟨f0, f1, f2⟩⟩ := hSw; go_simp; try with_reducible rfl)
  try simp only [PT]
  refine wpAnyH_done (by kernel_rfl) ?_ _
  clear hHeld6 hs24
  go_wp2_with fail
  refine bodyPost_ret (results_tmp rfl _ _ _) rfl ⟨rfl, S24.out.bel⟩
def OpRow (w : World) (g p : Nat) (o : Op) (sl : Value) : Prop := ∀ i v, (opC o sl)[i]? = some v → w.cell? ⟨g, p + i, none⟩ = some v
def OpsB (w : World) (B : Nat) (sl : Value) (l : List Op) : Prop := ∃ A c g, sl = .slice A l.length c ∧ g < B ∧ ∀ j o, l[j]? = some o → ∃ q slo bk, A = some ⟨g, q, none⟩ ∧ bk < B ∧ Vls w slo o.l bk ∧ OpRow w g (q + j * 16) o slo
theorem OpRow.fr {w w' : World} {g p : Nat} {o : Op} {sl : Value} (h : OpRow w g p o sl) (hb : w'.heap[g]? = w.heap[g]?) : OpRow w' g p o sl :=
 fun i v hi => (World.cell?_of_block (w := w) (a := ⟨g, p + i, none⟩) hb).trans (h i v hi)
theorem OpRow.all {w : World} {g p : Nat} {o : Op} {sl : Value} (h : OpRow w g p o sl) : w.cell? ⟨g, p, none⟩ = some (.int .i64 o.d) ∧ w.cell? ⟨g, p + 1, none⟩ = some (.int .i64 o.v.k) ∧ w.cell? ⟨g, p + 2, none⟩ = some (.int .i64 o.v.n) ∧ w.cell? ⟨g, p + 3, none⟩ = some (.string o.v.s) ∧ w.cell? ⟨g, p + 4, none⟩ = some (.int .i64 o.x.k) ∧ w.cell? ⟨g, p + 5, none⟩ = some (.int .i64 o.x.n) ∧ w.cell? ⟨g, p + 6, none⟩ = some (.string o.x.s) ∧ w.cell? ⟨g, p + 7, none⟩ = some (.string o.key) ∧ w.cell? ⟨g, p + 8, none⟩ = some (.string o.p.key) ∧ w.cell? ⟨g, p + 9, none⟩ = some (.int .i64 o.p.v.k) ∧ w.cell? ⟨g, p + 10, none⟩ = some (.int .i64 o.p.v.n) ∧ w.cell? ⟨g, p + 11, none⟩ = some (.string o.p.v.s) ∧ w.cell? ⟨g, p + 12, none⟩ = some (.bool o.p.w) ∧ w.cell? ⟨g, p + 13, none⟩ = some (.bool o.p.e) ∧ w.cell? ⟨g, p + 14, none⟩ = some (.bool o.p.f) ∧ w.cell? ⟨g, p + 15, none⟩ = some sl :=
 ⟨h 0 _ rfl, h 1 _ rfl, h 2 _ rfl, h 3 _ rfl, h 4 _ rfl, h 5 _ rfl, h 6 _ rfl, h 7 _ rfl, h 8 _ rfl, h 9 _ rfl, h 10 _ rfl, h 11 _ rfl, h 12 _ rfl, h 13 _ rfl, h 14 _ rfl, h 15 _ rfl⟩
structure Sm (o : Op) : Prop where
 so : So o
 l : o.l.length ≤ 4194304
abbrev Hs.run' (h : Hs) (l : List Op) : Hs := h.run ix dx LK AR l
theorem run_next {h : Hs} {l : List Op} {k : Nat} {o : Op} (ho : l[k]? = some o) : h.run' (l.take (k + 1)) = (h.run' (l.take k)).step ix dx LK AR o := by
 rw [List.take_add_one, ho]
 exact run_snoc ix dx LK AR (l.take k) o h
theorem gd_runs {h : Hs} (g : Gd h) {l : List Op} (hl : ∀ o ∈ l, Sm o) (k : Nat) : Gd (h.run' (l.take k)) := gd_run _ h g fun o ho => (hl o (List.mem_of_mem_take ho)).so
end Go.Proofs.YtcahijpbkjplmaaGreatDoor.G
