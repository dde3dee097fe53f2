/-
  TreeGrows, walked.
-/
import Derived.Test.YtllpgoaanbiodaaGreatDoorMLc
import Derived.Laws.Concat
namespace Go.Proofs.YtllpgoaanbiodaaGreatDoor.R
open Go.RowKit Go.Proofs.YtllpgoaanbiodaaGreatDoor Go.Proofs.YtllpgoaanbiodaaGreatDoor.T

set_option maxRecDepth 20000 in
set_option maxHeartbeats 2000000 in
theorem grows_law (v : V) (x : X) (w : World) (hx : Is w v x) (hb : v.bulk ≤ 1048576) (hT : Tab w) : Calls Tryz.prog 8 #[x.v] w fun e w' => e = .returned (.bool true) ∧ Below w.heap.size w w' := by
  have HLV := Lib.hid fun w' (h : Below w.heap.size w w') => live_any w' (hT.below h)
  have hbb : (prgV [blkV v.l]).bulk ≤ 4194304 := by have := blk_bulk v; omega
  have HTA := Lib.hid fun w' (h2 : Below w.heap.size w w') => text_any v x w' (Is.below h2 _ _ hx) (by omega) (hT.below h2)
  have HTB := Lib.hid fun (y : X) w' (h : Is w' (prgV [blkV v.l]) y) (h2 : Below w.heap.size w w') => text_any _ y w' h hbb (hT.below h2)
  have HSA := Lib.hid fun w' (h2 : Below w.heap.size w w') => size_any v x w' (Is.below h2 _ _ hx) (by omega)
  have HDA := Lib.hid fun w' (h2 : Below w.heap.size w w') => deep_any v x w' (Is.below h2 _ _ hx) (by omega)
  have HSB := Lib.hid fun (y : X) w' (h : Is w' (prgV [blkV v.l]) y) => size_any _ y w' h hbb
  have HDB := Lib.hid fun (y : X) w' (h : Is w' (prgV [blkV v.l]) y) => deep_any _ y w' h hbb
  rw [tres_eq] at HTA HTB
  rw [blk_size, show ((v.size + 1 : Nat) : Int) = (v.size : Int) + 1 by omega] at HSB
  rw [blk_deep, show ((v.deep + 1 : Nat) : Int) = (v.deep : Int) + 1 by omega] at HDB
  have HGR := Lib.hid fun h1 h2 => grow_tx (v := v) h1 h2
  have HSZ := Lib.hid fun h => tx_size (v := v) h
  have hsd : v.size ≤ 4194304 ∧ v.deep ≤ 4194304 := by
    have h1 := size_le_bulk v
    have h2 := deep_le_size v
    omega
  obtain ⟨xka, xkc, xla, xlc, rfl, -, hlc, -, hrow⟩ := hx.open
  have HRW := Lib.hid hrow
  have HLC := Lib.hid hlc
  obtain ⟨W0, hW0⟩ : ∃ W0, w.alloc (.cells #[.int .i64 v.k, .string v.nm, .int .i64 v.n, .string v.s, .slice xka v.ks.length xkc, .slice xla v.l.length xlc] 25) = W0 := ⟨_, rfl⟩
  have HB0 : Hid (Below w.heap.size w W0) := by rw [← hW0]; exact below_alloc _ _
  have HF : Hid (∀ w', Below W0.heap.size W0 w' → At w' w.heap.size 0 ⟨v.k, v.nm, v.n, v.s, xka, v.ks.length, xkc, xla, v.l.length, xlc⟩) := fun w' hb => by
    have h0 : At W0 w.heap.size 0 ⟨v.k, v.nm, v.n, v.s, xka, v.ks.length, xkc, xla, v.l.length, xlc⟩ := by rw [← hW0]; exact at_row (hp_new rfl) rfl rfl rfl rfl rfl rfl
    exact h0.below (B := W0.heap.size) (by rw [← hW0]; simp) hb
  have HW0 := Lib.hid hW0
  simp only [X.v] at HTA HTB HSA HSB HDA HDB ⊢
  have hsi : (v.size : Int) ≤ 4194304 := by omega
  have hdi : (v.deep : Int) ≤ 4194304 := by omega
  have hws : IntKind.i64.wrap ((v.size : Int) + 1) = (v.size : Int) + 1 := IntWalk.i64_in _ (by omega)
  have hwd : IntKind.i64.wrap ((v.deep : Int) + 1) = (v.deep : Int) + 1 := IntWalk.i64_in _ (by omega)
  generalize (v.size : Int) = sz at *
  generalize (v.deep : Int) = dp at *
  clear hx hrow hlc hT hb hW0 hbb hsd
  go_enter Tryz.func8, Tryz.ntmps8
  go_wp2_with fail
  rw [HW0.out]
  clear HW0
  refine (HLV.out _ HB0.out).mono ?_
  rintro e w1 ⟨rfl, hb1⟩
  have HB1 := Lib.hid hb1
  clear hb1
  obtain ⟨c0, c1, c2, c3, c4, c5⟩ := HF.out _ HB1.out
  dsimp only at c0 c1 c2 c3 c4 c5
  go_wp2_with fail
  refine (HTA.out _ (HB0.out.trans (HB1.out.mono HB0.out.size))).mono ?_
  rintro e w2 ⟨rfl, hb2⟩
  have HB2 := Lib.hid (HB1.out.trans (hb2.mono HB1.out.size))
  clear hb2 HB1 c0 c1 c2 c3 c4 c5
  obtain ⟨c0, c1, c2, c3, c4, c5⟩ := HF.out _ HB2.out
  dsimp only at c0 c1 c2 c3 c4 c5
  have HBW2 := Lib.hid (HB0.out.trans (HB2.out.mono HB0.out.size))
  go_wp2_with fail
  have HYW0 : Hid (Is ((w2.alloc (.cells #[.int .i64 25, .string ⟨#[]⟩, .int .i64 0, .string ⟨#[]⟩, .slice none 0 0, .slice xla v.l.length xlc] 25)).alloc (.cells #[.int .i64 41, .string ⟨#[]⟩, .int .i64 0, .string ⟨#[]⟩, .slice none 0 0, .slice (some ⟨w2.heap.size, 0, none⟩) 1 1] 25)) (prgV [blkV v.l]) ⟨41, ⟨#[]⟩, 0, ⟨#[]⟩, none, 0, 0, some ⟨w2.heap.size, 0, none⟩, 1, 1⟩) := by
    refine blk_is (hp_alloc (hp_new (w := w2) rfl)) HLC.out (RowB.to HRW.out ?_ ?_) rfl
    · exact HBW2.out.trans (((below_alloc w2 _).alloc (by simp) _).mono HBW2.out.size)
    · have := HBW2.out.size
      simp
      omega
  obtain ⟨W3, hW3⟩ : ∃ W3, (w2.alloc (.cells #[.int .i64 25, .string ⟨#[]⟩, .int .i64 0, .string ⟨#[]⟩, .slice none 0 0, .slice xla v.l.length xlc] 25)).alloc (.cells #[.int .i64 41, .string ⟨#[]⟩, .int .i64 0, .string ⟨#[]⟩, .slice none 0 0, .slice (some ⟨w2.heap.size, 0, none⟩) 1 1] 25) = W3 := ⟨_, rfl⟩
  have HB3 : Hid (Below W0.heap.size W0 W3) := by rw [← hW3]; exact HB2.out.trans (((below_alloc w2 _).alloc (by simp) _).mono HB2.out.size)
  have HY3 : Hid (At W3 (w2.heap.size + 1) 0 ⟨41, ⟨#[]⟩, 0, ⟨#[]⟩, none, 0, 0, some ⟨w2.heap.size, 0, none⟩, 1, 1⟩) := by rw [← hW3]; exact at_row (hp_new (by simp)) rfl rfl rfl rfl rfl rfl
  have HZ3 : Hid (w2.heap.size + 1 < W3.heap.size) := by rw [← hW3]; show _ < _; simp
  rw [hW3] at HYW0 ⊢
  have HBW3 := Lib.hid (HB0.out.trans (HB3.out.mono HB0.out.size))
  clear hW3 c0 c1 c2 c3 c4 c5 HB2 HBW2
  generalize w2.heap.size + 1 = B1 at *
  generalize w2.heap.size = B0 at *
  refine (HTB.out _ _ HYW0.out HBW3.out).mono ?_
  rintro e W5 ⟨rfl, hb5⟩
  have HB5 := Lib.hid (HB3.out.trans (hb5.mono HB3.out.size))
  have HBW := Lib.hid (HB0.out.trans (HB5.out.mono HB0.out.size))
  have HYW : Hid (∀ w', Below W5.heap.size W5 w' → Is w' (prgV [blkV v.l]) ⟨41, ⟨#[]⟩, 0, ⟨#[]⟩, none, 0, 0, some ⟨B0, 0, none⟩, 1, 1⟩) := fun w' hb => Is.below (hb5.trans (hb.mono hb5.size)) _ _ HYW0.out
  have HCS : Hid (∀ w', Below W5.heap.size W5 w' → w'.cell? ⟨w.heap.size, 0, none⟩ = some (.int .i64 v.k) ∧ w'.cell? ⟨w.heap.size, 0 + 1, none⟩ = some (.string v.nm) ∧ w'.cell? ⟨w.heap.size, 0 + 2, none⟩ = some (.int .i64 v.n) ∧ w'.cell? ⟨w.heap.size, 0 + 3, none⟩ = some (.string v.s) ∧ w'.cell? ⟨w.heap.size, 0 + 4, none⟩ = some (.slice xka v.ks.length xkc) ∧ w'.cell? ⟨w.heap.size, 0 + 5, none⟩ = some (.slice xla v.l.length xlc) ∧ w'.cell? ⟨B1, 0, none⟩ = some (.int .i64 41) ∧ w'.cell? ⟨B1, 0 + 1, none⟩ = some (.string ⟨#[]⟩) ∧ w'.cell? ⟨B1, 0 + 2, none⟩ = some (.int .i64 0) ∧ w'.cell? ⟨B1, 0 + 3, none⟩ = some (.string ⟨#[]⟩) ∧ w'.cell? ⟨B1, 0 + 4, none⟩ = some (.slice none 0 0) ∧ w'.cell? ⟨B1, 0 + 5, none⟩ = some (.slice (some ⟨B0, 0, none⟩) 1 1)) := fun w' hb => by
    obtain ⟨i0, i1, i2, i3, i4, i5⟩ := HF.out w' (HB5.out.trans (hb.mono HB5.out.size))
    obtain ⟨m0, m1, m2, m3, m4, m5⟩ := HY3.out.below HZ3.out (hb5.trans (hb.mono hb5.size))
    exact ⟨i0, i1, i2, i3, i4, i5, m0, m1, m2, m3, m4, m5⟩
  obtain ⟨i0, i1, i2, i3, i4, i5, m0, m1, m2, m3, m4, m5⟩ := HCS.out W5 (Below.refl _ _)
  have HSB2 := Lib.hid fun w' => HSB.out ⟨41, ⟨#[]⟩, 0, ⟨#[]⟩, none, 0, 0, some ⟨B0, 0, none⟩, 1, 1⟩ w'
  have HDB2 := Lib.hid fun w' => HDB.out ⟨41, ⟨#[]⟩, 0, ⟨#[]⟩, none, 0, 0, some ⟨B0, 0, none⟩, 1, 1⟩ w'
  dsimp only at HSB2 HDB2
  clear hb5 HB3 HBW3 HTA HTB HLV HF HY3 HRW HLC HSB HDB
  by_cases hea : v.te = 0
  · have HSZ1 := HSZ.out hea
    by_cases heb : (prgV [blkV v.l]).te = 0
    · have hg := HGR.out hea heb
      rw [hea, heb]
      clear hea heb HGR HSZ
      generalize (prgV [blkV v.l]).tx = tb at *
      generalize v.tx = tx at *
      by_cases hn : tx = ⟨#[]⟩
      · rw [if_pos hn] at hg
        subst hn
        obtain ⟨s1, hs1⟩ : ∃ s1 : ByteArray, s1 = ⟨#[]⟩ := ⟨_, rfl⟩
        have hsz1 : s1.size ≤ 5000 := by rw [hs1]; exact Nat.zero_le _
        rw [← hs1] at hg
        subst hg
        go_wp2_with fail
        rw [← hs1]
        clear hs1 HSZ1
        have hq1 : ∀ w' : World, (Op.stringOp .add ⟨#[123, 32]⟩ s1).run Tryz.prog w' = .ok (.string (⟨#[123, 32]⟩ ++ s1)) w' := fun w' => run_string_add_sum w' _ _ (by show 2 + s1.size ≤ _; omega)
        have hq2 : ∀ w' : World, (Op.stringOp .add (⟨#[123, 32]⟩ ++ s1) ⟨#[125]⟩).run Tryz.prog w' = .ok (.string (⟨#[123, 32]⟩ ++ s1 ++ ⟨#[125]⟩)) w' := fun w' => run_string_add_sum w' _ _ (by rw [ByteArray.size_append]; show 2 + s1.size + 1 ≤ _; omega)
        go_region_held3 (fun w' => w'.cell? ⟨w.heap.size, 0, none⟩ = some (.int .i64 v.k) ∧ w'.cell? ⟨w.heap.size, 0 + 1, none⟩ = some (.string v.nm) ∧ w'.cell? ⟨w.heap.size, 0 + 2, none⟩ = some (.int .i64 v.n) ∧ w'.cell? ⟨w.heap.size, 0 + 3, none⟩ = some (.string v.s) ∧ w'.cell? ⟨w.heap.size, 0 + 4, none⟩ = some (.slice xka v.ks.length xkc) ∧ w'.cell? ⟨w.heap.size, 0 + 5, none⟩ = some (.slice xla v.l.length xlc) ∧ w'.cell? ⟨B1, 0, none⟩ = some (.int .i64 41) ∧ w'.cell? ⟨B1, 0 + 1, none⟩ = some (.string ⟨#[]⟩) ∧ w'.cell? ⟨B1, 0 + 2, none⟩ = some (.int .i64 0) ∧ w'.cell? ⟨B1, 0 + 3, none⟩ = some (.string ⟨#[]⟩) ∧ w'.cell? ⟨B1, 0 + 4, none⟩ = some (.slice none 0 0) ∧ w'.cell? ⟨B1, 0 + 5, none⟩ = some (.slice (some ⟨B0, 0, none⟩) 1 1)) (first | go_keep)
          ((first
        | (go_at_call 15; (first | ((with_reducible refine (HSB2.out _ ?c1).mono ?_); (case c1 => exact HYW.out _ (Below.refl _ W5).drew); rintro e w6 ⟨rfl, hb6⟩; have hB6 : Below W5.heap.size W5 w6 := (Below.refl _ W5).drew.trans hb6; obtain ⟨i0, i1, i2, i3, i4, i5, m0, m1, m2, m3, m4, m5⟩ := HCS.out _ hB6) | ((with_reducible refine (HSA.out _ ?c2).mono ?_); (case c2 => exact HBW.out.trans (hB6.mono HBW.out.size)); rintro e w7 ⟨rfl, hb7⟩; have hB7 : Below W5.heap.size W5 w7 := hB6.trans (hb7.mono hB6.size); obtain ⟨i0, i1, i2, i3, i4, i5, m0, m1, m2, m3, m4, m5⟩ := HCS.out _ hB7)))
        | (go_at_call 13; (first | ((with_reducible refine (HDB2.out _ ?c3).mono ?_); (case c3 => exact HYW.out _ hB7); rintro e w8 ⟨rfl, hb8⟩; have hB8 : Below W5.heap.size W5 w8 := hB7.trans (hb8.mono hB7.size); obtain ⟨i0, i1, i2, i3, i4, i5, m0, m1, m2, m3, m4, m5⟩ := HCS.out _ hB8) | ((with_reducible refine (HDA.out _ ?c4).mono ?_); (case c4 => exact HBW.out.trans (hB8.mono HBW.out.size)); rintro e w9 ⟨rfl, hb9⟩; have hB9 : Below W5.heap.size W5 w9 := hB8.trans (hb9.mono hB8.size); obtain ⟨i0, i1, i2, i3, i4, i5, m0, m1, m2, m3, m4, m5⟩ := HCS.out _ hB9)))))
        have HB9 := Lib.hid (HBW.out.trans (hB9.mono HBW.out.size))
        clear hb6 hb7 hb8 hb9 hB6 hB7 hB8 hB9 i0 i1 i2 i3 i4 i5 m0 m1 m2 m3 m4 m5
        go_wp2_with fail
        go_ret
        exact ⟨rfl, HB9.out⟩
      · rw [if_neg hn] at hg
        have hz : ¬ tx.size = 0 := fun h => hn (Ps.ba_nil h)
        obtain ⟨z1, z2⟩ := str_some hz
        clear hn hz
        have hsz1 : (tx ++ ⟨#[32]⟩ : ByteArray).size ≤ 5000 := by rw [ByteArray.size_append]; show tx.size + 1 ≤ 5000; omega
        subst hg
        go_wp2_with fail
        clear z1 z2 HSZ1
        generalize (tx ++ ⟨#[32]⟩ : ByteArray) = s1 at *
        have hq1 : ∀ w' : World, (Op.stringOp .add ⟨#[123, 32]⟩ s1).run Tryz.prog w' = .ok (.string (⟨#[123, 32]⟩ ++ s1)) w' := fun w' => run_string_add_sum w' _ _ (by show 2 + s1.size ≤ _; omega)
        have hq2 : ∀ w' : World, (Op.stringOp .add (⟨#[123, 32]⟩ ++ s1) ⟨#[125]⟩).run Tryz.prog w' = .ok (.string (⟨#[123, 32]⟩ ++ s1 ++ ⟨#[125]⟩)) w' := fun w' => run_string_add_sum w' _ _ (by rw [ByteArray.size_append]; show 2 + s1.size + 1 ≤ _; omega)
        go_region_held3 (fun w' => w'.cell? ⟨w.heap.size, 0, none⟩ = some (.int .i64 v.k) ∧ w'.cell? ⟨w.heap.size, 0 + 1, none⟩ = some (.string v.nm) ∧ w'.cell? ⟨w.heap.size, 0 + 2, none⟩ = some (.int .i64 v.n) ∧ w'.cell? ⟨w.heap.size, 0 + 3, none⟩ = some (.string v.s) ∧ w'.cell? ⟨w.heap.size, 0 + 4, none⟩ = some (.slice xka v.ks.length xkc) ∧ w'.cell? ⟨w.heap.size, 0 + 5, none⟩ = some (.slice xla v.l.length xlc) ∧ w'.cell? ⟨B1, 0, none⟩ = some (.int .i64 41) ∧ w'.cell? ⟨B1, 0 + 1, none⟩ = some (.string ⟨#[]⟩) ∧ w'.cell? ⟨B1, 0 + 2, none⟩ = some (.int .i64 0) ∧ w'.cell? ⟨B1, 0 + 3, none⟩ = some (.string ⟨#[]⟩) ∧ w'.cell? ⟨B1, 0 + 4, none⟩ = some (.slice none 0 0) ∧ w'.cell? ⟨B1, 0 + 5, none⟩ = some (.slice (some ⟨B0, 0, none⟩) 1 1)) (first | go_keep)
          ((first
        | (go_at_call 15; (first | ((with_reducible refine (HSB2.out _ ?c1).mono ?_); (case c1 => exact HYW.out _ (Below.refl _ W5).drew); rintro e w6 ⟨rfl, hb6⟩; have hB6 : Below W5.heap.size W5 w6 := (Below.refl _ W5).drew.trans hb6; obtain ⟨i0, i1, i2, i3, i4, i5, m0, m1, m2, m3, m4, m5⟩ := HCS.out _ hB6) | ((with_reducible refine (HSA.out _ ?c2).mono ?_); (case c2 => exact HBW.out.trans (hB6.mono HBW.out.size)); rintro e w7 ⟨rfl, hb7⟩; have hB7 : Below W5.heap.size W5 w7 := hB6.trans (hb7.mono hB6.size); obtain ⟨i0, i1, i2, i3, i4, i5, m0, m1, m2, m3, m4, m5⟩ := HCS.out _ hB7)))
        | (go_at_call 13; (first | ((with_reducible refine (HDB2.out _ ?c3).mono ?_); (case c3 => exact HYW.out _ hB7); rintro e w8 ⟨rfl, hb8⟩; have hB8 : Below W5.heap.size W5 w8 := hB7.trans (hb8.mono hB7.size); obtain ⟨i0, i1, i2, i3, i4, i5, m0, m1, m2, m3, m4, m5⟩ := HCS.out _ hB8) | ((with_reducible refine (HDA.out _ ?c4).mono ?_); (case c4 => exact HBW.out.trans (hB8.mono HBW.out.size)); rintro e w9 ⟨rfl, hb9⟩; have hB9 : Below W5.heap.size W5 w9 := hB8.trans (hb9.mono hB8.size); obtain ⟨i0, i1, i2, i3, i4, i5, m0, m1, m2, m3, m4, m5⟩ := HCS.out _ hB9)))))
        have HB9 := Lib.hid (HBW.out.trans (hB9.mono HBW.out.size))
        clear hb6 hb7 hb8 hb9 hB6 hB7 hB8 hB9 i0 i1 i2 i3 i4 i5 m0 m1 m2 m3 m4 m5
        go_wp2_with fail
        go_ret
        exact ⟨rfl, HB9.out⟩
    · have hne : ((prgV [blkV v.l]).te == 0) = false := by rw [beq_eq_false_iff_ne]; exact heb
      rw [hea]
      clear HGR HSZ hea
      generalize (prgV [blkV v.l]).te = eb at *
      go_wp2_with fail
      go_ret
      exact ⟨rfl, HBW.out⟩
  · have hne : (v.te == 0) = false := by rw [beq_eq_false_iff_ne]; exact hea
    clear HGR HSZ
    generalize v.te = ea at *
    go_wp2_with fail
    go_ret
    exact ⟨rfl, HBW.out⟩
end Go.Proofs.YtllpgoaanbiodaaGreatDoor.R
