/-

-/
import Derived.Test.YtllpgoaanbiodaaGreatDoorMYp0
set_option maxHeartbeats 8000000
set_option maxRecDepth 20000
namespace Go.Proofs.YtllpgoaanbiodaaGreatDoor.R
open Go.RowKit Go.Proofs.YtllpgoaanbiodaaGreatDoor Go.Proofs.YtllpgoaanbiodaaGreatDoor.T
open Lib (hid)
theorem rst7_30v (v a b c : V) (hf : Fine v) (hk : v.k = 30) (hl : v.l = [a, b, c]) (H0M : TellM a) (H1A : TellA b) (H2S : TellS c) (ha : a.k = 22) (hp : a.o.part true = a.o.part false) (x : X) (w : World) (hx : Is w v x) : Gives 49 #[x.v] w v.o.st := by
 have HLEN := slP hf
 have HT : Hid ([⟨#[102, 111, 114]⟩, ⟨#[40]⟩] ++ (a.o.part true ++ ([⟨#[105, 110]⟩] ++ (b.o.at 0 false ++ ([⟨#[41]⟩] ++ c.o.st)))) = v.o.st) := by
  show _ = _
  rw [o_st v, hk, hl]
  show _ = _
  rw [hp]
  all_goals first | rfl | (simp [stN]; done) | simp [stN, headT]
 obtain ⟨xka, xkc, xla, xlc, rfl, -, -, -, hrow⟩ := hx.open
 obtain ⟨W0, hW0, HB0, HF⟩ := boxP w v xka xkc xla xlc
 have HW0 := hid hW0
 obtain ⟨g, o, y0, rfl, hg, hy0⟩ := kid_at hrow 0 (by rw [hl]; simp)
 obtain ⟨g', o', y1, e, -, hy1⟩ := kid_at hrow 1 (by rw [hl]; simp)
 injection e with e
 injection e with e1 e2
 subst e1 e2
 obtain ⟨g', o', y2, e, -, hy2⟩ := kid_at hrow 2 (by rw [hl]; simp)
 injection e with e
 injection e with e1 e2
 subst e1 e2
 have e0 : v.l[0]'(by rw [hl]; simp) = a := by simp [hl]
 have HY0 : Hid (∀ w', Below w.heap.size w w' → At w' g (o) y0) := fun w' hb => (hy0 w' hb).1
 have HI0 := kidI hy0 e0
 have e1 : v.l[1]'(by rw [hl]; simp) = b := by simp [hl]
 have HY1 : Hid (∀ w', Below w.heap.size w w' → At w' g (o + 6) y1) := fun w' hb => (hy1 w' hb).1
 have HI1 := kidI hy1 e1
 have e2 : v.l[2]'(by rw [hl]; simp) = c := by simp [hl]
 have HY2 : Hid (∀ w', Below w.heap.size w w' → At w' g (o + 12) y2) := fun w' hb => (hy2 w' hb).1
 have HI2 := kidI hy2 e2
 have hlen : v.l.length = 3 := by rw [hl]; rfl
 have HM0 : Hid (∀ no w', Below w.heap.size w w' → Gives 98 #[y0.v, .bool no] w' (a.o.part no)) := fun no w' hb => H0M no y0 w' (HI0.out w' hb)
 have HA1 := hid fun m i no w' h1 h2 (hb : Below w.heap.size w w') => H1A m i no y1 w' h1 h2 (HI1.out w' hb)
 have HS2 := hid fun w' (hb : Below w.heap.size w w') => H2S y2 w' (HI2.out w' hb)
 simp only [X.v] at HM0 HA1 HS2 ⊢
 rw [hk, hlen] at HF HW0 ⊢
 clear hx hf hW0 hrow hk hl hg hlen e0 hy0 e1 hy1 e2 hy2 H0M H1A H2S
 have hyk : y0.k = 22 := by rw [((isB_iff _ _ _ _).1 (HI0.out w (Below.refl _ _))).1.1]; exact ha
 clear ha hp
 clear HI0 HI1 HI2
 obtain ⟨yk0, ynm0, yn0, ys0, yka0, ykn0, ykc0, yla0, yln0, ylc0⟩ := y0
 obtain ⟨yk1, ynm1, yn1, ys1, yka1, ykn1, ykc1, yla1, yln1, ylc1⟩ := y1
 obtain ⟨yk2, ynm2, yn2, ys2, yka2, ykn2, ykc2, yla2, yln2, ylc2⟩ := y2
 dsimp only at hyk
 subst hyk
 generalize v.o.st = T, v.nm = nm, v.n = n, v.s = s, v.ks.length = kn at *
 obtain ⟨c00, c01, c02, c03, c04, c05⟩ := (HY0.out W0 HB0.out).six
 obtain ⟨i0, i1, i2, i3, i4, i5⟩ := (HF.out W0 (Below.refl _ _)).six
 go_enter Tryz.func49, Tryz.ntmps49
 go_upto_region 1 with (fail)
 rw [HW0.out]
 clear HW0
 go_wp2_with fail
 refine (HM0.out _ _ HB0.out).mono ?_
 rintro e w2 ⟨v2, rfl, ho, hb⟩
 obtain ⟨A2, c2, rfl, -, -⟩ := ho.rd
 have HSP := hid ((PS.start W0 _ hb).add ho)
 clear ho hb i0 i1 i2 i3 i4 i5 c00 c01 c02 c03 c04 c05
 obtain ⟨i0, i1, i2, i3, i4, i5⟩ := (HF.out _ HSP.out.b).six
 obtain ⟨c00, c01, c02, c03, c04, c05⟩ := (HY0.out _ (HB0.out.trans (HSP.out.b.mono HB0.out.size))).six
 go_wp2_with fail
 have hS := HSP.out.drew
 go_region_held3 (fun w' => (w'.cell? ⟨g, o + 6, none⟩ = some (.int .i64 yk1) ∧ w'.cell? ⟨g, o + 6 + 1, none⟩ = some (.string ynm1) ∧ w'.cell? ⟨g, o + 6 + 2, none⟩ = some (.int .i64 yn1) ∧ w'.cell? ⟨g, o + 6 + 3, none⟩ = some (.string ys1) ∧ w'.cell? ⟨g, o + 6 + 4, none⟩ = some (.slice yka1 ykn1 ykc1) ∧ w'.cell? ⟨g, o + 6 + 5, none⟩ = some (.slice yla1 yln1 ylc1)) ∧ (w'.cell? ⟨g, o + 12, none⟩ = some (.int .i64 yk2) ∧ w'.cell? ⟨g, o + 12 + 1, none⟩ = some (.string ynm2) ∧ w'.cell? ⟨g, o + 12 + 2, none⟩ = some (.int .i64 yn2) ∧ w'.cell? ⟨g, o + 12 + 3, none⟩ = some (.string ys2) ∧ w'.cell? ⟨g, o + 12 + 4, none⟩ = some (.slice yka2 ykn2 ykc2) ∧ w'.cell? ⟨g, o + 12 + 5, none⟩ = some (.slice yla2 yln2 ylc2))) (with_reducible exact (fun (hB : Below W0.heap.size W0 _) => ⟨(HY1.out _ (HB0.out.trans (hB.mono HB0.out.size))).six, (HY2.out _ (HB0.out.trans (hB.mono HB0.out.size))).six⟩) (by with_reducible first | exact hS.b | exact hS.bal _ | exact hS.bald _ | exact hS.bal2 _ _ | exact hS.bald2 _ _))
  ((first
   | (go_at_call 94; (with_reducible refine (one_any _ _).mono ?_); rintro e w2 ⟨v2, rfl, ho, hb⟩; obtain ⟨A2, c2, rfl, -, -⟩ := ho.rd; (first | (with_reducible replace hS := hS.call hb ho) | (with_reducible replace hS := hS.lit2.call hb ho) | (with_reducible replace hS := hS.lit2d.call hb ho)); clear ho hb)
   | (go_at_call 99; (with_reducible refine (HA1.out 0 0 false _ (by decide) (by decide) ?cz).mono ?_); (case cz => first | (with_reducible exact HB0.out.trans (hS.b.mono HB0.out.size)) | (with_reducible exact HB0.out.trans (hS.lit2.b.mono HB0.out.size)) | (with_reducible exact HB0.out.trans (hS.lit2d.b.mono HB0.out.size))); rintro e w2 ⟨v2, rfl, ho, hb⟩; obtain ⟨A2, c2, rfl, -, -⟩ := ho.rd; (first | (with_reducible replace hS := hS.call hb ho) | (with_reducible replace hS := hS.lit2.call hb ho) | (with_reducible replace hS := hS.lit2d.call hb ho)); clear ho hb)
   | (go_at_call 49; (with_reducible refine (HS2.out _ ?cz).mono ?_); (case cz => first | (with_reducible exact HB0.out.trans (hS.b.mono HB0.out.size)) | (with_reducible exact HB0.out.trans (hS.lit2.b.mono HB0.out.size)) | (with_reducible exact HB0.out.trans (hS.lit2d.b.mono HB0.out.size))); rintro e w2 ⟨v2, rfl, ho, hb⟩; obtain ⟨A2, c2, rfl, -, -⟩ := ho.rd; (first | (with_reducible replace hS := hS.call hb ho) | (with_reducible replace hS := hS.lit2.call hb ho) | (with_reducible replace hS := hS.lit2d.call hb ho)); clear ho hb)
   | (go_at_call 48; (first | (with_reducible (refine (join_6 hS ?c1 ?c2 ?c3 ?c4 ?c5 ?c6 HT.out HLEN.out ?cg).mono ?_)) | (with_reducible refine (join_6 hS.lit2 ?c1 ?c2 ?c3 ?c4 ?c5 ?c6 HT.out HLEN.out ?cg).mono ?_)); (case cg => first | rfl | simp); (case c1 => repeat (first | exact .head _ | refine .tail _ ?_)); (case c2 => repeat (first | exact .head _ | refine .tail _ ?_)); (case c3 => repeat (first | exact .head _ | refine .tail _ ?_)); (case c4 => repeat (first | exact .head _ | refine .tail _ ?_)); (case c5 => repeat (first | exact .head _ | refine .tail _ ?_)); (case c6 => repeat (first | exact .head _ | refine .tail _ ?_)); rintro e w2 ⟨v2, rfl, ho, hb⟩; obtain ⟨A2, c2, rfl, -, -⟩ := ho.rd; replace hS := PS.start _ _ hb)))
 clear hS
 all_goals
  have HO := hid (ho.mono HB0.out.size)
  have HB := hid (HB0.out.trans (hb.mono HB0.out.size))
  clear ho hb i0 i1 i2 i3 i4 i5 c00 c01 c02 c03 c04 c05
  go_wp2_with fail
  go_ret
  exact ⟨_, rfl, HO.out, HB.out⟩
theorem rst7_30t (v a b c : V) (hf : Fine v) (hk : v.k = 30) (hl : v.l = [a, b, c]) (H0M : TellM a) (H0A : TellA a) (H1A : TellA b) (H2S : TellS c) (ha : ¬ a.k = 22) (hp : a.o.at 11 true = a.o.part false) (x : X) (w : World) (hx : Is w v x) : Gives 49 #[x.v] w v.o.st := by
 have HLEN := slP hf
 have HT : Hid ([⟨#[102, 111, 114]⟩, ⟨#[40]⟩] ++ (a.o.at 11 true ++ ([⟨#[105, 110]⟩] ++ (b.o.at 0 false ++ ([⟨#[41]⟩] ++ c.o.st)))) = v.o.st) := by
  show _ = _
  rw [o_st v, hk, hl]
  show _ = _
  rw [hp]
  all_goals first | rfl | (simp [stN]; done) | simp [stN, headT]
 obtain ⟨xka, xkc, xla, xlc, rfl, -, -, -, hrow⟩ := hx.open
 obtain ⟨W0, hW0, HB0, HF⟩ := boxP w v xka xkc xla xlc
 have HW0 := hid hW0
 obtain ⟨g, o, y0, rfl, hg, hy0⟩ := kid_at hrow 0 (by rw [hl]; simp)
 obtain ⟨g', o', y1, e, -, hy1⟩ := kid_at hrow 1 (by rw [hl]; simp)
 injection e with e
 injection e with e1 e2
 subst e1 e2
 obtain ⟨g', o', y2, e, -, hy2⟩ := kid_at hrow 2 (by rw [hl]; simp)
 injection e with e
 injection e with e1 e2
 subst e1 e2
 have e0 : v.l[0]'(by rw [hl]; simp) = a := by simp [hl]
 have HY0 : Hid (∀ w', Below w.heap.size w w' → At w' g (o) y0) := fun w' hb => (hy0 w' hb).1
 have HI0 := kidI hy0 e0
 have e1 : v.l[1]'(by rw [hl]; simp) = b := by simp [hl]
 have HY1 : Hid (∀ w', Below w.heap.size w w' → At w' g (o + 6) y1) := fun w' hb => (hy1 w' hb).1
 have HI1 := kidI hy1 e1
 have e2 : v.l[2]'(by rw [hl]; simp) = c := by simp [hl]
 have HY2 : Hid (∀ w', Below w.heap.size w w' → At w' g (o + 12) y2) := fun w' hb => (hy2 w' hb).1
 have HI2 := kidI hy2 e2
 have hlen : v.l.length = 3 := by rw [hl]; rfl
 have HM0 : Hid (∀ no w', Below w.heap.size w w' → Gives 98 #[y0.v, .bool no] w' (a.o.part no)) := fun no w' hb => H0M no y0 w' (HI0.out w' hb)
 have HA0 := hid fun m i no w' h1 h2 (hb : Below w.heap.size w w') => H0A m i no y0 w' h1 h2 (HI0.out w' hb)
 have HA1 := hid fun m i no w' h1 h2 (hb : Below w.heap.size w w') => H1A m i no y1 w' h1 h2 (HI1.out w' hb)
 have HS2 := hid fun w' (hb : Below w.heap.size w w') => H2S y2 w' (HI2.out w' hb)
 simp only [X.v] at HM0 HA0 HA1 HS2 ⊢
 rw [hk, hlen] at HF HW0 ⊢
 clear hx hf hW0 hrow hk hl hg hlen e0 hy0 e1 hy1 e2 hy2 H0A H0M H1A H2S
 have hyk : ¬ y0.k = 22 := by rw [((isB_iff _ _ _ _).1 (HI0.out w (Below.refl _ _))).1.1]; exact ha
 have hyq : (y0.k == 22) = false := by rw [beq_eq_false_iff_ne]; exact hyk
 have hyq2 : (y0.k != 22) = true := bne_iff_ne.2 hyk
 clear ha hp hyk
 clear HI0 HI1 HI2
 obtain ⟨yk0, ynm0, yn0, ys0, yka0, ykn0, ykc0, yla0, yln0, ylc0⟩ := y0
 obtain ⟨yk1, ynm1, yn1, ys1, yka1, ykn1, ykc1, yla1, yln1, ylc1⟩ := y1
 obtain ⟨yk2, ynm2, yn2, ys2, yka2, ykn2, ykc2, yla2, yln2, ylc2⟩ := y2
 dsimp only at hyq hyq2
 generalize v.o.st = T, v.nm = nm, v.n = n, v.s = s, v.ks.length = kn at *
 obtain ⟨c00, c01, c02, c03, c04, c05⟩ := (HY0.out W0 HB0.out).six
 obtain ⟨i0, i1, i2, i3, i4, i5⟩ := (HF.out W0 (Below.refl _ _)).six
 go_enter Tryz.func49, Tryz.ntmps49
 go_upto_region 1 with (fail)
 rw [HW0.out]
 clear HW0
 go_wp2_with fail
 refine (HM0.out _ _ HB0.out).mono ?_
 rintro e w2 ⟨v2, rfl, ho, hb⟩
 obtain ⟨A2, c2, rfl, -, -⟩ := ho.rd
 have HSP := hid ((PS.start W0 _ hb).add ho)
 clear ho hb i0 i1 i2 i3 i4 i5 c00 c01 c02 c03 c04 c05
 obtain ⟨i0, i1, i2, i3, i4, i5⟩ := (HF.out _ HSP.out.b).six
 obtain ⟨c00, c01, c02, c03, c04, c05⟩ := (HY0.out _ (HB0.out.trans (HSP.out.b.mono HB0.out.size))).six
 go_wp2_with fail
 refine (HA0.out 11 11 true _ (by decide) (by decide) (HB0.out.trans (HSP.out.b.mono HB0.out.size))).mono ?_
 rintro e w3 ⟨v3, rfl, ho, hb⟩
 obtain ⟨A3, c3, rfl, -, -⟩ := ho.rd
 have HSQ := hid (HSP.out.call hb ho)
 clear ho hb HSP i0 i1 i2 i3 i4 i5 c00 c01 c02 c03 c04 c05
 obtain ⟨i0, i1, i2, i3, i4, i5⟩ := (HF.out _ HSQ.out.b).six
 go_wp2_with fail
 have hS := HSQ.out.drew
 go_region_held3 (fun w' => (w'.cell? ⟨g, o + 6, none⟩ = some (.int .i64 yk1) ∧ w'.cell? ⟨g, o + 6 + 1, none⟩ = some (.string ynm1) ∧ w'.cell? ⟨g, o + 6 + 2, none⟩ = some (.int .i64 yn1) ∧ w'.cell? ⟨g, o + 6 + 3, none⟩ = some (.string ys1) ∧ w'.cell? ⟨g, o + 6 + 4, none⟩ = some (.slice yka1 ykn1 ykc1) ∧ w'.cell? ⟨g, o + 6 + 5, none⟩ = some (.slice yla1 yln1 ylc1)) ∧ (w'.cell? ⟨g, o + 12, none⟩ = some (.int .i64 yk2) ∧ w'.cell? ⟨g, o + 12 + 1, none⟩ = some (.string ynm2) ∧ w'.cell? ⟨g, o + 12 + 2, none⟩ = some (.int .i64 yn2) ∧ w'.cell? ⟨g, o + 12 + 3, none⟩ = some (.string ys2) ∧ w'.cell? ⟨g, o + 12 + 4, none⟩ = some (.slice yka2 ykn2 ykc2) ∧ w'.cell? ⟨g, o + 12 + 5, none⟩ = some (.slice yla2 yln2 ylc2))) (with_reducible exact (fun (hB : Below W0.heap.size W0 _) => ⟨(HY1.out _ (HB0.out.trans (hB.mono HB0.out.size))).six, (HY2.out _ (HB0.out.trans (hB.mono HB0.out.size))).six⟩) (by with_reducible first | exact hS.b | exact hS.bal _ | exact hS.bald _ | exact hS.bal2 _ _ | exact hS.bald2 _ _))
  ((first
   | (go_at_call 94; (with_reducible refine (one_any _ _).mono ?_); rintro e w2 ⟨v2, rfl, ho, hb⟩; obtain ⟨A2, c2, rfl, -, -⟩ := ho.rd; (first | (with_reducible replace hS := hS.call hb ho) | (with_reducible replace hS := hS.lit2.call hb ho) | (with_reducible replace hS := hS.lit2d.call hb ho)); clear ho hb)
   | (go_at_call 99; (with_reducible refine (HA1.out 0 0 false _ (by decide) (by decide) ?cz).mono ?_); (case cz => first | (with_reducible exact HB0.out.trans (hS.b.mono HB0.out.size)) | (with_reducible exact HB0.out.trans (hS.lit2.b.mono HB0.out.size)) | (with_reducible exact HB0.out.trans (hS.lit2d.b.mono HB0.out.size))); rintro e w2 ⟨v2, rfl, ho, hb⟩; obtain ⟨A2, c2, rfl, -, -⟩ := ho.rd; (first | (with_reducible replace hS := hS.call hb ho) | (with_reducible replace hS := hS.lit2.call hb ho) | (with_reducible replace hS := hS.lit2d.call hb ho)); clear ho hb)
   | (go_at_call 49; (with_reducible refine (HS2.out _ ?cz).mono ?_); (case cz => first | (with_reducible exact HB0.out.trans (hS.b.mono HB0.out.size)) | (with_reducible exact HB0.out.trans (hS.lit2.b.mono HB0.out.size)) | (with_reducible exact HB0.out.trans (hS.lit2d.b.mono HB0.out.size))); rintro e w2 ⟨v2, rfl, ho, hb⟩; obtain ⟨A2, c2, rfl, -, -⟩ := ho.rd; (first | (with_reducible replace hS := hS.call hb ho) | (with_reducible replace hS := hS.lit2.call hb ho) | (with_reducible replace hS := hS.lit2d.call hb ho)); clear ho hb)
   | (go_at_call 48; (first | (with_reducible (refine (join_6 hS ?c1 ?c2 ?c3 ?c4 ?c5 ?c6 HT.out HLEN.out ?cg).mono ?_)) | (with_reducible refine (join_6 hS.lit2 ?c1 ?c2 ?c3 ?c4 ?c5 ?c6 HT.out HLEN.out ?cg).mono ?_)); (case cg => first | rfl | simp); (case c1 => repeat (first | exact .head _ | refine .tail _ ?_)); (case c2 => repeat (first | exact .head _ | refine .tail _ ?_)); (case c3 => repeat (first | exact .head _ | refine .tail _ ?_)); (case c4 => repeat (first | exact .head _ | refine .tail _ ?_)); (case c5 => repeat (first | exact .head _ | refine .tail _ ?_)); (case c6 => repeat (first | exact .head _ | refine .tail _ ?_)); rintro e w2 ⟨v2, rfl, ho, hb⟩; obtain ⟨A2, c2, rfl, -, -⟩ := ho.rd; replace hS := PS.start _ _ hb)))
 clear hS
 all_goals
  have HO := hid (ho.mono HB0.out.size)
  have HB := hid (HB0.out.trans (hb.mono HB0.out.size))
  clear ho hb i0 i1 i2 i3 i4 i5
  go_wp2_with fail
  go_ret
  exact ⟨_, rfl, HO.out, HB.out⟩
theorem case_st {u z : V} {rr : List V} (hk : u.k = 37) (hl : u.l = z :: rr) : (z.k = 42 → u.o.st = [⟨#[100, 101, 102, 97, 117, 108, 116]⟩] ++ ([⟨#[58]⟩] ++ stmts (rr.map V.o))) ∧ (¬ z.k = 42 → u.o.st = ([⟨#[99, 97, 115, 101]⟩] ++ z.o.at 0 false) ++ ([⟨#[58]⟩] ++ stmts (rr.map V.o))) := by
 have e : u.o.st = (if z.o.k = 42 then [⟨#[100, 101, 102, 97, 117, 108, 116]⟩, ⟨#[58]⟩] else brack ⟨#[99, 97, 115, 101]⟩ ⟨#[58]⟩ (z.o.at 0 false)) ++ stmts (rr.map V.o) := by
  rw [o_st u, hk, hl]
  rfl
 rw [e, o_k]
 refine ⟨fun h => ?_, fun h => ?_⟩
 ·rw [if_pos h]
  rfl
 ·rw [if_neg h]
  simp
theorem run_strs2 {w : World} {b : Nat} {ty : TypeId} {v p : Value} {T U : Ts} (hown : OwnS w b v T) (hp : Rd w p U) (hb : b ≤ w.heap.size) (hl : T.length + U.length ≤ 8796093020000) :
  ∃ v' w', (Builtin.append_ #[22, 22] ty #[v, p]).run Tryz.prog w = .ok v' w' ∧ OwnS w' b v' (T ++ U) ∧ Below b w w' ∧ ∀ k, k < w.heap.size → some k ≠ v.ownBlock → w'.heap[k]? = w.heap[k]? := by
 obtain ⟨i0, hi0, hz0, hz1, hz2⟩ := info_parts infoStr
 obtain ⟨A, c, rfl, hc, hs⟩ := hp
 rcases A with _ | ad
 ·obtain rfl : U = [] := by
   rcases hs with h | ⟨g, o, e, _⟩
   ·exact h
   ·cases e
  obtain ⟨A', c', rfl, hc', _⟩ := hown.rd
  refine ⟨_, w, run_zero_none' 22 ty 9 i0 Tryz.underlying22 hi0 A' T.length c' c hc', ?_, Below.refl _ _, fun _ _ _ => rfl⟩
  rw [List.append_nil]
  exact hown
 ·have hnews : ∀ j u, (vals U)[j]? = some u → w.cell? (ad.add j) = some u := by
   rcases hs with rfl | ⟨g, o, e, _, h⟩
   ·intro j u h; simp at h
   ·injection e with e
    subst e
    intro j u hj
    obtain ⟨hj', e⟩ := List.getElem?_eq_some_iff.1 hj
    have hj2 : j < U.length := by simpa [vals] using hj'
    rw [add_lit, h j hj2, ← e]
    simp [vals]
  obtain ⟨v', w', hr, q2, q3, q4, q5⟩ := run_append_own_at (P := Tryz.prog) w b 22 ty 9 i0 _ 1 16 Tryz.underlying22 hi0 hz0 hz1 hz2 rfl (by decide) v T.length (vals T) hown ad U.length c (vals U) (by simp [vals]) hnews
   (by intro u hu; simp only [vals, List.mem_map] at hu; obtain ⟨s, _, rfl⟩ := hu; rfl) (by unfold maxLen; omega) (by omega) hb
  refine ⟨v', w', hr, ?_, (Below.refl b w).grown q3 hb (fun k hk => (hown.lt k hk).1), fun k hk hne => q3.block k hk hne⟩
  show w'.ownsRow b 9 1 v' (T ++ U).length (vals (T ++ U))
  rw [List.length_append, show vals (T ++ U) = vals T ++ vals U from List.map_append]
  exact q2
theorem app_strs2 {w : World} {ops : Array Oper} {rest : List Oper} {o : Oper} {a : Act} {Q : Exit → Act → World → Prop} (hgd : o.guard = none) (sl x : Operand)
  (ho : o.op = .call { callee := .builtin .append, args := #[sl, x], argTypes := #[22, 22] })
  (b : Nat) (v p : Value) (T U : Ts) (hs : a.eval sl = v) (hx : a.eval x = p) (hown : OwnS w b v T) (hp : Rd w p U) (hb : b ≤ w.heap.size) (hl : T.length + U.length ≤ 8796093020000)
  (h : ∀ v' w', OwnS w' b v' (T ++ U) → Below b w w' → (∀ k, k < w.heap.size → some k ≠ v.ownBlock → w'.heap[k]? = w.heap[k]?) → wpList Tryz.prog ops Q rest (a.put o.dst v') w') : wpList Tryz.prog ops Q (o :: rest) a w := by
 refine wpList_plain hgd fun K hK => ?_
 obtain ⟨v', w', hr, h1, h2, h3⟩ := run_strs2 (ty := o.type) hown hp hb hl
 unfold Oper.wp execOp
 simp only [ho, resolve, invoke, builtin, Sem.run_bind, Sem.run_pure, Result.andThen_ok, List.map_toArray, List.map_cons, List.map_nil, hs, hx, hr]
 exact hK _ _ (h v' w' h1 h2 h3)
def TellC (u : V) : Prop := ∃ z rr, u.l = z :: rr ∧ (z.k = 42 ∨ (¬ z.k = 42 ∧ TellA z)) ∧ ∀ s ∈ rr, TellS s
theorem rrs_36 (v a : V) (r : List V) (hf : Fine v) (hk : v.k = 36) (hl : v.l = a :: r) (hr37 : ∀ u ∈ r, u.k = 37) (HA0 : TellA a) (H : ∀ u ∈ r, TellC u) (x : X) (w : World) (hx : Is w v x) : Gives 101 #[x.v] w v.o.st := by
 have HLEN := slP hf
 have hvl := st_len hf
 obtain ⟨TH, hTH⟩ : ∃ T, headT ⟨#[115, 119, 105, 116, 99, 104]⟩ a.o ++ [⟨#[123]⟩] = T := ⟨_, rfl⟩
 have HT : Hid ((TH ++ stmts (r.map V.o)) ++ [⟨#[125]⟩] = v.o.st) := by
  show _ = _
  rw [o_st v, hk, hl, ← hTH]
  simp [stN, block]
 have HTH := hid hTH
 have hsum : TH.length + (stmts (r.map V.o)).length ≤ 8796093000000 := by
  rw [← HT.out, List.length_append, List.length_append] at hvl
  omega
 have HPR : Hid (∀ j, (TH ++ stmts ((r.map V.o).take j)).length ≤ 8796093000000) := fun j => by
  have := stmtsO_take (r.map V.o) j
  rw [List.length_append]
  omega
 have HL1 : Hid (TH.length ≤ 8796093020000) := hid (by omega)
 have hlb := hf.len.1
 have HFK : Hid (∀ u ∈ r, u.k = 37 ∧ TellC u ∧ Fine u) := fun u hu => ⟨hr37 u hu, H u hu, hf.kid (by rw [hl]; simp [hu])⟩
 have HFA := hf.kid (u := a) (by rw [hl]; simp)
 obtain ⟨xka, xkc, xla, xlc, rfl, -, hlc, -, hrow⟩ := hx.open
 obtain ⟨W0, hW0, HB0, HF⟩ := boxP w v xka xkc xla xlc
 have HW0 := hid hW0
 have hpos : 0 < v.l.length := by rw [hl]; simp
 have hpi : (0 : Int) < (v.l.length : Int) := by omega
 have hp1 : (1 : Int) ≤ (v.l.length : Int) := by omega
 have hsl := fun w' => run_tail xla v.l.length xlc hpos w'
 have htl : v.l.tail = r := by rw [hl]; rfl
 have hlr : v.l.length - 1 = r.length := by rw [hl]; simp
 have HRT := hid fun w' (hb' : Below w.heap.size w w') => (show Row w' (tailA xla xlc) r by have h := row_tail (RowB.below hrow hb') hlc; rwa [htl] at h)
 have hrl : (r.length : Int) ≤ 4194304 := by omega
 have hrln : r.length ≤ 4194304 := by omega
 obtain ⟨g, o, y0, hxla, hg, hy0⟩ := kid_at hrow 0 hpos
 have e0 : v.l[0]'hpos = a := by simp [hl]
 have HY0 : Hid (∀ w', Below w.heap.size w w' → At w' g (o) y0) := fun w' hb => (hy0 w' hb).1
 have HH : Hid (∀ s w', Below w.heap.size w w' → Gives 97 #[.string s, y0.v] w' (headT s a.o)) := fun s w' hb => head_of' a HFA s HA0 y0 w' (by have := (hy0 w' hb).2; rwa [e0] at this)
 rw [hlr] at hsl
 generalize tailA xla xlc = tA at *
 subst hxla
 simp only [X.v] at HH ⊢
 rw [hk] at HF HW0 ⊢
 clear hx hf hW0 hk hrow hlc hl hg htl hTH e0 hy0 HA0 H HFA hr37 hvl hsum hlb hpos
 obtain ⟨yk0, ynm0, yn0, ys0, yka0, ykn0, ykc0, yla0, yln0, ylc0⟩ := y0
 generalize v.o.st = T, v.l.length = ln, v.nm = nm, v.n = n, v.s = s, v.ks.length = kn at *
 obtain ⟨i0, i1, i2, i3, i4, i5⟩ := (HF.out W0 (Below.refl _ _)).six
 obtain ⟨c00, c01, c02, c03, c04, c05⟩ := (HY0.out W0 HB0.out).six
 go_enter Tryz.func101, Tryz.ntmps101
 go_upto_region 1 with (fail)
 rw [HW0.out]
 clear HW0
 go_wp2_with fail
 refine (HH.out _ _ HB0.out).mono ?_
 rintro e w1 ⟨v1, rfl, ho, hb⟩
 obtain ⟨A1, c1, rfl, -, -⟩ := ho.rd
 have HS1 := hid ((PS.start W0 W0 (Below.refl _ _)).call hb ho)
 clear ho hb i0 i1 i2 i3 i4 i5 c00 c01 c02 c03 c04 c05 HH
 go_wp2_with fail
 refine (one_any _ _).mono ?_
 rintro e w2 ⟨v2, rfl, ho, hb⟩
 obtain ⟨A2, c2, rfl, -, -⟩ := ho.rd
 have HS2 := hid (HS1.out.call hb ho)
 clear ho hb
 go_wp2_with fail
 refine (join_2 HS2.out (by repeat (first | exact .head _ | refine .tail _ ?_)) (by repeat (first | exact .head _ | refine .tail _ ?_)) HTH.out HL1.out rfl).mono ?_
 rintro e w3 ⟨v3, rfl, ho, hb⟩
 obtain ⟨A3, c3, rfl, -, -⟩ := ho.rd
 have HO3 := hid (ho.mono HB0.out.size)
 have HB3 := hid (HB0.out.trans (hb.mono HB0.out.size))
 have HSL := hsl
 clear ho hb HS1 HS2 HTH HL1
 go_wp2_with fail
 go_loopw [5, 7, 80] (fun u _ i wr => ∃ (j : Nat), j ≤ r.length ∧ i = .int .i64 j ∧ Hid (OwnS wr w.heap.size u (TH ++ stmts ((r.map V.o).take j))) ∧ Hid (Below w.heap.size w wr))
  (fun _ _ i _ => r.length - (intOf i).toNat)
 case atStart => exact ⟨0, Nat.zero_le _, rfl, by simpa [stmts] using HO3, HB3⟩
 case round =>
  obtain ⟨j, hj, rfl, ho, hb⟩ := hrel
  by_cases hlt : j < r.length
  ·obtain ⟨g1, o1, rfl, hg1, y, hy, hv⟩ := (HRT.out w (Below.refl _ _)).at_ hlt
   obtain ⟨c0, c1', c2', c3', c4, c5⟩ := hy.below hg1 hb.out
   have HM : Hid (r[j] ∈ r) := hid (List.getElem_mem hlt)
   obtain ⟨hu37, ⟨z, rr, hz, hzw, hss⟩, huf⟩ := HFK.out r[j] HM.out
   have hltm : j < (r.map V.o).length := by simpa using hlt
   have hsn := stmtsO_snoc (r.map V.o) j hltm
   have hgt : (r.map V.o)[j] = r[j].o := by simp
   rw [hgt] at hsn
   have hcs := case_st hu37 hz
   have hpr := HPR.out (j + 1)
   obtain ⟨fj, hfj⟩ : ∃ f, TH ++ stmts ((r.map V.o).take j) = f := ⟨_, rfl⟩
   obtain ⟨fn, hfn⟩ : ∃ f, TH ++ stmts ((r.map V.o).take (j + 1)) = f := ⟨_, rfl⟩
   have hfs : fj ++ r[j].o.st = fn := by rw [← hfn, hsn, ← List.append_assoc, hfj]
   rw [hfn] at hpr
   rw [hfj] at ho
   have HFN := hid hfn
   have HLN : Hid (fn.length ≤ 8796093020000) := hid (by omega)
   rw [← hfs, List.length_append] at hpr
   generalize r[j] = u at *
   obtain ⟨yka, ykc, yla, ylc, rfl, -, hulc, -, hyr⟩ := hv.open
   dsimp only at c0 c1' c2' c3' c4 c5
   have hupos : 0 < u.l.length := by rw [hz]; simp
   have hupi : (0 : Int) < (u.l.length : Int) := by omega
   have hup1 : (1 : Int) ≤ (u.l.length : Int) := by omega
   have hul := huf.len.1
   have hulr : u.l.length - 1 = rr.length := by rw [hz]; simp
   have hutl : u.l.tail = rr := by rw [hz]; rfl
   have hsl2 := fun w' => run_tail yla u.l.length ylc hupos w'
   have hstl : (stmts (rr.map V.o)).length ≤ 8796093000000 := by
    by_cases h42 : z.k = 42
    ·rw [hcs.1 h42] at hpr
     simp only [List.length_append] at hpr
     omega
    ·rw [hcs.2 h42] at hpr
     simp only [List.length_append] at hpr
     omega
   have HST := hid fun w' (hb' : Below w.heap.size w w') => refStmtsT_of rr (tailA yla ylc) (ylc - 1) w' (by have h := row_tail (RowB.below hyr hb') hulc; rwa [hutl] at h) hss (by omega) hstl
   rw [hulr] at hsl2
   obtain ⟨g2, o2, y2, hyla, hg2, hy2⟩ := kid_at hyr 0 hupos
   have ez : u.l[0]'hupos = z := by simp [hz]
   have HYZ : Hid (∀ w', Below w.heap.size w w' → At w' g2 o2 y2) := fun w' hb => by have := (hy2 w' hb).1; rwa [Nat.zero_mul, Nat.add_zero] at this
   have HIZ : Hid (∀ w', Below w.heap.size w w' → Is w' z y2) := fun w' hb => by have := (hy2 w' hb).2; rwa [ez] at this
   have hzk : y2.k = z.k := ((isB_iff _ _ _ _).1 (HIZ.out w (Below.refl _ _))).1.1
   generalize tailA yla ylc = tB at *
   subst hyla
   obtain ⟨Wd, hWd⟩ : ∃ W, wr.alloc (.cells #[.int .i64 u.k, .string u.nm, .int .i64 u.n, .string u.s, .slice yka u.ks.length ykc, .slice (some ⟨g2, o2, none⟩) u.l.length ylc] 25) = W := ⟨_, rfl⟩
   have HBX : Hid (∀ w', Below Wd.heap.size Wd w' → At w' wr.heap.size 0 ⟨u.k, u.nm, u.n, u.s, yka, u.ks.length, ykc, some ⟨g2, o2, none⟩, u.l.length, ylc⟩) := fun w' hb' => by
    have h0 : At Wd wr.heap.size 0 ⟨u.k, u.nm, u.n, u.s, yka, u.ks.length, ykc, some ⟨g2, o2, none⟩, u.l.length, ylc⟩ := by rw [← hWd]; exact at_row (hp_new rfl) rfl rfl rfl rfl rfl rfl
    exact h0.below (B := Wd.heap.size) (by rw [← hWd]; simp) hb'
   have HBD0 : Hid (Below wr.heap.size wr Wd) := by rw [← hWd]; exact below_alloc' _ _
   have HBD := hid (hb.out.trans (HBD0.out.mono hb.out.size))
   have HWS : Hid (Wd.heap.size = wr.heap.size + 1) := by show _ = _; rw [← hWd]; simp
   have HOD := hid (ho.out.below HBD0.out)
   have HWd := hid hWd
   obtain ⟨B, cu, rfl, hcu, -⟩ := ho.out.rd
   have HNB : Hid (∀ k, (Value.slice B fj.length cu).ownBlock = some k → k = wr.heap.size → False) := fun k h1 h2 => by have := (World.ownsRow.lt ho.out k h1).2; omega
   have HCS := hid hcs
   have HFS := hid hfs
   have HPL := hid hpr
   have HZW := hid hzw
   clear hcu hWd hv hy ho hz hzw hss huf hltm hsn hgt hcs hfj hfn hfs hulc hyr hul hulr hutl hstl hg2 hy2 ez hu37 hpr
   have hune : ¬ u.l.length = 0 := by omega
   obtain ⟨zk, znm, zn, zs, zka, zkn, zkc, zla, zln, zlc⟩ := y2
   dsimp only at hzk
   generalize u.o.st = us1 at *
   generalize stmts (rr.map V.o) = sts at *
   generalize u.l.length = uln at *
   generalize u.k = uk at *
   generalize u.nm = unm at *
   generalize u.n = un at *
   generalize u.s = us_ at *
   generalize u.ks.length = ukn at *
   go_upto_region 23 with (fail)
   rw [HWd.out]
   clear c0 c1' c2' c3' c4 c5 HWd
   obtain ⟨d0, d1, d2, d3, d4, d5⟩ := HBX.out Wd (Below.refl _ _)
   obtain ⟨e0, e1, e2, e3, e4, e5⟩ := HYZ.out Wd HBD.out
   dsimp only at d0 d1 d2 d3 d4 d5 e0 e1 e2 e3 e4 e5
   by_cases h42 : z.k = 42
   ·obtain ⟨f2, hf2⟩ : ∃ f, fj ++ [⟨#[100, 101, 102, 97, 117, 108, 116]⟩] = f := ⟨_, rfl⟩
    have HF2 := hid hf2
    have HQ : Hid (f2 ++ ([⟨#[58]⟩] ++ sts) = fn) := by
     show _ = _
     rw [← HFS.out, HCS.out.1 h42, ← hf2]
     simp
    have hl5 : fj.length + 1 ≤ 8796093020000 := by
     have h1 := HLN.out
     rw [← HQ.out, ← hf2] at h1
     simp only [List.length_append, List.length_cons, List.length_nil] at h1
     omega
    have HL5 := hid hl5
    have hz42 : zk = 42 := by rw [hzk]; exact h42
    clear HCS HFS HPL HZW h42 hzk hl5 hf2
    subst hz42
    have HBA := hid (below_alloc' Wd (.cells #[.string ⟨#[100, 101, 102, 97, 117, 108, 116]⟩] 9))
    have HO1a := hid (HOD.out.below HBA.out)
    have HRD : Hid (Rd (Wd.alloc (.cells #[.string ⟨#[100, 101, 102, 97, 117, 108, 116]⟩] 9)) (.slice (some ⟨Wd.heap.size, 0, none⟩) 1 1) [⟨#[100, 101, 102, 97, 117, 108, 116]⟩]) := hid (ownS_new Wd [⟨#[100, 101, 102, 97, 117, 108, 116]⟩] (by simp)).rd
    have HBS : Hid (w.heap.size ≤ (Wd.alloc (.cells #[.string ⟨#[100, 101, 102, 97, 117, 108, 116]⟩] 9)).heap.size) := hid (Nat.le_trans HBD.out.size HBA.out.size)
    have HBA2 := hid (HBD.out.trans (HBA.out.mono HBD.out.size))
    clear HBA
    go_wp2_with (at_builtin; refine app_strs2 rfl (.tmp 90) (.tmp 91) (by rfl) w.heap.size _ _ fj [⟨#[100, 101, 102, 97, 117, 108, 116]⟩] (by rfl) (by rfl) HO1a.out HRD.out HBS.out HL5.out ?_)
    intro vz wz h1 h2 h3
    rw [HF2.out] at h1
    have HBZ := hid (HBA2.out.trans h2)
    have HO2 := hid h1
    have hblt : wr.heap.size < Wd.heap.size := by rw [HWS.out]; omega
    have hat : At wz wr.heap.size 0 ⟨uk, unm, un, us_, yka, ukn, ykc, some ⟨g2, o2, none⟩, uln, ylc⟩ := by
     have h4 := HBX.out (Wd.alloc (.cells #[.string ⟨#[100, 101, 102, 97, 117, 108, 116]⟩] 9)) (below_alloc' _ _)
     have hbk := h3 wr.heap.size (by first | omega | (rw [World.size_alloc]; omega)) (fun e => HNB.out _ e.symm rfl)
     exact ⟨(World.cell?_of_block (a := ⟨wr.heap.size, 0, none⟩) hbk).trans h4.c0, (World.cell?_of_block (a := ⟨wr.heap.size, 0 + 1, none⟩) hbk).trans h4.c1, (World.cell?_of_block (a := ⟨wr.heap.size, 0 + 2, none⟩) hbk).trans h4.c2, (World.cell?_of_block (a := ⟨wr.heap.size, 0 + 3, none⟩) hbk).trans h4.c3, (World.cell?_of_block (a := ⟨wr.heap.size, 0 + 4, none⟩) hbk).trans h4.c4, (World.cell?_of_block (a := ⟨wr.heap.size, 0 + 5, none⟩) hbk).trans h4.c5⟩
    have hltz : wr.heap.size < wz.heap.size := by
     have := Nat.le_trans (Nat.le_of_lt (Nat.lt_of_lt_of_eq (Nat.lt_succ_self _) (World.size_alloc Wd (.cells #[.string ⟨#[100, 101, 102, 97, 117, 108, 116]⟩] 9)).symm)) h2.size
     omega
    have HBXZ : Hid (∀ w', Below wz.heap.size wz w' → At w' wr.heap.size 0 ⟨uk, unm, un, us_, yka, ukn, ykc, some ⟨g2, o2, none⟩, uln, ylc⟩) := fun w' hb' => hat.below hltz hb'
    obtain ⟨Az, cz, rfl, -, -⟩ := HO2.out.rd
    clear h1 h2 h3 HO1a HRD HBS HBA2 hat hltz hblt d0 d1 d2 d3 d4 d5 e0 e1 e2 e3 e4 e5
    obtain ⟨d0, d1, d2, d3, d4, d5⟩ := (HBXZ.out wz (Below.refl _ _)).six
    go_wp2_with fail
    have hS : PS wz [(_, f2)] wz.drew := ((PS.start wz wz (Below.refl _ _)).add HO2.out).drew
    go_region_held3 (fun w' => w'.cell? ⟨wr.heap.size, 0, none⟩ = some (.int .i64 uk) ∧ w'.cell? ⟨wr.heap.size, 0 + 1, none⟩ = some (.string unm) ∧ w'.cell? ⟨wr.heap.size, 0 + 2, none⟩ = some (.int .i64 un) ∧ w'.cell? ⟨wr.heap.size, 0 + 3, none⟩ = some (.string us_) ∧ w'.cell? ⟨wr.heap.size, 0 + 4, none⟩ = some (.slice yka ukn ykc) ∧ w'.cell? ⟨wr.heap.size, 0 + 5, none⟩ = some (.slice (some ⟨g2, o2, none⟩) uln ylc)) (with_reducible exact (fun (hB : Below wz.heap.size wz _) => (HBXZ.out _ hB).six) (by with_reducible first | exact hS.b | exact hS.bal _))
     ((first
      | (go_at_call 94; (with_reducible refine (one_any _ _).mono ?_); rintro e w2 ⟨v2, rfl, ho, hb⟩; obtain ⟨A2, c2, rfl, -, -⟩ := ho.rd; replace hS := hS.call hb ho; clear ho hb)
      | (go_at_call 34; (with_reducible refine (HST.out _ ?cz).mono ?_); (case cz => exact HBZ.out.trans (hS.b.mono HBZ.out.size)); rintro e w2 ⟨v2, rfl, ho, hb⟩; obtain ⟨A2, c2, rfl, -, -⟩ := ho.rd; replace hS := hS.call hb ho; clear ho hb)
      | (go_at_call 48; (refine (join_3 hS ?c1 ?c2 ?c3 HQ.out HLN.out ?cg).mono ?_); (case cg => first | rfl | simp); (case c1 => repeat (first | exact .head _ | refine .tail _ ?_)); (case c2 => repeat (first | exact .head _ | refine .tail _ ?_)); (case c3 => repeat (first | exact .head _ | refine .tail _ ?_)); rintro e w2 ⟨v2, rfl, ho, hb⟩; obtain ⟨A2, c2, rfl, -, -⟩ := ho.rd; replace hS := PS.start _ _ hb)))
    clear hS
    have HO9 := hid (ho.mono HBZ.out.size)
    have HB9 := hid (HBZ.out.trans (hb.mono HBZ.out.size))
    clear ho hb d0 d1 d2 d3 d4 d5
    go_wp2_with fail
    go_roundw
    case rel => exact ⟨j + 1, by omega, by go_num, by rw [HFN.out]; exact HO9, HB9⟩
    case measure => simp [intOf]; omega
   ·have hzq : (zk == 42) = false := by rw [beq_eq_false_iff_ne, hzk]; exact h42
    have hza : TellA z := by
     rcases HZW.out with h | h
     ·exact absurd h h42
     ·exact h.2
    have HA : Hid (∀ w', Below w.heap.size w w' → Gives 99 #[.agg #[.int .i64 zk, .string znm, .int .i64 zn, .string zs, .slice zka zkn zkc, .slice zla zln zlc], .int .i64 0, .bool false] w' (z.o.at 0 false)) := fun w' hb => hza 0 0 false ⟨zk, znm, zn, zs, zka, zkn, zkc, zla, zln, zlc⟩ w' rfl (by decide) (HIZ.out w' hb)
    obtain ⟨f1, hf1⟩ : ∃ f, fj ++ ([⟨#[99, 97, 115, 101]⟩] ++ z.o.at 0 false) = f := ⟨_, rfl⟩
    have HF1 := hid hf1
    have HQ : Hid (f1 ++ ([⟨#[58]⟩] ++ sts) = fn) := by
     show _ = _
     rw [← HFS.out, HCS.out.2 h42, ← hf1, List.append_assoc]
    have HL6 : Hid (f1.length ≤ 8796093020000) := hid (by
     have h1 := HLN.out
     rw [← HQ.out, List.length_append] at h1
     omega)
    generalize z.o.at 0 false = zt at *
    clear HCS HFS HPL HZW h42 hzk hza hf1 HIZ
    go_wp2_with fail
    have hS : PS Wd [(_, fj)] Wd.drew := ((PS.start Wd Wd (Below.refl _ _)).add HOD.out).drew
    go_region_held3 (fun w' => (w'.cell? ⟨wr.heap.size, 0, none⟩ = some (.int .i64 uk) ∧ w'.cell? ⟨wr.heap.size, 0 + 1, none⟩ = some (.string unm) ∧ w'.cell? ⟨wr.heap.size, 0 + 2, none⟩ = some (.int .i64 un) ∧ w'.cell? ⟨wr.heap.size, 0 + 3, none⟩ = some (.string us_) ∧ w'.cell? ⟨wr.heap.size, 0 + 4, none⟩ = some (.slice yka ukn ykc) ∧ w'.cell? ⟨wr.heap.size, 0 + 5, none⟩ = some (.slice (some ⟨g2, o2, none⟩) uln ylc)) ∧ (w'.cell? ⟨g2, o2, none⟩ = some (.int .i64 zk) ∧ w'.cell? ⟨g2, o2 + 1, none⟩ = some (.string znm) ∧ w'.cell? ⟨g2, o2 + 2, none⟩ = some (.int .i64 zn) ∧ w'.cell? ⟨g2, o2 + 3, none⟩ = some (.string zs) ∧ w'.cell? ⟨g2, o2 + 4, none⟩ = some (.slice zka zkn zkc) ∧ w'.cell? ⟨g2, o2 + 5, none⟩ = some (.slice zla zln zlc))) (with_reducible exact (fun (hB : Below Wd.heap.size Wd _) => ⟨(HBX.out _ hB).six, (HYZ.out _ (HBD.out.trans (hB.mono HBD.out.size))).six⟩) (by with_reducible first | exact hS.b | exact hS.bal _))
     ((first
      | (go_at_call 94; (with_reducible refine (one_any _ _).mono ?_); rintro e w2 ⟨v2, rfl, ho, hb⟩; obtain ⟨A2, c2, rfl, -, -⟩ := ho.rd; replace hS := hS.call hb ho; clear ho hb)
      | (go_at_call 99; (with_reducible refine (HA.out _ ?cz).mono ?_); (case cz => exact HBD.out.trans (hS.b.mono HBD.out.size)); rintro e w2 ⟨v2, rfl, ho, hb⟩; obtain ⟨A2, c2, rfl, -, -⟩ := ho.rd; replace hS := hS.call hb ho; clear ho hb)
      | (go_at_call 48; (refine (join_3 hS ?c1 ?c2 ?c3 HF1.out HL6.out ?cg).mono ?_); (case cg => first | rfl | simp); (case c1 => repeat (first | exact .head _ | refine .tail _ ?_)); (case c2 => repeat (first | exact .head _ | refine .tail _ ?_)); (case c3 => repeat (first | exact .head _ | refine .tail _ ?_)); rintro e w2 ⟨v2, rfl, ho, hb⟩; obtain ⟨A2, c2, rfl, -, -⟩ := ho.rd; replace hS := PS.start _ _ hb)))
    clear hS
    have HSP := hid ((PS.start Wd _ hb).add ho)
    clear ho hb d0 d1 d2 d3 d4 d5 e0 e1 e2 e3 e4 e5
    obtain ⟨d0, d1, d2, d3, d4, d5⟩ := (HBX.out _ HSP.out.b).six
    go_wp2_with fail
    have hS := HSP.out.drew
    go_region_held3 (fun w' => w'.cell? ⟨wr.heap.size, 0, none⟩ = some (.int .i64 uk) ∧ w'.cell? ⟨wr.heap.size, 0 + 1, none⟩ = some (.string unm) ∧ w'.cell? ⟨wr.heap.size, 0 + 2, none⟩ = some (.int .i64 un) ∧ w'.cell? ⟨wr.heap.size, 0 + 3, none⟩ = some (.string us_) ∧ w'.cell? ⟨wr.heap.size, 0 + 4, none⟩ = some (.slice yka ukn ykc) ∧ w'.cell? ⟨wr.heap.size, 0 + 5, none⟩ = some (.slice (some ⟨g2, o2, none⟩) uln ylc)) (with_reducible exact (fun (hB : Below Wd.heap.size Wd _) => (HBX.out _ hB).six) (by with_reducible first | exact hS.b | exact hS.bal _))
     ((first
      | (go_at_call 94; (with_reducible refine (one_any _ _).mono ?_); rintro e w2 ⟨v2, rfl, ho, hb⟩; obtain ⟨A2, c2, rfl, -, -⟩ := ho.rd; replace hS := hS.call hb ho; clear ho hb)
      | (go_at_call 34; (with_reducible refine (HST.out _ ?cz).mono ?_); (case cz => exact HBD.out.trans (hS.b.mono HBD.out.size)); rintro e w2 ⟨v2, rfl, ho, hb⟩; obtain ⟨A2, c2, rfl, -, -⟩ := ho.rd; replace hS := hS.call hb ho; clear ho hb)
      | (go_at_call 48; (refine (join_3 hS ?c1 ?c2 ?c3 HQ.out HLN.out ?cg).mono ?_); (case cg => first | rfl | simp); (case c1 => repeat (first | exact .head _ | refine .tail _ ?_)); (case c2 => repeat (first | exact .head _ | refine .tail _ ?_)); (case c3 => repeat (first | exact .head _ | refine .tail _ ?_)); rintro e w2 ⟨v2, rfl, ho, hb⟩; obtain ⟨A2, c2, rfl, -, -⟩ := ho.rd; replace hS := PS.start _ _ hb)))
    clear hS
    have HO9 := hid (ho.mono HBD.out.size)
    have HB9 := hid (HBD.out.trans (hb.mono HBD.out.size))
    clear ho hb d0 d1 d2 d3 d4 d5
    go_wp2_with fail
    go_roundw
    case rel => exact ⟨j + 1, by omega, by go_num, by rw [HFN.out]; exact HO9, HB9⟩
    case measure => simp [intOf]; omega
  ·obtain rfl : j = r.length := by omega
   rw [show (r.map V.o).take r.length = r.map V.o from by rw [← List.length_map (f := V.o), List.take_length]] at ho
   obtain ⟨ff, hff⟩ : ∃ f, TH ++ stmts (r.map V.o) = f := ⟨_, rfl⟩
   rw [hff] at ho HT
   have hS0 := (PS.start wr wr (Below.refl _ _)).add ho.out
   obtain ⟨B, cu, rfl, hcu, -⟩ := ho.out.rd
   clear hcu ho hff
   go_wp2_with fail
   refine (one_any _ _).mono ?_
   rintro e w4 ⟨v4, rfl, ho, hb4⟩
   obtain ⟨A4, c4, rfl, -, -⟩ := ho.rd
   have HS4 := hid (hS0.call hb4 ho)
   clear ho hb4 hS0
   go_wp2_with fail
   refine (join_2 HS4.out (by repeat (first | exact .head _ | refine .tail _ ?_)) (by repeat (first | exact .head _ | refine .tail _ ?_)) HT.out HLEN.out rfl).mono ?_
   rintro e w5 ⟨v5, rfl, ho, hb5⟩
   obtain ⟨A5, c5, rfl, -, -⟩ := ho.rd
   have HO := hid (ho.mono hb.out.size)
   have HB := hid (hb.out.trans (hb5.mono hb.out.size))
   clear ho hb5
   go_wp2_with fail
   go_ret
   exact ⟨_, rfl, HO.out, HB.out⟩
end Go.Proofs.YtllpgoaanbiodaaGreatDoor.R
