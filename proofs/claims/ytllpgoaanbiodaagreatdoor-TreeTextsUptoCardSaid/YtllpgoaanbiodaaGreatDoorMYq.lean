/-

-/
import Derived.Test.YtllpgoaanbiodaaGreatDoorMYp0
set_option maxHeartbeats 8000000
set_option maxRecDepth 20000
namespace Go.Proofs.YtllpgoaanbiodaaGreatDoor.R
open Go.RowKit Go.Proofs.YtllpgoaanbiodaaGreatDoor Go.Proofs.YtllpgoaanbiodaaGreatDoor.T
open Lib (hid)
theorem rst7_29 (v a b c d : V) (hf : Fine v) (hk : v.k = 29) (hl : v.l = [a, b, c, d]) (H0M : TellM a) (H1M : TellM b) (H2M : TellM c) (H3S : TellS d) (x : X) (w : World) (hx : Is w v x) : Gives 49 #[x.v] w v.o.st := by
 have HLEN := slP hf
 have HT : Hid ([⟨#[102, 111, 114]⟩, ⟨#[40]⟩] ++ (a.o.part true ++ ([⟨#[59]⟩] ++ (b.o.part false ++ ([⟨#[59]⟩] ++ (c.o.part false ++ ([⟨#[41]⟩] ++ d.o.st)))))) = v.o.st) := by
  show _ = _
  rw [o_st v, hk, hl]
  show _ = _
  all_goals first | rfl | (simp [stN]; done) | simp [stN, headT]
 obtain ⟨xka, xkc, xla, xlc, rfl, -, -, -, hrow⟩ := hx.open
 obtain ⟨W0, hW0, HB0, HF⟩ := boxP w v xka xkc xla xlc
 have HW0 := hid hW0
 obtain ⟨g, o, y0, rfl, hg, hy0⟩ := kid_at hrow 0 (by rw [hl]; simp)
 obtain ⟨g', o', y1, e, -, hy1⟩ := kid_at hrow 1 (by rw [hl]; simp)
 injection e with e
 injection e with e1 e2
 subst e1 e2
 obtain ⟨g', o', y2, e, -, hy2⟩ := kid_at hrow 2 (by rw [hl]; simp)
 injection e with e
 injection e with e1 e2
 subst e1 e2
 obtain ⟨g', o', y3, e, -, hy3⟩ := kid_at hrow 3 (by rw [hl]; simp)
 injection e with e
 injection e with e1 e2
 subst e1 e2
 have e0 : v.l[0]'(by rw [hl]; simp) = a := by simp [hl]
 have HY0 : Hid (∀ w', Below w.heap.size w w' → At w' g (o) y0) := fun w' hb => (hy0 w' hb).1
 have HI0 := kidI hy0 e0
 have e1 : v.l[1]'(by rw [hl]; simp) = b := by simp [hl]
 have HY1 : Hid (∀ w', Below w.heap.size w w' → At w' g (o + 6) y1) := fun w' hb => (hy1 w' hb).1
 have HI1 := kidI hy1 e1
 have e2 : v.l[2]'(by rw [hl]; simp) = c := by simp [hl]
 have HY2 : Hid (∀ w', Below w.heap.size w w' → At w' g (o + 12) y2) := fun w' hb => (hy2 w' hb).1
 have HI2 := kidI hy2 e2
 have e3 : v.l[3]'(by rw [hl]; simp) = d := by simp [hl]
 have HY3 : Hid (∀ w', Below w.heap.size w w' → At w' g (o + 18) y3) := fun w' hb => (hy3 w' hb).1
 have HI3 := kidI hy3 e3
 have hlen : v.l.length = 4 := by rw [hl]; rfl
 have HM0 : Hid (∀ no w', Below w.heap.size w w' → Gives 98 #[y0.v, .bool no] w' (a.o.part no)) := fun no w' hb => H0M no y0 w' (HI0.out w' hb)
 have HM1 : Hid (∀ no w', Below w.heap.size w w' → Gives 98 #[y1.v, .bool no] w' (b.o.part no)) := fun no w' hb => H1M no y1 w' (HI1.out w' hb)
 have HM2 : Hid (∀ no w', Below w.heap.size w w' → Gives 98 #[y2.v, .bool no] w' (c.o.part no)) := fun no w' hb => H2M no y2 w' (HI2.out w' hb)
 have HS3 := hid fun w' (hb : Below w.heap.size w w') => H3S y3 w' (HI3.out w' hb)
 simp only [X.v] at HM0 HM1 HM2 HS3 ⊢
 rw [hk, hlen] at HF HW0 ⊢
 clear hx hf hW0 hrow hk hl hg hlen e0 hy0 e1 hy1 e2 hy2 e3 hy3 H0M H1M H2M H3S
 clear HI0 HI1 HI2 HI3
 obtain ⟨yk0, ynm0, yn0, ys0, yka0, ykn0, ykc0, yla0, yln0, ylc0⟩ := y0
 obtain ⟨yk1, ynm1, yn1, ys1, yka1, ykn1, ykc1, yla1, yln1, ylc1⟩ := y1
 obtain ⟨yk2, ynm2, yn2, ys2, yka2, ykn2, ykc2, yla2, yln2, ylc2⟩ := y2
 obtain ⟨yk3, ynm3, yn3, ys3, yka3, ykn3, ykc3, yla3, yln3, ylc3⟩ := y3
 generalize v.o.st = T, v.nm = nm, v.n = n, v.s = s, v.ks.length = kn at *
 obtain ⟨i0, i1, i2, i3, i4, i5⟩ := (HF.out W0 (Below.refl _ _)).six
 go_enter Tryz.func49, Tryz.ntmps49
 go_upto_region 1 with (fail)
 rw [HW0.out]
 clear HW0
 go_wp2_with fail
 have hS := psP W0
 go_region_held3 (fun w' => (w'.cell? ⟨g, o, none⟩ = some (.int .i64 yk0) ∧ w'.cell? ⟨g, o + 1, none⟩ = some (.string ynm0) ∧ w'.cell? ⟨g, o + 2, none⟩ = some (.int .i64 yn0) ∧ w'.cell? ⟨g, o + 3, none⟩ = some (.string ys0) ∧ w'.cell? ⟨g, o + 4, none⟩ = some (.slice yka0 ykn0 ykc0) ∧ w'.cell? ⟨g, o + 5, none⟩ = some (.slice yla0 yln0 ylc0)) ∧ (w'.cell? ⟨g, o + 6, none⟩ = some (.int .i64 yk1) ∧ w'.cell? ⟨g, o + 6 + 1, none⟩ = some (.string ynm1) ∧ w'.cell? ⟨g, o + 6 + 2, none⟩ = some (.int .i64 yn1) ∧ w'.cell? ⟨g, o + 6 + 3, none⟩ = some (.string ys1) ∧ w'.cell? ⟨g, o + 6 + 4, none⟩ = some (.slice yka1 ykn1 ykc1) ∧ w'.cell? ⟨g, o + 6 + 5, none⟩ = some (.slice yla1 yln1 ylc1)) ∧ (w'.cell? ⟨g, o + 12, none⟩ = some (.int .i64 yk2) ∧ w'.cell? ⟨g, o + 12 + 1, none⟩ = some (.string ynm2) ∧ w'.cell? ⟨g, o + 12 + 2, none⟩ = some (.int .i64 yn2) ∧ w'.cell? ⟨g, o + 12 + 3, none⟩ = some (.string ys2) ∧ w'.cell? ⟨g, o + 12 + 4, none⟩ = some (.slice yka2 ykn2 ykc2) ∧ w'.cell? ⟨g, o + 12 + 5, none⟩ = some (.slice yla2 yln2 ylc2)) ∧ (w'.cell? ⟨g, o + 18, none⟩ = some (.int .i64 yk3) ∧ w'.cell? ⟨g, o + 18 + 1, none⟩ = some (.string ynm3) ∧ w'.cell? ⟨g, o + 18 + 2, none⟩ = some (.int .i64 yn3) ∧ w'.cell? ⟨g, o + 18 + 3, none⟩ = some (.string ys3) ∧ w'.cell? ⟨g, o + 18 + 4, none⟩ = some (.slice yka3 ykn3 ykc3) ∧ w'.cell? ⟨g, o + 18 + 5, none⟩ = some (.slice yla3 yln3 ylc3))) (with_reducible exact (fun (hB : Below W0.heap.size W0 _) => ⟨(HY0.out _ (HB0.out.trans (hB.mono HB0.out.size))).six, (HY1.out _ (HB0.out.trans (hB.mono HB0.out.size))).six, (HY2.out _ (HB0.out.trans (hB.mono HB0.out.size))).six, (HY3.out _ (HB0.out.trans (hB.mono HB0.out.size))).six⟩) (by with_reducible first | exact hS.b | exact hS.bal _ | exact hS.bald _ | exact hS.bal2 _ _ | exact hS.bald2 _ _))
  ((first
   | (go_at_call 94; (with_reducible refine (one_any _ _).mono ?_); rintro e w2 ⟨v2, rfl, ho, hb⟩; obtain ⟨A2, c2, rfl, -, -⟩ := ho.rd; (first | (with_reducible replace hS := hS.call hb ho) | (with_reducible replace hS := hS.lit2.call hb ho) | (with_reducible replace hS := hS.lit2d.call hb ho)); clear ho hb)
   | (go_at_call 98; (first | (with_reducible refine (HM0.out _ _ ?cz).mono ?_) | (with_reducible refine (HM1.out _ _ ?cz).mono ?_) | (with_reducible refine (HM2.out _ _ ?cz).mono ?_)); (case cz => first | (with_reducible exact HB0.out.trans (hS.b.mono HB0.out.size)) | (with_reducible exact HB0.out.trans (hS.lit2.b.mono HB0.out.size)) | (with_reducible exact HB0.out.trans (hS.lit2d.b.mono HB0.out.size))); rintro e w2 ⟨v2, rfl, ho, hb⟩; obtain ⟨A2, c2, rfl, -, -⟩ := ho.rd; (first | (with_reducible replace hS := hS.call hb ho) | (with_reducible replace hS := hS.lit2.call hb ho) | (with_reducible replace hS := hS.lit2d.call hb ho)); clear ho hb)
   | (go_at_call 49; (with_reducible refine (HS3.out _ ?cz).mono ?_); (case cz => first | (with_reducible exact HB0.out.trans (hS.b.mono HB0.out.size)) | (with_reducible exact HB0.out.trans (hS.lit2.b.mono HB0.out.size)) | (with_reducible exact HB0.out.trans (hS.lit2d.b.mono HB0.out.size))); rintro e w2 ⟨v2, rfl, ho, hb⟩; obtain ⟨A2, c2, rfl, -, -⟩ := ho.rd; (first | (with_reducible replace hS := hS.call hb ho) | (with_reducible replace hS := hS.lit2.call hb ho) | (with_reducible replace hS := hS.lit2d.call hb ho)); clear ho hb)
   | (go_at_call 48; (first | (with_reducible (refine (join_8 hS ?c1 ?c2 ?c3 ?c4 ?c5 ?c6 ?c7 ?c8 HT.out HLEN.out ?cg).mono ?_)) | (with_reducible refine (join_8 hS.lit2 ?c1 ?c2 ?c3 ?c4 ?c5 ?c6 ?c7 ?c8 HT.out HLEN.out ?cg).mono ?_)); (case cg => first | rfl | simp); (case c1 => repeat (first | exact .head _ | refine .tail _ ?_)); (case c2 => repeat (first | exact .head _ | refine .tail _ ?_)); (case c3 => repeat (first | exact .head _ | refine .tail _ ?_)); (case c4 => repeat (first | exact .head _ | refine .tail _ ?_)); (case c5 => repeat (first | exact .head _ | refine .tail _ ?_)); (case c6 => repeat (first | exact .head _ | refine .tail _ ?_)); (case c7 => repeat (first | exact .head _ | refine .tail _ ?_)); (case c8 => repeat (first | exact .head _ | refine .tail _ ?_)); rintro e w2 ⟨v2, rfl, ho, hb⟩; obtain ⟨A2, c2, rfl, -, -⟩ := ho.rd; replace hS := PS.start _ _ hb)))
 clear hS
 all_goals
  have HO := hid (ho.mono HB0.out.size)
  have HB := hid (HB0.out.trans (hb.mono HB0.out.size))
  clear ho hb i0 i1 i2 i3 i4 i5
  go_wp2_with fail
  go_ret
  exact ⟨_, rfl, HO.out, HB.out⟩
theorem rrs_38 (v a : V) (hf : Fine v) (hk : v.k = 38) (hl : v.l = [a]) (H0S : TellS a) (x : X) (w : World) (hx : Is w v x) : Gives 101 #[x.v] w v.o.st := by
 have HLEN := slP hf
 have HT : Hid ([v.nm, ⟨#[58]⟩] ++ a.o.st = v.o.st) := by
  show _ = _
  rw [o_st v, hk, hl]
  show _ = _
  all_goals first | rfl | (simp [stN]; done) | simp [stN, headT]
 obtain ⟨xka, xkc, xla, xlc, rfl, -, -, -, hrow⟩ := hx.open
 obtain ⟨W0, hW0, HB0, HF⟩ := boxP w v xka xkc xla xlc
 have HW0 := hid hW0
 obtain ⟨g, o, y0, rfl, hg, hy0⟩ := kid_at hrow 0 (by rw [hl]; simp)
 have e0 : v.l[0]'(by rw [hl]; simp) = a := by simp [hl]
 have HY0 : Hid (∀ w', Below w.heap.size w w' → At w' g (o) y0) := fun w' hb => (hy0 w' hb).1
 have HI0 := kidI hy0 e0
 have hlen : v.l.length = 1 := by rw [hl]; rfl
 have HS0 := hid fun w' (hb : Below w.heap.size w w') => H0S y0 w' (HI0.out w' hb)
 simp only [X.v] at HS0 ⊢
 rw [hk, hlen] at HF HW0 ⊢
 clear hx hf hW0 hrow hk hl hg hlen e0 hy0 H0S
 clear HI0
 obtain ⟨yk0, ynm0, yn0, ys0, yka0, ykn0, ykc0, yla0, yln0, ylc0⟩ := y0
 generalize v.o.st = T, v.nm = nm, v.n = n, v.s = s, v.ks.length = kn at *
 obtain ⟨i0, i1, i2, i3, i4, i5⟩ := (HF.out W0 (Below.refl _ _)).six
 go_enter Tryz.func101, Tryz.ntmps101
 go_upto_region 1 with (fail)
 rw [HW0.out]
 clear HW0
 go_wp2_with fail
 have hS := psP W0
 go_region_held3 (fun w' => (w'.cell? ⟨w.heap.size, 0, none⟩ = some (.int .i64 38) ∧ w'.cell? ⟨w.heap.size, 0 + 1, none⟩ = some (.string nm) ∧ w'.cell? ⟨w.heap.size, 0 + 2, none⟩ = some (.int .i64 n) ∧ w'.cell? ⟨w.heap.size, 0 + 3, none⟩ = some (.string s) ∧ w'.cell? ⟨w.heap.size, 0 + 4, none⟩ = some (.slice xka kn xkc) ∧ w'.cell? ⟨w.heap.size, 0 + 5, none⟩ = some (.slice (some ⟨g, o, none⟩) 1 xlc)) ∧ (w'.cell? ⟨g, o, none⟩ = some (.int .i64 yk0) ∧ w'.cell? ⟨g, o + 1, none⟩ = some (.string ynm0) ∧ w'.cell? ⟨g, o + 2, none⟩ = some (.int .i64 yn0) ∧ w'.cell? ⟨g, o + 3, none⟩ = some (.string ys0) ∧ w'.cell? ⟨g, o + 4, none⟩ = some (.slice yka0 ykn0 ykc0) ∧ w'.cell? ⟨g, o + 5, none⟩ = some (.slice yla0 yln0 ylc0))) (with_reducible exact (fun (hB : Below W0.heap.size W0 _) => ⟨(HF.out _ hB).six, (HY0.out _ (HB0.out.trans (hB.mono HB0.out.size))).six⟩) (by with_reducible first | exact hS.b | exact hS.bal _ | exact hS.bald _ | exact hS.bal2 _ _ | exact hS.bald2 _ _))
  ((first
   | (go_at_call 49; (with_reducible refine (HS0.out _ ?cz).mono ?_); (case cz => first | (with_reducible exact HB0.out.trans (hS.b.mono HB0.out.size)) | (with_reducible exact HB0.out.trans (hS.lit2.b.mono HB0.out.size)) | (with_reducible exact HB0.out.trans (hS.lit2d.b.mono HB0.out.size))); rintro e w2 ⟨v2, rfl, ho, hb⟩; obtain ⟨A2, c2, rfl, -, -⟩ := ho.rd; (first | (with_reducible replace hS := hS.call hb ho) | (with_reducible replace hS := hS.lit2.call hb ho) | (with_reducible replace hS := hS.lit2d.call hb ho)); clear ho hb)
   | (go_at_call 48; (first | (with_reducible (refine (join_2 hS ?c1 ?c2 HT.out HLEN.out ?cg).mono ?_)) | (with_reducible refine (join_2 hS.lit2 ?c1 ?c2 HT.out HLEN.out ?cg).mono ?_)); (case cg => first | rfl | simp); (case c1 => repeat (first | exact .head _ | refine .tail _ ?_)); (case c2 => repeat (first | exact .head _ | refine .tail _ ?_)); rintro e w2 ⟨v2, rfl, ho, hb⟩; obtain ⟨A2, c2, rfl, -, -⟩ := ho.rd; replace hS := PS.start _ _ hb)))
 clear hS
 all_goals
  have HO := hid (ho.mono HB0.out.size)
  have HB := hid (HB0.out.trans (hb.mono HB0.out.size))
  clear ho hb i0 i1 i2 i3 i4 i5
  go_wp2_with fail
  go_ret
  exact ⟨_, rfl, HO.out, HB.out⟩
end Go.Proofs.YtllpgoaanbiodaaGreatDoor.R
