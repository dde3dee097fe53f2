/-

-/
import Derived.Test.YtllpgoaanbiodaaGreatDoorMYf
import Derived.Test.YtllpgoaanbiodaaGreatDoorMVk
set_option maxHeartbeats 8000000
set_option maxRecDepth 20000
namespace Go.Proofs.YtllpgoaanbiodaaGreatDoor.R
open Go.RowKit Go.Proofs.YtllpgoaanbiodaaGreatDoor Go.Proofs.YtllpgoaanbiodaaGreatDoor.T
open Lib (hid)
theorem boxJ (w : World) (v : V) (a : Option Addr) (b : Nat) (c : Option Addr) (d : Nat) : type_of% (box_new w v.k v.nm v.n v.s a v.ks.length b c v.l.length d) := box_new _ _ _ _ _ _ _ _ _ _ _
theorem psJ (W : World) : PS W [] W.drew := (PS.start W W (Below.refl _ _)).drew
theorem raw_11 (v a : V) (hf : Fine v) (hk : v.k = 11) (hl : v.l = [a]) (H0 : TellA a) : TellR v := by
 intro no x w hx
 have HLEN : Hid ((v.o.raw no).length ≤ 8796093020000) := hid (by have := raw_len hf no; omega)
 have HT : Hid (a.o.at 11 no ++ [⟨#[46]⟩, v.nm] = v.o.raw no) := by
  show _ = _
  rw [o_raw, hk, hl]
  all_goals first | rfl | (simp [rawN]; done) | simp [rawN, Function.comp_def]
 have hlb := hf.len.1
 obtain ⟨xka, xkc, xla, xlc, rfl, -, hlc, -, hrow⟩ := hx.open
 obtain ⟨W0, hW0, HB0, HF⟩ := boxJ w v xka xkc xla xlc
 have HW0 := hid hW0
 obtain ⟨g, o, y0, rfl, hg, hy0⟩ := kid_at hrow 0 (by rw [hl]; simp)
 have e0 : v.l[0]'(by rw [hl]; simp) = a := by simp [hl]
 have HY0 : Hid (∀ w', Below w.heap.size w w' → At w' g (o) y0) := fun w' hb => (hy0 w' hb).1
 have HI0 := kidI hy0 e0
 have hlen : v.l.length = 1 := by rw [hl]; rfl
 have HA0 := hid fun m i no w' h1 h2 (hb : Below w.heap.size w w') => H0 m i no y0 w' h1 h2 (HI0.out w' hb)
 simp only [X.v] at HA0 ⊢
 rw [hk, hlen] at HF HW0 ⊢
 clear hx hf hW0 hk hrow hlc hl hg hlen e0 hy0 HI0 H0
 obtain ⟨yk0, ynm0, yn0, ys0, yka0, ykn0, ykc0, yla0, yln0, ylc0⟩ := y0
 generalize v.o.raw no = T at *
 generalize v.nm = nm, v.n = n, v.s = s, v.ks.length = kn at *
 go_enter Tryz.func129, Tryz.ntmps129
 go_wp2_with fail
 rw [HW0.out]
 clear HW0
 have hS := psJ W0
 go_region_held3 (fun w' => (w'.cell? ⟨w.heap.size, 0, none⟩ = some (.int .i64 11) ∧ w'.cell? ⟨w.heap.size, 0 + 1, none⟩ = some (.string nm) ∧ w'.cell? ⟨w.heap.size, 0 + 2, none⟩ = some (.int .i64 n) ∧ w'.cell? ⟨w.heap.size, 0 + 3, none⟩ = some (.string s) ∧ w'.cell? ⟨w.heap.size, 0 + 4, none⟩ = some (.slice xka kn xkc) ∧ w'.cell? ⟨w.heap.size, 0 + 5, none⟩ = some (.slice (some ⟨g, o, none⟩) 1 xlc)) ∧ (w'.cell? ⟨g, o, none⟩ = some (.int .i64 yk0) ∧ w'.cell? ⟨g, o + 1, none⟩ = some (.string ynm0) ∧ w'.cell? ⟨g, o + 2, none⟩ = some (.int .i64 yn0) ∧ w'.cell? ⟨g, o + 3, none⟩ = some (.string ys0) ∧ w'.cell? ⟨g, o + 4, none⟩ = some (.slice yka0 ykn0 ykc0) ∧ w'.cell? ⟨g, o + 5, none⟩ = some (.slice yla0 yln0 ylc0))) (with_reducible exact (fun (hB : Below W0.heap.size W0 _) => ⟨(HF.out _ hB).six, (HY0.out _ (HB0.out.trans (hB.mono HB0.out.size))).six⟩) (by with_reducible first | exact hS.b | exact hS.bal _ | exact hS.bald _ | exact hS.bal2 _ _ | exact hS.bald2 _ _))
  ((first
   | (go_at_call 99; (with_reducible refine (HA0.out 11 11 no _ (by decide) (by decide) ?cz).mono ?_); (case cz => first | (with_reducible exact HB0.out.trans (hS.b.mono HB0.out.size)) | (with_reducible exact HB0.out.trans (hS.lit2.b.mono HB0.out.size)) | (with_reducible exact HB0.out.trans (hS.lit2d.b.mono HB0.out.size))); rintro e w2 ⟨v2, rfl, ho, hb⟩; obtain ⟨A2, c2, rfl, -, -⟩ := ho.rd; (first | (with_reducible replace hS := hS.call hb ho) | (with_reducible replace hS := hS.lit2.call hb ho) | (with_reducible replace hS := hS.lit2d.call hb ho)); clear ho hb)
   | (go_at_call 48; (first | (with_reducible (refine (join_2 hS ?c1 ?c2 HT.out HLEN.out ?cg).mono ?_)) | (with_reducible refine (join_2 hS.lit2 ?c1 ?c2 HT.out HLEN.out ?cg).mono ?_)); (case cg => first | rfl | simp); (case c1 => repeat (first | exact .head _ | refine .tail _ ?_)); (case c2 => repeat (first | exact .head _ | refine .tail _ ?_)); rintro e w2 ⟨v2, rfl, ho, hb⟩; obtain ⟨A2, c2, rfl, -, -⟩ := ho.rd; replace hS := PS.start _ _ hb)))
 clear hS
 all_goals
  have HO := hid (ho.mono HB0.out.size)
  have HB := hid (HB0.out.trans (hb.mono HB0.out.size))
  clear ho hb
  go_wp2_with fail
  go_ret
  exact ⟨_, rfl, HO.out, HB.out⟩
theorem raw_13 (v a : V) (r : List V) (hf : Fine v) (hk : v.k = 13) (hl : v.l = a :: r) (H0 : TellA a) (HL : ∀ u ∈ r, TellA u) : TellR v := by
 intro no x w hx
 have HLEN : Hid ((v.o.raw no).length ≤ 8796093020000) := hid (by have := raw_len hf no; omega)
 have HT : Hid (a.o.at 11 no ++ ([⟨#[40]⟩] ++ ((commas (r.map fun u => u.o.at 1 false)) ++ [⟨#[41]⟩])) = v.o.raw no) := by
  show _ = _
  rw [o_raw, hk, hl]
  all_goals first | rfl | (simp [rawN]; done) | simp [rawN, Function.comp_def]
 have hlb := hf.len.1
 obtain ⟨xka, xkc, xla, xlc, rfl, -, hlc, -, hrow⟩ := hx.open
 obtain ⟨W0, hW0, HB0, HF⟩ := boxJ w v xka xkc xla xlc
 have HW0 := hid hW0
 have hpos : 0 < v.l.length := by rw [hl]; simp
 have hpi : (0 : Int) < (v.l.length : Int) := by omega
 have hp1 : (1 : Int) ≤ (v.l.length : Int) := by omega
 have hlbi : (v.l.length : Int) ≤ 4194304 := by omega
 have hlci : (v.l.length : Int) ≤ (xlc : Int) := by omega
 have hsl := fun w' => run_tail xla v.l.length xlc hpos w'
 have htl : v.l.tail = r := by rw [hl]; rfl
 have hlr : v.l.length - 1 = r.length := by rw [hl]; simp
 have hltT : (commas (r.map fun u => u.o.at 1 false)).length ≤ 8796093000000 := by
  have h1 := raw_len hf no
  rw [← HT.out] at h1
  simp only [List.length_append] at h1
  omega
 have HLS := hid fun w' (hb' : Below w.heap.size w w') => refList_of r (tailA xla xlc) (xlc - 1) w' (by have h := row_tail (RowB.below hrow hb') hlc; rwa [htl] at h) HL (by rw [← hlr]; omega) hltT
 rw [← hlr] at HLS
 clear htl hlr hltT
 obtain ⟨g, o, y0, hxla, hg, hy0⟩ := kid_at hrow 0 hpos
 have e0 : v.l[0]'hpos = a := by simp [hl]
 have HY0 : Hid (∀ w', Below w.heap.size w w' → At w' g (o) y0) := fun w' hb => (hy0 w' hb).1
 have HI0 := kidI hy0 e0
 generalize tailA xla xlc = tA at *
 subst hxla
 have HA0 := hid fun m i no w' h1 h2 (hb : Below w.heap.size w w') => H0 m i no y0 w' h1 h2 (HI0.out w' hb)
 simp only [X.v] at HA0 ⊢
 rw [hk] at HF HW0 ⊢
 clear hx hf hW0 hk hrow hlc hl hg HL e0 hy0 HI0 H0
 obtain ⟨yk0, ynm0, yn0, ys0, yka0, ykn0, ykc0, yla0, yln0, ylc0⟩ := y0
 generalize v.o.raw no = T at *
 generalize v.l.length = ln, v.nm = nm, v.n = n, v.s = s, v.ks.length = kn at *
 have hposN : 0 < ln := hpos
 have hne : ¬ ln = 0 := by omega
 generalize (commas (r.map fun u => u.o.at 1 false)) = LT at *
 go_enter Tryz.func129, Tryz.ntmps129
 go_wp2_with fail
 rw [HW0.out]
 clear HW0
 have hS := psJ W0
 go_region_held3 (fun w' => (w'.cell? ⟨w.heap.size, 0, none⟩ = some (.int .i64 13) ∧ w'.cell? ⟨w.heap.size, 0 + 1, none⟩ = some (.string nm) ∧ w'.cell? ⟨w.heap.size, 0 + 2, none⟩ = some (.int .i64 n) ∧ w'.cell? ⟨w.heap.size, 0 + 3, none⟩ = some (.string s) ∧ w'.cell? ⟨w.heap.size, 0 + 4, none⟩ = some (.slice xka kn xkc) ∧ w'.cell? ⟨w.heap.size, 0 + 5, none⟩ = some (.slice (some ⟨g, o, none⟩) ln xlc)) ∧ (w'.cell? ⟨g, o, none⟩ = some (.int .i64 yk0) ∧ w'.cell? ⟨g, o + 1, none⟩ = some (.string ynm0) ∧ w'.cell? ⟨g, o + 2, none⟩ = some (.int .i64 yn0) ∧ w'.cell? ⟨g, o + 3, none⟩ = some (.string ys0) ∧ w'.cell? ⟨g, o + 4, none⟩ = some (.slice yka0 ykn0 ykc0) ∧ w'.cell? ⟨g, o + 5, none⟩ = some (.slice yla0 yln0 ylc0))) (with_reducible exact (fun (hB : Below W0.heap.size W0 _) => ⟨(HF.out _ hB).six, (HY0.out _ (HB0.out.trans (hB.mono HB0.out.size))).six⟩) (by with_reducible first | exact hS.b | exact hS.bal _))
  ((first
   | (go_at_call 94; (with_reducible refine (one_any _ _).mono ?_); rintro e w2 ⟨v2, rfl, ho, hb⟩; obtain ⟨A2, c2, rfl, -, -⟩ := ho.rd; replace hS := hS.call hb ho; clear ho hb)
   | (go_at_call 99; (with_reducible refine (HA0.out 11 11 no _ (by decide) (by decide) ?cz).mono ?_); (case cz => exact HB0.out.trans (hS.b.mono HB0.out.size)); rintro e w2 ⟨v2, rfl, ho, hb⟩; obtain ⟨A2, c2, rfl, -, -⟩ := ho.rd; replace hS := hS.call hb ho; clear ho hb)
   | (go_at_call 136; (with_reducible refine (HLS.out _ ?cz).mono ?_); (case cz => exact HB0.out.trans (hS.b.mono HB0.out.size)); rintro e w2 ⟨v2, rfl, ho, hb⟩; obtain ⟨A2, c2, rfl, -, -⟩ := ho.rd; replace hS := hS.call hb ho; clear ho hb)
   | (go_at_call 48; (refine (join_4 hS ?c1 ?c2 ?c3 ?c4 HT.out HLEN.out ?cg).mono ?_); (case cg => first | rfl | simp); (case c1 => repeat (first | exact .head _ | refine .tail _ ?_)); (case c2 => repeat (first | exact .head _ | refine .tail _ ?_)); (case c3 => repeat (first | exact .head _ | refine .tail _ ?_)); (case c4 => repeat (first | exact .head _ | refine .tail _ ?_)); rintro e w2 ⟨v2, rfl, ho, hb⟩; obtain ⟨A2, c2, rfl, -, -⟩ := ho.rd; replace hS := PS.start _ _ hb)))
 clear hS
 have HO := hid (ho.mono HB0.out.size)
 have HB := hid (HB0.out.trans (hb.mono HB0.out.size))
 clear ho hb
 go_wp2_with fail
 go_ret
 exact ⟨_, rfl, HO.out, HB.out⟩
theorem raw_14 (v a : V) (r : List V) (hf : Fine v) (hk : v.k = 14) (hl : v.l = a :: r) (H0 : TellA a) (HL : ∀ u ∈ r, TellA u) : TellR v := by
 intro no x w hx
 have HLEN : Hid ((v.o.raw no).length ≤ 8796093020000) := hid (by have := raw_len hf no; omega)
 have HT : Hid ([⟨#[110, 101, 119]⟩] ++ (a.o.at 12 no ++ ([⟨#[40]⟩] ++ ((commas (r.map fun u => u.o.at 1 false)) ++ [⟨#[41]⟩]))) = v.o.raw no) := by
  show _ = _
  rw [o_raw, hk, hl]
  all_goals first | rfl | (simp [rawN]; done) | simp [rawN, Function.comp_def]
 have hlb := hf.len.1
 obtain ⟨xka, xkc, xla, xlc, rfl, -, hlc, -, hrow⟩ := hx.open
 obtain ⟨W0, hW0, HB0, HF⟩ := boxJ w v xka xkc xla xlc
 have HW0 := hid hW0
 have hpos : 0 < v.l.length := by rw [hl]; simp
 have hpi : (0 : Int) < (v.l.length : Int) := by omega
 have hp1 : (1 : Int) ≤ (v.l.length : Int) := by omega
 have hlbi : (v.l.length : Int) ≤ 4194304 := by omega
 have hlci : (v.l.length : Int) ≤ (xlc : Int) := by omega
 have hsl := fun w' => run_tail xla v.l.length xlc hpos w'
 have htl : v.l.tail = r := by rw [hl]; rfl
 have hlr : v.l.length - 1 = r.length := by rw [hl]; simp
 have hltT : (commas (r.map fun u => u.o.at 1 false)).length ≤ 8796093000000 := by
  have h1 := raw_len hf no
  rw [← HT.out] at h1
  simp only [List.length_append] at h1
  omega
 have HLS := hid fun w' (hb' : Below w.heap.size w w') => refList_of r (tailA xla xlc) (xlc - 1) w' (by have h := row_tail (RowB.below hrow hb') hlc; rwa [htl] at h) HL (by rw [← hlr]; omega) hltT
 rw [← hlr] at HLS
 clear htl hlr hltT
 obtain ⟨g, o, y0, hxla, hg, hy0⟩ := kid_at hrow 0 hpos
 have e0 : v.l[0]'hpos = a := by simp [hl]
 have HY0 : Hid (∀ w', Below w.heap.size w w' → At w' g (o) y0) := fun w' hb => (hy0 w' hb).1
 have HI0 := kidI hy0 e0
 generalize tailA xla xlc = tA at *
 subst hxla
 have HA0 := hid fun m i no w' h1 h2 (hb : Below w.heap.size w w') => H0 m i no y0 w' h1 h2 (HI0.out w' hb)
 simp only [X.v] at HA0 ⊢
 rw [hk] at HF HW0 ⊢
 clear hx hf hW0 hk hrow hlc hl hg HL e0 hy0 HI0 H0
 obtain ⟨yk0, ynm0, yn0, ys0, yka0, ykn0, ykc0, yla0, yln0, ylc0⟩ := y0
 generalize v.o.raw no = T at *
 generalize v.l.length = ln, v.nm = nm, v.n = n, v.s = s, v.ks.length = kn at *
 have hposN : 0 < ln := hpos
 have hne : ¬ ln = 0 := by omega
 generalize (commas (r.map fun u => u.o.at 1 false)) = LT at *
 go_enter Tryz.func129, Tryz.ntmps129
 go_wp2_with fail
 rw [HW0.out]
 clear HW0
 have hS := psJ W0
 go_region_held3 (fun w' => (w'.cell? ⟨w.heap.size, 0, none⟩ = some (.int .i64 14) ∧ w'.cell? ⟨w.heap.size, 0 + 1, none⟩ = some (.string nm) ∧ w'.cell? ⟨w.heap.size, 0 + 2, none⟩ = some (.int .i64 n) ∧ w'.cell? ⟨w.heap.size, 0 + 3, none⟩ = some (.string s) ∧ w'.cell? ⟨w.heap.size, 0 + 4, none⟩ = some (.slice xka kn xkc) ∧ w'.cell? ⟨w.heap.size, 0 + 5, none⟩ = some (.slice (some ⟨g, o, none⟩) ln xlc)) ∧ (w'.cell? ⟨g, o, none⟩ = some (.int .i64 yk0) ∧ w'.cell? ⟨g, o + 1, none⟩ = some (.string ynm0) ∧ w'.cell? ⟨g, o + 2, none⟩ = some (.int .i64 yn0) ∧ w'.cell? ⟨g, o + 3, none⟩ = some (.string ys0) ∧ w'.cell? ⟨g, o + 4, none⟩ = some (.slice yka0 ykn0 ykc0) ∧ w'.cell? ⟨g, o + 5, none⟩ = some (.slice yla0 yln0 ylc0))) (with_reducible exact (fun (hB : Below W0.heap.size W0 _) => ⟨(HF.out _ hB).six, (HY0.out _ (HB0.out.trans (hB.mono HB0.out.size))).six⟩) (by with_reducible first | exact hS.b | exact hS.bal _))
  ((first
   | (go_at_call 94; (with_reducible refine (one_any _ _).mono ?_); rintro e w2 ⟨v2, rfl, ho, hb⟩; obtain ⟨A2, c2, rfl, -, -⟩ := ho.rd; replace hS := hS.call hb ho; clear ho hb)
   | (go_at_call 99; (with_reducible refine (HA0.out 12 12 no _ (by decide) (by decide) ?cz).mono ?_); (case cz => exact HB0.out.trans (hS.b.mono HB0.out.size)); rintro e w2 ⟨v2, rfl, ho, hb⟩; obtain ⟨A2, c2, rfl, -, -⟩ := ho.rd; replace hS := hS.call hb ho; clear ho hb)
   | (go_at_call 136; (with_reducible refine (HLS.out _ ?cz).mono ?_); (case cz => exact HB0.out.trans (hS.b.mono HB0.out.size)); rintro e w2 ⟨v2, rfl, ho, hb⟩; obtain ⟨A2, c2, rfl, -, -⟩ := ho.rd; replace hS := hS.call hb ho; clear ho hb)
   | (go_at_call 48; (refine (join_5 hS ?c1 ?c2 ?c3 ?c4 ?c5 HT.out HLEN.out ?cg).mono ?_); (case cg => first | rfl | simp); (case c1 => repeat (first | exact .head _ | refine .tail _ ?_)); (case c2 => repeat (first | exact .head _ | refine .tail _ ?_)); (case c3 => repeat (first | exact .head _ | refine .tail _ ?_)); (case c4 => repeat (first | exact .head _ | refine .tail _ ?_)); (case c5 => repeat (first | exact .head _ | refine .tail _ ?_)); rintro e w2 ⟨v2, rfl, ho, hb⟩; obtain ⟨A2, c2, rfl, -, -⟩ := ho.rd; replace hS := PS.start _ _ hb)))
 clear hS
 have HO := hid (ho.mono HB0.out.size)
 have HB := hid (HB0.out.trans (hb.mono HB0.out.size))
 clear ho hb
 go_wp2_with fail
 go_ret
 exact ⟨_, rfl, HO.out, HB.out⟩
theorem raw_19 (v a b c : V) (hf : Fine v) (hk : v.k = 19) (hl : v.l = [a, b, c]) (H0 : TellA a) (H1 : TellA b) (H2 : TellA c) : TellR v := by
 intro no x w hx
 have HLEN : Hid ((v.o.raw no).length ≤ 8796093020000) := hid (by have := raw_len hf no; omega)
 have HT : Hid (a.o.at 3 no ++ ([⟨#[63]⟩] ++ (b.o.at 1 false ++ ([⟨#[58]⟩] ++ c.o.at 1 no))) = v.o.raw no) := by
  show _ = _
  rw [o_raw, hk, hl]
  all_goals first | rfl | (simp [rawN]; done) | simp [rawN, Function.comp_def]
 have hlb := hf.len.1
 obtain ⟨xka, xkc, xla, xlc, rfl, -, hlc, -, hrow⟩ := hx.open
 obtain ⟨W0, hW0, HB0, HF⟩ := boxJ w v xka xkc xla xlc
 have HW0 := hid hW0
 obtain ⟨g, o, y0, rfl, hg, hy0⟩ := kid_at hrow 0 (by rw [hl]; simp)
 obtain ⟨g', o', y1, e, -, hy1⟩ := kid_at hrow 1 (by rw [hl]; simp)
 injection e with e
 injection e with e1 e2
 subst e1 e2
 obtain ⟨g', o', y2, e, -, hy2⟩ := kid_at hrow 2 (by rw [hl]; simp)
 injection e with e
 injection e with e1 e2
 subst e1 e2
 have e0 : v.l[0]'(by rw [hl]; simp) = a := by simp [hl]
 have HY0 : Hid (∀ w', Below w.heap.size w w' → At w' g (o) y0) := fun w' hb => (hy0 w' hb).1
 have HI0 := kidI hy0 e0
 have e1 : v.l[1]'(by rw [hl]; simp) = b := by simp [hl]
 have HY1 : Hid (∀ w', Below w.heap.size w w' → At w' g (o + 6) y1) := fun w' hb => (hy1 w' hb).1
 have HI1 := kidI hy1 e1
 have e2 : v.l[2]'(by rw [hl]; simp) = c := by simp [hl]
 have HY2 : Hid (∀ w', Below w.heap.size w w' → At w' g (o + 12) y2) := fun w' hb => (hy2 w' hb).1
 have HI2 := kidI hy2 e2
 have hlen : v.l.length = 3 := by rw [hl]; rfl
 have HA0 := hid fun m i no w' h1 h2 (hb : Below w.heap.size w w') => H0 m i no y0 w' h1 h2 (HI0.out w' hb)
 have HA1 := hid fun m i no w' h1 h2 (hb : Below w.heap.size w w') => H1 m i no y1 w' h1 h2 (HI1.out w' hb)
 have HA2 := hid fun m i no w' h1 h2 (hb : Below w.heap.size w w') => H2 m i no y2 w' h1 h2 (HI2.out w' hb)
 simp only [X.v] at HA0 HA1 HA2 ⊢
 rw [hk, hlen] at HF HW0 ⊢
 clear hx hf hW0 hk hrow hlc hl hg hlen e0 hy0 HI0 H0 e1 hy1 HI1 H1 e2 hy2 HI2 H2
 obtain ⟨yk0, ynm0, yn0, ys0, yka0, ykn0, ykc0, yla0, yln0, ylc0⟩ := y0
 obtain ⟨yk1, ynm1, yn1, ys1, yka1, ykn1, ykc1, yla1, yln1, ylc1⟩ := y1
 obtain ⟨yk2, ynm2, yn2, ys2, yka2, ykn2, ykc2, yla2, yln2, ylc2⟩ := y2
 generalize v.o.raw no = T at *
 generalize v.nm = nm, v.n = n, v.s = s, v.ks.length = kn at *
 go_enter Tryz.func129, Tryz.ntmps129
 go_wp2_with fail
 rw [HW0.out]
 clear HW0
 have hS := psJ W0
 go_region_held3 (fun w' => (w'.cell? ⟨w.heap.size, 0, none⟩ = some (.int .i64 19) ∧ w'.cell? ⟨w.heap.size, 0 + 1, none⟩ = some (.string nm) ∧ w'.cell? ⟨w.heap.size, 0 + 2, none⟩ = some (.int .i64 n) ∧ w'.cell? ⟨w.heap.size, 0 + 3, none⟩ = some (.string s) ∧ w'.cell? ⟨w.heap.size, 0 + 4, none⟩ = some (.slice xka kn xkc) ∧ w'.cell? ⟨w.heap.size, 0 + 5, none⟩ = some (.slice (some ⟨g, o, none⟩) 3 xlc)) ∧ (w'.cell? ⟨g, o, none⟩ = some (.int .i64 yk0) ∧ w'.cell? ⟨g, o + 1, none⟩ = some (.string ynm0) ∧ w'.cell? ⟨g, o + 2, none⟩ = some (.int .i64 yn0) ∧ w'.cell? ⟨g, o + 3, none⟩ = some (.string ys0) ∧ w'.cell? ⟨g, o + 4, none⟩ = some (.slice yka0 ykn0 ykc0) ∧ w'.cell? ⟨g, o + 5, none⟩ = some (.slice yla0 yln0 ylc0)) ∧ (w'.cell? ⟨g, o + 6, none⟩ = some (.int .i64 yk1) ∧ w'.cell? ⟨g, o + 6 + 1, none⟩ = some (.string ynm1) ∧ w'.cell? ⟨g, o + 6 + 2, none⟩ = some (.int .i64 yn1) ∧ w'.cell? ⟨g, o + 6 + 3, none⟩ = some (.string ys1) ∧ w'.cell? ⟨g, o + 6 + 4, none⟩ = some (.slice yka1 ykn1 ykc1) ∧ w'.cell? ⟨g, o + 6 + 5, none⟩ = some (.slice yla1 yln1 ylc1)) ∧ (w'.cell? ⟨g, o + 12, none⟩ = some (.int .i64 yk2) ∧ w'.cell? ⟨g, o + 12 + 1, none⟩ = some (.string ynm2) ∧ w'.cell? ⟨g, o + 12 + 2, none⟩ = some (.int .i64 yn2) ∧ w'.cell? ⟨g, o + 12 + 3, none⟩ = some (.string ys2) ∧ w'.cell? ⟨g, o + 12 + 4, none⟩ = some (.slice yka2 ykn2 ykc2) ∧ w'.cell? ⟨g, o + 12 + 5, none⟩ = some (.slice yla2 yln2 ylc2))) (with_reducible exact (fun (hB : Below W0.heap.size W0 _) => ⟨(HF.out _ hB).six, (HY0.out _ (HB0.out.trans (hB.mono HB0.out.size))).six, (HY1.out _ (HB0.out.trans (hB.mono HB0.out.size))).six, (HY2.out _ (HB0.out.trans (hB.mono HB0.out.size))).six⟩) (by with_reducible first | exact hS.b | exact hS.bal _))
  ((first
   | (go_at_call 94; (with_reducible refine (one_any _ _).mono ?_); rintro e w2 ⟨v2, rfl, ho, hb⟩; obtain ⟨A2, c2, rfl, -, -⟩ := ho.rd; replace hS := hS.call hb ho; clear ho hb)
   | (go_at_call 99; (first | (with_reducible refine (HA0.out 3 3 no _ (by decide) (by decide) ?cz).mono ?_) | (with_reducible refine (HA1.out 1 1 false _ (by decide) (by decide) ?cz).mono ?_) | (with_reducible refine (HA2.out 1 1 no _ (by decide) (by decide) ?cz).mono ?_)); (case cz => exact HB0.out.trans (hS.b.mono HB0.out.size)); rintro e w2 ⟨v2, rfl, ho, hb⟩; obtain ⟨A2, c2, rfl, -, -⟩ := ho.rd; replace hS := hS.call hb ho; clear ho hb)
   | (go_at_call 48; (refine (join_5 hS ?c1 ?c2 ?c3 ?c4 ?c5 HT.out HLEN.out ?cg).mono ?_); (case cg => first | rfl | simp); (case c1 => repeat (first | exact .head _ | refine .tail _ ?_)); (case c2 => repeat (first | exact .head _ | refine .tail _ ?_)); (case c3 => repeat (first | exact .head _ | refine .tail _ ?_)); (case c4 => repeat (first | exact .head _ | refine .tail _ ?_)); (case c5 => repeat (first | exact .head _ | refine .tail _ ?_)); rintro e w2 ⟨v2, rfl, ho, hb⟩; obtain ⟨A2, c2, rfl, -, -⟩ := ho.rd; replace hS := PS.start _ _ hb)))
 clear hS
 have HO := hid (ho.mono HB0.out.size)
 have HB := hid (HB0.out.trans (hb.mono HB0.out.size))
 clear ho hb
 go_wp2_with fail
 go_ret
 exact ⟨_, rfl, HO.out, HB.out⟩
theorem raw_20 (v a b : V) (hf : Fine v) (hk : v.k = 20) (hl : v.l = [a, b]) (H0 : TellA a) (H1 : TellA b) : TellR v := by
 intro no x w hx
 have HLEN : Hid ((v.o.raw no).length ≤ 8796093020000) := hid (by have := raw_len hf no; omega)
 have HT : Hid (a.o.at 11 no ++ ([v.nm] ++ b.o.at 1 no) = v.o.raw no) := by
  show _ = _
  rw [o_raw, hk, hl]
  all_goals first | rfl | (simp [rawN]; done) | simp [rawN, Function.comp_def]
 have hlb := hf.len.1
 obtain ⟨xka, xkc, xla, xlc, rfl, -, hlc, -, hrow⟩ := hx.open
 obtain ⟨W0, hW0, HB0, HF⟩ := boxJ w v xka xkc xla xlc
 have HW0 := hid hW0
 obtain ⟨g, o, y0, rfl, hg, hy0⟩ := kid_at hrow 0 (by rw [hl]; simp)
 obtain ⟨g', o', y1, e, -, hy1⟩ := kid_at hrow 1 (by rw [hl]; simp)
 injection e with e
 injection e with e1 e2
 subst e1 e2
 have e0 : v.l[0]'(by rw [hl]; simp) = a := by simp [hl]
 have HY0 : Hid (∀ w', Below w.heap.size w w' → At w' g (o) y0) := fun w' hb => (hy0 w' hb).1
 have HI0 := kidI hy0 e0
 have e1 : v.l[1]'(by rw [hl]; simp) = b := by simp [hl]
 have HY1 : Hid (∀ w', Below w.heap.size w w' → At w' g (o + 6) y1) := fun w' hb => (hy1 w' hb).1
 have HI1 := kidI hy1 e1
 have hlen : v.l.length = 2 := by rw [hl]; rfl
 have HA0 := hid fun m i no w' h1 h2 (hb : Below w.heap.size w w') => H0 m i no y0 w' h1 h2 (HI0.out w' hb)
 have HA1 := hid fun m i no w' h1 h2 (hb : Below w.heap.size w w') => H1 m i no y1 w' h1 h2 (HI1.out w' hb)
 simp only [X.v] at HA0 HA1 ⊢
 rw [hk, hlen] at HF HW0 ⊢
 clear hx hf hW0 hk hrow hlc hl hg hlen e0 hy0 HI0 H0 e1 hy1 HI1 H1
 obtain ⟨yk0, ynm0, yn0, ys0, yka0, ykn0, ykc0, yla0, yln0, ylc0⟩ := y0
 obtain ⟨yk1, ynm1, yn1, ys1, yka1, ykn1, ykc1, yla1, yln1, ylc1⟩ := y1
 generalize v.o.raw no = T at *
 generalize v.nm = nm, v.n = n, v.s = s, v.ks.length = kn at *
 go_enter Tryz.func129, Tryz.ntmps129
 go_wp2_with fail
 rw [HW0.out]
 clear HW0
 have hS := psJ W0
 go_region_held3 (fun w' => (w'.cell? ⟨w.heap.size, 0, none⟩ = some (.int .i64 20) ∧ w'.cell? ⟨w.heap.size, 0 + 1, none⟩ = some (.string nm) ∧ w'.cell? ⟨w.heap.size, 0 + 2, none⟩ = some (.int .i64 n) ∧ w'.cell? ⟨w.heap.size, 0 + 3, none⟩ = some (.string s) ∧ w'.cell? ⟨w.heap.size, 0 + 4, none⟩ = some (.slice xka kn xkc) ∧ w'.cell? ⟨w.heap.size, 0 + 5, none⟩ = some (.slice (some ⟨g, o, none⟩) 2 xlc)) ∧ (w'.cell? ⟨g, o, none⟩ = some (.int .i64 yk0) ∧ w'.cell? ⟨g, o + 1, none⟩ = some (.string ynm0) ∧ w'.cell? ⟨g, o + 2, none⟩ = some (.int .i64 yn0) ∧ w'.cell? ⟨g, o + 3, none⟩ = some (.string ys0) ∧ w'.cell? ⟨g, o + 4, none⟩ = some (.slice yka0 ykn0 ykc0) ∧ w'.cell? ⟨g, o + 5, none⟩ = some (.slice yla0 yln0 ylc0)) ∧ (w'.cell? ⟨g, o + 6, none⟩ = some (.int .i64 yk1) ∧ w'.cell? ⟨g, o + 6 + 1, none⟩ = some (.string ynm1) ∧ w'.cell? ⟨g, o + 6 + 2, none⟩ = some (.int .i64 yn1) ∧ w'.cell? ⟨g, o + 6 + 3, none⟩ = some (.string ys1) ∧ w'.cell? ⟨g, o + 6 + 4, none⟩ = some (.slice yka1 ykn1 ykc1) ∧ w'.cell? ⟨g, o + 6 + 5, none⟩ = some (.slice yla1 yln1 ylc1))) (with_reducible exact (fun (hB : Below W0.heap.size W0 _) => ⟨(HF.out _ hB).six, (HY0.out _ (HB0.out.trans (hB.mono HB0.out.size))).six, (HY1.out _ (HB0.out.trans (hB.mono HB0.out.size))).six⟩) (by with_reducible first | exact hS.b | exact hS.bal _))
  ((first
   | (go_at_call 94; (with_reducible refine (one_any _ _).mono ?_); rintro e w2 ⟨v2, rfl, ho, hb⟩; obtain ⟨A2, c2, rfl, -, -⟩ := ho.rd; replace hS := hS.call hb ho; clear ho hb)
   | (go_at_call 99; (first | (with_reducible refine (HA0.out 11 11 no _ (by decide) (by decide) ?cz).mono ?_) | (with_reducible refine (HA1.out 1 1 no _ (by decide) (by decide) ?cz).mono ?_)); (case cz => exact HB0.out.trans (hS.b.mono HB0.out.size)); rintro e w2 ⟨v2, rfl, ho, hb⟩; obtain ⟨A2, c2, rfl, -, -⟩ := ho.rd; replace hS := hS.call hb ho; clear ho hb)
   | (go_at_call 48; (refine (join_3 hS ?c1 ?c2 ?c3 HT.out HLEN.out ?cg).mono ?_); (case cg => first | rfl | simp); (case c1 => repeat (first | exact .head _ | refine .tail _ ?_)); (case c2 => repeat (first | exact .head _ | refine .tail _ ?_)); (case c3 => repeat (first | exact .head _ | refine .tail _ ?_)); rintro e w2 ⟨v2, rfl, ho, hb⟩; obtain ⟨A2, c2, rfl, -, -⟩ := ho.rd; replace hS := PS.start _ _ hb)))
 clear hS
 have HO := hid (ho.mono HB0.out.size)
 have HB := hid (HB0.out.trans (hb.mono HB0.out.size))
 clear ho hb
 go_wp2_with fail
 go_ret
 exact ⟨_, rfl, HO.out, HB.out⟩
theorem raw_21 (v a b : V) (hf : Fine v) (hk : v.k = 21) (hl : v.l = [a, b]) (H0 : TellA a) (H1 : TellA b) : TellR v := by
 intro no x w hx
 have HLEN : Hid ((v.o.raw no).length ≤ 8796093020000) := hid (by have := raw_len hf no; omega)
 have HT : Hid (a.o.at 0 no ++ ([⟨#[44]⟩] ++ b.o.at 1 no) = v.o.raw no) := by
  show _ = _
  rw [o_raw, hk, hl]
  all_goals first | rfl | (simp [rawN]; done) | simp [rawN, Function.comp_def]
 have hlb := hf.len.1
 obtain ⟨xka, xkc, xla, xlc, rfl, -, hlc, -, hrow⟩ := hx.open
 obtain ⟨W0, hW0, HB0, HF⟩ := boxJ w v xka xkc xla xlc
 have HW0 := hid hW0
 obtain ⟨g, o, y0, rfl, hg, hy0⟩ := kid_at hrow 0 (by rw [hl]; simp)
 obtain ⟨g', o', y1, e, -, hy1⟩ := kid_at hrow 1 (by rw [hl]; simp)
 injection e with e
 injection e with e1 e2
 subst e1 e2
 have e0 : v.l[0]'(by rw [hl]; simp) = a := by simp [hl]
 have HY0 : Hid (∀ w', Below w.heap.size w w' → At w' g (o) y0) := fun w' hb => (hy0 w' hb).1
 have HI0 := kidI hy0 e0
 have e1 : v.l[1]'(by rw [hl]; simp) = b := by simp [hl]
 have HY1 : Hid (∀ w', Below w.heap.size w w' → At w' g (o + 6) y1) := fun w' hb => (hy1 w' hb).1
 have HI1 := kidI hy1 e1
 have hlen : v.l.length = 2 := by rw [hl]; rfl
 have HA0 := hid fun m i no w' h1 h2 (hb : Below w.heap.size w w') => H0 m i no y0 w' h1 h2 (HI0.out w' hb)
 have HA1 := hid fun m i no w' h1 h2 (hb : Below w.heap.size w w') => H1 m i no y1 w' h1 h2 (HI1.out w' hb)
 simp only [X.v] at HA0 HA1 ⊢
 rw [hk, hlen] at HF HW0 ⊢
 clear hx hf hW0 hk hrow hlc hl hg hlen e0 hy0 HI0 H0 e1 hy1 HI1 H1
 obtain ⟨yk0, ynm0, yn0, ys0, yka0, ykn0, ykc0, yla0, yln0, ylc0⟩ := y0
 obtain ⟨yk1, ynm1, yn1, ys1, yka1, ykn1, ykc1, yla1, yln1, ylc1⟩ := y1
 generalize v.o.raw no = T at *
 generalize v.nm = nm, v.n = n, v.s = s, v.ks.length = kn at *
 go_enter Tryz.func129, Tryz.ntmps129
 go_wp2_with fail
 rw [HW0.out]
 clear HW0
 have hS := psJ W0
 go_region_held3 (fun w' => (w'.cell? ⟨w.heap.size, 0, none⟩ = some (.int .i64 21) ∧ w'.cell? ⟨w.heap.size, 0 + 1, none⟩ = some (.string nm) ∧ w'.cell? ⟨w.heap.size, 0 + 2, none⟩ = some (.int .i64 n) ∧ w'.cell? ⟨w.heap.size, 0 + 3, none⟩ = some (.string s) ∧ w'.cell? ⟨w.heap.size, 0 + 4, none⟩ = some (.slice xka kn xkc) ∧ w'.cell? ⟨w.heap.size, 0 + 5, none⟩ = some (.slice (some ⟨g, o, none⟩) 2 xlc)) ∧ (w'.cell? ⟨g, o, none⟩ = some (.int .i64 yk0) ∧ w'.cell? ⟨g, o + 1, none⟩ = some (.string ynm0) ∧ w'.cell? ⟨g, o + 2, none⟩ = some (.int .i64 yn0) ∧ w'.cell? ⟨g, o + 3, none⟩ = some (.string ys0) ∧ w'.cell? ⟨g, o + 4, none⟩ = some (.slice yka0 ykn0 ykc0) ∧ w'.cell? ⟨g, o + 5, none⟩ = some (.slice yla0 yln0 ylc0)) ∧ (w'.cell? ⟨g, o + 6, none⟩ = some (.int .i64 yk1) ∧ w'.cell? ⟨g, o + 6 + 1, none⟩ = some (.string ynm1) ∧ w'.cell? ⟨g, o + 6 + 2, none⟩ = some (.int .i64 yn1) ∧ w'.cell? ⟨g, o + 6 + 3, none⟩ = some (.string ys1) ∧ w'.cell? ⟨g, o + 6 + 4, none⟩ = some (.slice yka1 ykn1 ykc1) ∧ w'.cell? ⟨g, o + 6 + 5, none⟩ = some (.slice yla1 yln1 ylc1))) (with_reducible exact (fun (hB : Below W0.heap.size W0 _) => ⟨(HF.out _ hB).six, (HY0.out _ (HB0.out.trans (hB.mono HB0.out.size))).six, (HY1.out _ (HB0.out.trans (hB.mono HB0.out.size))).six⟩) (by with_reducible first | exact hS.b | exact hS.bal _))
  ((first
   | (go_at_call 94; (with_reducible refine (one_any _ _).mono ?_); rintro e w2 ⟨v2, rfl, ho, hb⟩; obtain ⟨A2, c2, rfl, -, -⟩ := ho.rd; replace hS := hS.call hb ho; clear ho hb)
   | (go_at_call 99; (first | (with_reducible refine (HA0.out 0 0 no _ (by decide) (by decide) ?cz).mono ?_) | (with_reducible refine (HA1.out 1 1 no _ (by decide) (by decide) ?cz).mono ?_)); (case cz => exact HB0.out.trans (hS.b.mono HB0.out.size)); rintro e w2 ⟨v2, rfl, ho, hb⟩; obtain ⟨A2, c2, rfl, -, -⟩ := ho.rd; replace hS := hS.call hb ho; clear ho hb)
   | (go_at_call 48; (refine (join_3 hS ?c1 ?c2 ?c3 HT.out HLEN.out ?cg).mono ?_); (case cg => first | rfl | simp); (case c1 => repeat (first | exact .head _ | refine .tail _ ?_)); (case c2 => repeat (first | exact .head _ | refine .tail _ ?_)); (case c3 => repeat (first | exact .head _ | refine .tail _ ?_)); rintro e w2 ⟨v2, rfl, ho, hb⟩; obtain ⟨A2, c2, rfl, -, -⟩ := ho.rd; replace hS := PS.start _ _ hb)))
 clear hS
 have HO := hid (ho.mono HB0.out.size)
 have HB := hid (HB0.out.trans (hb.mono HB0.out.size))
 clear ho hb
 go_wp2_with fail
 go_ret
 exact ⟨_, rfl, HO.out, HB.out⟩
end Go.Proofs.YtllpgoaanbiodaaGreatDoor.R
