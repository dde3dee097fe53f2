/-
  The law Reads: it answers true.
-/
import Derived.Test.YtnkknlhdbhfjlaaLa
namespace Go.Proofs.Ytnkknlhdbhfjlaa
open Go.RowKit

set_option maxRecDepth 8000 in
set_option maxHeartbeats 2000000 in
theorem lawReads (A : Option Addr) (l : Bs) (c : Nat) (w : World) (hB : O.Byt w A l) (hl : l.length ≤ 4194303) (hlc : l.length ≤ c) :
    Calls Try.prog 4 #[.slice A l.length c] w fun e w' => e = .returned (.bool true) ∧ Below w.heap.size w w' := by
  have HR1 := Lib.hid fun (w' : World) A' c' (h : O.Byt w' A' l) (h2 : l.length ≤ c') => (read_any A' l c' w' h (by omega) h2).mono fun e w'' h => postR_read h
  have HR2 := Lib.hid fun w' (hb : Below w.heap.size w w') => (refRead_any A l c w' (hB.below hb) (by omega) hlc).mono fun e w'' h => postR_read h
  have HD1 := Lib.hid fun (w' : World) A' c' (h : O.Byt w' A' l) (h2 : l.length ≤ c') => decode_any A' l c' w' h (by omega) h2
  have HD2 := Lib.hid fun w' (hb : Below w.heap.size w w') => refDecode_any A l c w' (hB.below hb) (by omega) hlc
  have HS := Lib.hid fun w' B d (hb : Below w.heap.size w w') (hY : O.Byt w' B l) => O.same_any B A l d c w' hY (hB.below hb)
  have HV1 : Hid (∀ w x y, Is w (readO l).1 x → Is w (readO l).1 y → Calls Try.prog 12 #[x.v, y.v] w fun e w' => e = .returned (.bool true) ∧ Below w.heap.size w w') := fun w x y h1 h2 => by
    have := refSame_any _ _ x y w h1 h2 (by have := readO_bulk l; omega)
    rw [same_iff.2 rfl] at this
    exact this
  have HV2 : Hid (∀ w x y, Is w (decO l).1 x → Is w (decO l).1 y → Calls Try.prog 12 #[x.v, y.v] w fun e w' => e = .returned (.bool true) ∧ Below w.heap.size w w') := fun w x y h1 h2 => by
    have := refSame_any _ _ x y w h1 h2 (by have := decO_bulk l; omega)
    rw [same_iff.2 rfl] at this
    exact this
  unfold PostD at HD1 HD2
  have hLl : l.length ≤ 140737488355320 := by omega
  generalize (readO l).1 = rv at *
  generalize (readO l).2.1 = rn at *
  generalize (readO l).2.2 = rq at *
  generalize (decO l).1 = dv at *
  generalize (decO l).2 = dq at *
  go_enter Try.func4, Try.ntmps4
  go_wp2_with (at_builtin; refine app_row rfl _ _ (by rfl) (· < w.heap.size) (fun _ h => h) _ [] (by rfl) (Own.nil _ _) A l.length c l (by rfl) rfl hB (by simpa using hLl) ?_; intro v1 w1 h1 hf1)
  rw [List.nil_append] at h1
  obtain ⟨A1, c1, rfl, hc1, hY1⟩ := own_byt h1
  have HB1 := Lib.hid hf1.below
  have HY1 := Lib.hid hY1
  clear h1 hf1 hY1
  refine (HR1.out _ A1 c1 HY1.out hc1).mono ?_
  rintro e w2 ⟨⟨xak, xan, xas, xaka, xakn, xakc, xala, xaln, xalc⟩, rfl, hy, hb⟩
  simp only [X.v]
  go_wp2_with fail
  have hbW := hb.trans ((below_alloc w2 (.cells #[.int .i64 xak, .int .i64 xan, .string xas, .slice xaka xakn xakc, .slice xala xaln xalc] 25)).mono hb.size)
  have HAT2 := Lib.hid (at_of_block (x := ⟨xak, xan, xas, xaka, xakn, xakc, xala, xaln, xalc⟩) (hp_new (w := w2) (o := (.cells #[.int .i64 xak, .int .i64 xan, .string xas, .slice xaka xakn xakc, .slice xala xaln xalc] 25)) rfl))
  have HI2 := Lib.hid (Is.below (below_alloc w2 (.cells #[.int .i64 xak, .int .i64 xan, .string xas, .slice xaka xakn xakc, .slice xala xaln xalc] 25)) _ _ hy)
  have hlt2 : w2.heap.size < (w2.alloc (.cells #[.int .i64 xak, .int .i64 xan, .string xas, .slice xaka xakn xakc, .slice xala xaln xalc] 25)).heap.size := by simp
  generalize w2.alloc (.cells #[.int .i64 xak, .int .i64 xan, .string xas, .slice xaka xakn xakc, .slice xala xaln xalc] 25) = W2 at *
  have HB2 := Lib.hid (HB1.out.trans (hbW.mono HB1.out.size))
  have HY2 := Lib.hid (HY1.out.below hbW)
  have HBP2 := Lib.hid hbW
  clear hb hy hbW
  refine (HR2.out _ HB2.out).mono ?_
  rintro e w3 ⟨⟨xbk, xbn, xbs, xbka, xbkn, xbkc, xbla, xbln, xblc⟩, rfl, hy, hb⟩
  simp only [X.v]
  go_wp2_with fail
  have hbW := hb.trans ((below_alloc w3 (.cells #[.int .i64 xbk, .int .i64 xbn, .string xbs, .slice xbka xbkn xbkc, .slice xbla xbln xblc] 25)).mono hb.size)
  have HAT3 := Lib.hid (at_of_block (x := ⟨xbk, xbn, xbs, xbka, xbkn, xbkc, xbla, xbln, xblc⟩) (hp_new (w := w3) (o := (.cells #[.int .i64 xbk, .int .i64 xbn, .string xbs, .slice xbka xbkn xbkc, .slice xbla xbln xblc] 25)) rfl))
  have HI3 := Lib.hid (Is.below (below_alloc w3 (.cells #[.int .i64 xbk, .int .i64 xbn, .string xbs, .slice xbka xbkn xbkc, .slice xbla xbln xblc] 25)) _ _ hy)
  have hlt3 : w3.heap.size < (w3.alloc (.cells #[.int .i64 xbk, .int .i64 xbn, .string xbs, .slice xbka xbkn xbkc, .slice xbla xbln xblc] 25)).heap.size := by simp
  generalize w3.alloc (.cells #[.int .i64 xbk, .int .i64 xbn, .string xbs, .slice xbka xbkn xbkc, .slice xbla xbln xblc] 25) = W3 at *
  have HB3 := Lib.hid (HB2.out.trans (hbW.mono HB2.out.size))
  have HY3 := Lib.hid (HY2.out.below hbW)
  have HBP3 := Lib.hid hbW
  clear hb hy hbW
  refine (HD1.out _ A1 c1 HY3.out hc1).mono ?_
  rintro e w4 ⟨⟨xdk, xdn, xds, xdka, xdkn, xdkc, xdla, xdln, xdlc⟩, rfl, hy, hb⟩
  simp only [X.v]
  go_wp2_with fail
  have hbW := hb.trans ((below_alloc w4 (.cells #[.int .i64 xdk, .int .i64 xdn, .string xds, .slice xdka xdkn xdkc, .slice xdla xdln xdlc] 25)).mono hb.size)
  have HAT4 := Lib.hid (at_of_block (x := ⟨xdk, xdn, xds, xdka, xdkn, xdkc, xdla, xdln, xdlc⟩) (hp_new (w := w4) (o := (.cells #[.int .i64 xdk, .int .i64 xdn, .string xds, .slice xdka xdkn xdkc, .slice xdla xdln xdlc] 25)) rfl))
  have HI4 := Lib.hid (Is.below (below_alloc w4 (.cells #[.int .i64 xdk, .int .i64 xdn, .string xds, .slice xdka xdkn xdkc, .slice xdla xdln xdlc] 25)) _ _ (IsP.is (fun _ h => h.2) _ _ hy))
  have hlt4 : w4.heap.size < (w4.alloc (.cells #[.int .i64 xdk, .int .i64 xdn, .string xds, .slice xdka xdkn xdkc, .slice xdla xdln xdlc] 25)).heap.size := by simp
  generalize w4.alloc (.cells #[.int .i64 xdk, .int .i64 xdn, .string xds, .slice xdka xdkn xdkc, .slice xdla xdln xdlc] 25) = W4 at *
  have HB4 := Lib.hid (HB3.out.trans (hbW.mono HB3.out.size))
  have HY4 := Lib.hid (HY3.out.below hbW)
  have HBP4 := Lib.hid hbW
  clear hb hy hbW
  refine (HD2.out _ HB4.out).mono ?_
  rintro e w5 ⟨⟨xfk, xfn, xfs, xfka, xfkn, xfkc, xfla, xfln, xflc⟩, rfl, hy, hb⟩
  simp only [X.v]
  go_wp2_with fail
  have hbW := hb.trans ((below_alloc w5 (.cells #[.int .i64 xfk, .int .i64 xfn, .string xfs, .slice xfka xfkn xfkc, .slice xfla xfln xflc] 25)).mono hb.size)
  have HAT5 := Lib.hid (at_of_block (x := ⟨xfk, xfn, xfs, xfka, xfkn, xfkc, xfla, xfln, xflc⟩) (hp_new (w := w5) (o := (.cells #[.int .i64 xfk, .int .i64 xfn, .string xfs, .slice xfka xfkn xfkc, .slice xfla xfln xflc] 25)) rfl))
  have HI5 := Lib.hid (Is.below (below_alloc w5 (.cells #[.int .i64 xfk, .int .i64 xfn, .string xfs, .slice xfka xfkn xfkc, .slice xfla xfln xflc] 25)) _ _ (IsP.is (fun _ h => h.2) _ _ hy))
  have hlt5 : w5.heap.size < (w5.alloc (.cells #[.int .i64 xfk, .int .i64 xfn, .string xfs, .slice xfka xfkn xfkc, .slice xfla xfln xflc] 25)).heap.size := by simp
  generalize w5.alloc (.cells #[.int .i64 xfk, .int .i64 xfn, .string xfs, .slice xfka xfkn xfkc, .slice xfla xfln xflc] 25) = W5 at *
  have HB5 := Lib.hid (HB4.out.trans (hbW.mono HB4.out.size))
  have HY5 := Lib.hid (HY4.out.below hbW)
  have HBP5 := Lib.hid hbW
  clear hb hy hbW
  have H35 := Lib.hid (HBP3.out.trans ((HBP4.out.trans (HBP5.out.mono HBP4.out.size)).mono HBP3.out.size))
  have H25 := Lib.hid H35.out
  have HVa : Hid (∀ w', Below W5.heap.size W5 w' → Calls Try.prog 12 #[.agg #[.int .i64 xak, .int .i64 xan, .string xas, .slice xaka xakn xakc, .slice xala xaln xalc], .agg #[.int .i64 xbk, .int .i64 xbn, .string xbs, .slice xbka xbkn xbkc, .slice xbla xbln xblc]] w' fun e w'' => e = .returned (.bool true) ∧ Below w'.heap.size w' w'') := fun w' hb => HV1.out w' ⟨xak, xan, xas, xaka, xakn, xakc, xala, xaln, xalc⟩ ⟨xbk, xbn, xbs, xbka, xbkn, xbkc, xbla, xbln, xblc⟩ (Is.below (H25.out.trans (hb.mono H25.out.size)) _ _ HI2.out) (Is.below ((HBP4.out.trans (HBP5.out.mono HBP4.out.size)).trans (hb.mono (HBP4.out.trans (HBP5.out.mono HBP4.out.size)).size)) _ _ HI3.out)
  have HVb : Hid (∀ w', Below W5.heap.size W5 w' → Calls Try.prog 12 #[.agg #[.int .i64 xdk, .int .i64 xdn, .string xds, .slice xdka xdkn xdkc, .slice xdla xdln xdlc], .agg #[.int .i64 xfk, .int .i64 xfn, .string xfs, .slice xfka xfkn xfkc, .slice xfla xfln xflc]] w' fun e w'' => e = .returned (.bool true) ∧ Below w'.heap.size w' w'') := fun w' hb => HV2.out w' ⟨xdk, xdn, xds, xdka, xdkn, xdkc, xdla, xdln, xdlc⟩ ⟨xfk, xfn, xfs, xfka, xfkn, xfkc, xfla, xfln, xflc⟩ (Is.below (HBP5.out.trans (hb.mono HBP5.out.size)) _ _ HI4.out) (Is.below hb _ _ HI5.out)
  have HCC : Hid (∀ w', Below W5.heap.size W5 w' → At w' w2.heap.size 0 ⟨xak, xan, xas, xaka, xakn, xakc, xala, xaln, xalc⟩ ∧ At w' w3.heap.size 0 ⟨xbk, xbn, xbs, xbka, xbkn, xbkc, xbla, xbln, xblc⟩ ∧ At w' w4.heap.size 0 ⟨xdk, xdn, xds, xdka, xdkn, xdkc, xdla, xdln, xdlc⟩ ∧ At w' w5.heap.size 0 ⟨xfk, xfn, xfs, xfka, xfkn, xfkc, xfla, xfln, xflc⟩) := fun w' hb =>
    ⟨HAT2.out.below hlt2 (H25.out.trans (hb.mono H25.out.size)), HAT3.out.below hlt3 ((HBP4.out.trans (HBP5.out.mono HBP4.out.size)).trans (hb.mono (HBP4.out.trans (HBP5.out.mono HBP4.out.size)).size)), HAT4.out.below hlt4 (HBP5.out.trans (hb.mono HBP5.out.size)), HAT5.out.below hlt5 hb⟩
  have HSS : Hid (∀ w', Below W5.heap.size W5 w' → Calls Try.prog 11 #[.slice A1 l.length c1, .slice A l.length c] w' fun e w'' => e = .returned (.bool true) ∧ w' = w'') := fun w' hb => HS.out w' A1 c1 (HB5.out.trans (hb.mono HB5.out.size)) (HY5.out.below hb)
  have HBB := Lib.hid HB5.out
  clear HV1 HV2 HI2 HI3 HI4 HI5 HAT2 HAT3 HAT4 HAT5 HS HY1 HY2 HY3 HY4 HY5 HB1 HB2 HB3 HB4 HB5 HBP2 HBP3 HBP4 HBP5 H35 H25 hlt2 hlt3 hlt4 hlt5 HR1 HR2 HD1 HD2
  refine (live_any _).mono ?_
  rintro e w6 ⟨rfl, hb6⟩
  have HB6 := Lib.hid hb6
  clear hb6
  obtain ⟨⟨a0, a1, a2, a3, a4⟩, ⟨b0, b1, b2, b3, b4⟩, -, -⟩ := HCC.out _ HB6.out
  go_wp2_with (first
    | (go_at_call 12; (first
        | ((with_reducible refine (HVa.out _ ?v1).mono ?_); (case v1 => exact HB6.out); rintro e w7 ⟨rfl, hb7⟩; have HB7 := Lib.hid (HB6.out.trans (hb7.mono HB6.out.size)); clear hb7; obtain ⟨-, -, ⟨d0, d1, d2, d3, d4⟩, ⟨f0, f1, f2, f3, f4⟩⟩ := HCC.out _ HB7.out)
        | ((with_reducible refine (HVb.out _ ?v2).mono ?_); (case v2 => exact HB7.out); rintro e w8 ⟨rfl, hb8⟩; have HB8 := Lib.hid (HB7.out.trans (hb8.mono HB7.out.size)); clear hb8)))
    | (go_at_call 11; (with_reducible refine (HSS.out _ ?v3).mono ?_); (case v3 => exact HB8.out); rintro e w9 ⟨rfl, rfl⟩))
  go_ret
  exact ⟨rfl, HBB.out.trans (HB8.out.mono HBB.out.size)⟩
end Go.Proofs.Ytnkknlhdbhfjlaa
