/-

-/
import Derived.Test.YtllpgoaanbiodaaGreatDoorMWt
import Derived.Test.YtllpgoaanbiodaaGreatDoorMSr
import Derived.Test.YtllpgoaanbiodaaGreatDoorMC4
import Derived.Laws.Rows
set_option maxHeartbeats 1000000
set_option maxRecDepth 20000
namespace Go.Proofs.YtllpgoaanbiodaaGreatDoor.R
open Go.RowKit Go.Proofs.YtllpgoaanbiodaaGreatDoor Go.Proofs.YtllpgoaanbiodaaGreatDoor.T
abbrev leaf (k : Int) (nm : ByteArray) (n : Int) : V := .mk k nm n ⟨#[]⟩ [] []
abbrev kidsV (k : Int) (nm : ByteArray) (l : List V) : V := .mk k nm 0 ⟨#[]⟩ [] l
abbrev prog1 (v : V) : V := kidsV 41 ⟨#[]⟩ [kidsV 24 ⟨#[]⟩ [v]]
abbrev fV : V := leaf 3 ⟨#[102]⟩ 0
abbrev starV : V := kidsV 17 ⟨#[42]⟩ [kidsV 17 ⟨#[43]⟩ [leaf 1 ⟨#[]⟩ 1, leaf 1 ⟨#[]⟩ 2], leaf 3 ⟨#[97]⟩ 0]
abbrev newV : V := kidsV 14 ⟨#[]⟩ [kidsV 13 ⟨#[]⟩ [fV]]
theorem star_res : (prog1 starV).tres = .tuple #[.string ⟨#[40, 32, 49, 32, 43, 32, 50, 32, 41, 32, 42, 32, 97, 32, 59]⟩, .int .i64 0] := by kernel_rfl
theorem new_res : (prog1 newV).tres = .tuple #[.string ⟨#[110, 101, 119, 32, 40, 32, 102, 32, 40, 32, 41, 32, 41, 32, 40, 32, 41, 32, 59]⟩, .int .i64 0] := by kernel_rfl
theorem f_size : (prog1 fV).size = 3 := by decide
theorem f_deep : (prog1 fV).deep = 3 := by decide
theorem f_same : V.same fV fV = true := by decide
theorem f_tg : isTg fV = true := by decide
theorem zero_chk : V.chk (leaf 0 ⟨#[]⟩ 0) = 70 := by decide
theorem leaf_is (w : World) (B : Nat) (k : Int) (nm : ByteArray) (n : Int) : IsB w B (leaf k nm n) ⟨k, nm, n, ⟨#[]⟩, none, 0, 0, none, 0, 0⟩ := by
 rw [isB_iff]
 exact ⟨⟨rfl, rfl, rfl, rfl⟩, ⟨rfl, Nat.le_refl _, .inl rfl⟩, rfl, Nat.le_refl _, .inl rfl⟩
theorem row_is {w : World} {B : Nat} {k : Int} {nm : ByteArray} {l : List V} {g n c : Nat} (hn : n = l.length) (hc : n ≤ c) (hg : g < B) (h : IsAllB w B g 0 l) : IsB w B (kidsV k nm l) ⟨k, nm, 0, ⟨#[]⟩, none, 0, 0, some ⟨g, 0, none⟩, n, c⟩ := by
 rw [isB_iff]
 exact ⟨⟨rfl, rfl, rfl, rfl⟩, ⟨rfl, Nat.le_refl _, .inl rfl⟩, hn, hc, .inr ⟨g, 0, rfl, hg, h⟩⟩
theorem hp_new {w : World} {o : Obj} {g : Nat} (h : g = w.heap.size) : (w.alloc o).heap[g]? = some o := by subst h; exact World.alloc_heap_new w o
theorem hp_alloc {w : World} {o o' : Obj} {g : Nat} (h : w.heap[g]? = some o) : (w.alloc o').heap[g]? = some o := (Below.heap_alloc w o' g (Array.getElem?_eq_some_iff.1 h).1).trans h
theorem at_row {w : World} {g o : Nat} {cs : Array Value} {t : TypeId} {fr : Nat × Nat} {y : X} (h : w.heap[g]? = some (.cells cs t fr)) (h0 : cs[o]? = some (.int .i64 y.k)) (h1 : cs[o + 1]? = some (.string y.nm)) (h2 : cs[o + 2]? = some (.int .i64 y.n)) (h3 : cs[o + 3]? = some (.string y.s))
  (h4 : cs[o + 4]? = some (.slice y.ka y.kn y.kc)) (h5 : cs[o + 5]? = some (.slice y.la y.ln y.lc)) : At w g o y :=
 ⟨(cell_of_row w g o _ _ _ h).trans h0, (cell_of_row w g (o + 1) _ _ _ h).trans h1, (cell_of_row w g (o + 2) _ _ _ h).trans h2, (cell_of_row w g (o + 3) _ _ _ h).trans h3, (cell_of_row w g (o + 4) _ _ _ h).trans h4, (cell_of_row w g (o + 5) _ _ _ h).trans h5⟩
theorem infoNode : (Tryz.prog.info? 25).map (fun i => (i.zero, i.size, i.bytes)) = some (some (.agg #[.int .i64 0, .string ⟨#[]⟩, .int .i64 0, .string ⟨#[]⟩, .slice none 0 0, .slice none 0 0]), 6, 96) := by kernel_rfl
theorem lit_any (n : Int) (w : World) : Calls Tryz.prog 24 #[.int .i64 n] w fun e w' => e = .returned (.agg #[.int .i64 1, .string ⟨#[]⟩, .int .i64 n, .string ⟨#[]⟩, .slice none 0 0, .slice none 0 0]) ∧ Below w.heap.size w w' := by
 obtain ⟨i5, hi5, hz5, hs5, hb5⟩ := info_parts infoNode
 go_enter Tryz.func24, Tryz.ntmps24
 go_wp2_with fail
 refine bodyPost_ret (results_cell_row rfl _ _ w.heap.size 25 _ (0, 0) _ rfl (hp_new rfl) Tryz.underlying25 rfl (by rw [hi5]; simp [hs5])) rfl ⟨rfl, below_alloc _ _⟩
theorem program_any (v : V) (x : X) (w : World) (hx : Is w v x) : Calls Tryz.prog 23 #[x.v] w fun e w' => ∃ y : X, e = .returned y.v ∧ Is w' (prog1 v) y ∧ Below w.heap.size w w' := by
 obtain ⟨i5, hi5, hz5, hs5, hb5⟩ := info_parts infoNode
 have HX := Lib.hid hx
 obtain ⟨xk, xnm, xn, xs, xka, xkn, xkc, xla, xln, xlc⟩ := x
 simp only [X.v]
 clear hx
 go_enter Tryz.func23, Tryz.ntmps23
 go_wp2_with fail
 have HE : Hid (∀ w5 : World, w5.heap[w.heap.size + 1 + 1]? = some (.cells #[.int .i64 xk, .string xnm, .int .i64 xn, .string xs, .slice xka xkn xkc, .slice xla xln xlc] 25) →
   w5.heap[w.heap.size + 1 + 1 + 1]? = some (.cells #[.int .i64 24, .string ⟨#[]⟩, .int .i64 0, .string ⟨#[]⟩, .slice none 0 0, .slice (some ⟨w.heap.size + 1 + 1, 0, none⟩) 1 1] 25) → Below w.heap.size w w5 →
   Is w5 (prog1 v) ⟨41, ⟨#[]⟩, 0, ⟨#[]⟩, none, 0, 0, some ⟨w.heap.size + 1 + 1 + 1, 0, none⟩, 1, 1⟩) := fun w5 h2 h3 hb => by
  refine row_is rfl (Nat.le_refl _) (Array.getElem?_eq_some_iff.1 h3).1 ⟨⟨_, at_row h3 (y := ⟨24, ⟨#[]⟩, 0, ⟨#[]⟩, none, 0, 0, some ⟨w.heap.size + 1 + 1, 0, none⟩, 1, 1⟩) rfl rfl rfl rfl rfl rfl, ?_⟩, trivial⟩
  exact row_is rfl (Nat.le_refl _) (Array.getElem?_eq_some_iff.1 h2).1 ⟨⟨⟨xk, xnm, xn, xs, xka, xkn, xkc, xla, xln, xlc⟩, at_row h2 rfl rfl rfl rfl rfl rfl, IsB.to hb hb.size _ _ HX.out⟩, trivial⟩
 refine bodyPost_ret (results_cell_row rfl _ _ (w.heap.size + 1) 25 _ (0, 0) _ rfl (hp_alloc (hp_alloc (hp_new (by simp)))) Tryz.underlying25 rfl (by rw [hi5]; simp [hs5])) rfl ⟨⟨41, ⟨#[]⟩, 0, ⟨#[]⟩, none, 0, 0, some ⟨w.heap.size + 1 + 1 + 1, 0, none⟩, 1, 1⟩, rfl, HE.out _ (hp_alloc (hp_new (by simp))) (hp_new (by simp)) ?_, ?_⟩
 all_goals repeat' (first | exact Below.refl _ _ | refine Below.alloc ?_ (by simp <;> omega) _)
theorem star_is {w : World} {s u : Nat} (h1 : w.heap[s]? = some (.cells #[.int .i64 1, .string ⟨#[]⟩, .int .i64 1, .string ⟨#[]⟩, .slice none 0 0, .slice none 0 0, .int .i64 1, .string ⟨#[]⟩, .int .i64 2, .string ⟨#[]⟩, .slice none 0 0, .slice none 0 0] 25))
  (h2 : w.heap[u]? = some (.cells #[.int .i64 17, .string ⟨#[43]⟩, .int .i64 0, .string ⟨#[]⟩, .slice none 0 0, .slice (some ⟨s, 0, none⟩) 2 2, .int .i64 3, .string ⟨#[97]⟩, .int .i64 0, .string ⟨#[]⟩, .slice none 0 0, .slice none 0 0] 25)) :
  Is w starV ⟨17, ⟨#[42]⟩, 0, ⟨#[]⟩, none, 0, 0, some ⟨u, 0, none⟩, 2, 2⟩ := by
 refine row_is rfl (Nat.le_refl _) (Array.getElem?_eq_some_iff.1 h2).1 ⟨⟨_, at_row h2 (y := ⟨17, ⟨#[43]⟩, 0, ⟨#[]⟩, none, 0, 0, some ⟨s, 0, none⟩, 2, 2⟩) rfl rfl rfl rfl rfl rfl, ?_⟩, ⟨⟨3, ⟨#[97]⟩, 0, ⟨#[]⟩, none, 0, 0, none, 0, 0⟩, at_row h2 rfl rfl rfl rfl rfl rfl, leaf_is _ _ _ _ _⟩, trivial⟩
 exact row_is rfl (Nat.le_refl _) (Array.getElem?_eq_some_iff.1 h1).1 ⟨⟨⟨1, ⟨#[]⟩, 1, ⟨#[]⟩, none, 0, 0, none, 0, 0⟩, at_row h1 rfl rfl rfl rfl rfl rfl, leaf_is _ _ _ _ _⟩, ⟨⟨1, ⟨#[]⟩, 2, ⟨#[]⟩, none, 0, 0, none, 0, 0⟩, at_row h1 rfl rfl rfl rfl rfl rfl, leaf_is _ _ _ _ _⟩, trivial⟩
theorem new_is {w : World} {s u : Nat} (h1 : w.heap[s]? = some (.cells #[.int .i64 3, .string ⟨#[102]⟩, .int .i64 0, .string ⟨#[]⟩, .slice none 0 0, .slice none 0 0] 25))
  (h2 : w.heap[u]? = some (.cells #[.int .i64 13, .string ⟨#[]⟩, .int .i64 0, .string ⟨#[]⟩, .slice none 0 0, .slice (some ⟨s, 0, none⟩) 1 1] 25)) :
  Is w newV ⟨14, ⟨#[]⟩, 0, ⟨#[]⟩, none, 0, 0, some ⟨u, 0, none⟩, 1, 1⟩ := by
 refine row_is rfl (Nat.le_refl _) (Array.getElem?_eq_some_iff.1 h2).1 ⟨⟨_, at_row h2 (y := ⟨13, ⟨#[]⟩, 0, ⟨#[]⟩, none, 0, 0, some ⟨s, 0, none⟩, 1, 1⟩) rfl rfl rfl rfl rfl rfl, ?_⟩, trivial⟩
 exact row_is rfl (Nat.le_refl _) (Array.getElem?_eq_some_iff.1 h1).1 ⟨⟨⟨3, ⟨#[102]⟩, 0, ⟨#[]⟩, none, 0, 0, none, 0, 0⟩, at_row h1 rfl rfl rfl rfl rfl rfl, leaf_is _ _ _ _ _⟩, trivial⟩
abbrev fX : X := ⟨3, ⟨#[102]⟩, 0, ⟨#[]⟩, none, 0, 0, none, 0, 0⟩
theorem f_is (w : World) : Is w fV fX := leaf_is _ _ _ _ _
theorem live_any (w : World) (hT : Tab w) : Calls Tryz.prog 10 #[] w fun e w' => e = .returned (.bool true) ∧ Below w.heap.size w w' := by
 have HL := Lib.hid lit_any
 have HP := Lib.hid fun v (x : X) w' (h : Is w' v x) => program_any v x w' h
 have HTX := Lib.hid fun v (y : X) w' (h : Is w' v y) (hv : v.bulk ≤ 4194304) (hb : Below w.heap.size w w') => text_any v y w' h hv (hT.below hb)
 have HC := Lib.hid fun w' => check_any _ _ w' (leaf_is w' w'.heap.size 0 ⟨#[]⟩ 0) (by decide)
 have HI := Lib.hid fun w' => isTarget_any fV fX w' (f_is w')
 have HS := Lib.hid fun (y : X) w' (h : Is w' (prog1 fV) y) => size_any (prog1 fV) y w' h (by decide)
 have HD := Lib.hid fun (y : X) w' (h : Is w' (prog1 fV) y) => deep_any (prog1 fV) y w' h (by decide)
 have HM := Lib.hid fun w' => same_any fV fV fX fX w' (f_is w') (f_is w') (by decide)
 rw [zero_chk] at HC
 rw [f_tg] at HI
 rw [f_size] at HS
 rw [f_deep] at HD
 rw [f_same] at HM
 clear hT
 go_enter Tryz.func10, Tryz.ntmps10
 go_wp2_with fail
 obtain ⟨w0, hw0⟩ : ∃ w0, w.alloc (.cells #[.int .i64 3, .string ⟨#[102]⟩, .int .i64 0, .string ⟨#[]⟩, .slice none 0 0, .slice none 0 0] 25) = w0 := ⟨_, rfl⟩
 have HF : Hid (∀ w', Below w0.heap.size w0 w' → At w' w.heap.size 0 fX) := fun w' hb => by
  have h0 : At w0 w.heap.size 0 fX := by rw [← hw0]; exact at_row (hp_new rfl) rfl rfl rfl rfl rfl rfl
  exact h0.below (B := w0.heap.size) (by rw [← hw0]; simp) hb
 have HB0 : Hid (Below w.heap.size w w0) := by rw [← hw0]; exact below_alloc _ _
 rw [hw0]
 clear hw0
 refine (HL.out _ _).mono ?_
 rintro e w1 ⟨rfl, hb1⟩
 go_wp2_with fail
 refine (HL.out _ _).mono ?_
 rintro e w2 ⟨rfl, hb2⟩
 have hb3 := hb1.trans (hb2.mono hb1.size)
 have HB1 := Lib.hid hb3
 clear hb1 hb2 hb3
 go_wp2_with fail
 have hs := star_is (s := w2.heap.size) (u := w2.heap.size + 1) (hp_alloc (o' := .cells #[.int .i64 17, .string ⟨#[43]⟩, .int .i64 0, .string ⟨#[]⟩, .slice none 0 0, .slice (some ⟨w2.heap.size, 0, none⟩) 2 2, .int .i64 3, .string ⟨#[97]⟩, .int .i64 0, .string ⟨#[]⟩, .slice none 0 0, .slice none 0 0] 25) (hp_new (w := w2) rfl)) (hp_new (by simp))
 refine (HP.out _ _ _ hs).mono ?_
 rintro e w3 ⟨y3, rfl, hi3, hb3⟩
 have hb4 := HB1.out.trans ((((below_alloc w2 _).alloc (by simp) _).mono HB1.out.size).trans (hb3.mono (Nat.le_trans HB1.out.size (by simp; omega))))
 have HB3 := Lib.hid hb4
 clear hs hb3 hb4 HB1
 have HBW3 := Lib.hid (HB0.out.trans (HB3.out.mono HB0.out.size))
 go_wp2_with fail
 have ht := HTX.out _ _ _ hi3 (by decide) HBW3.out
 rw [star_res] at ht
 refine ht.mono ?_
 rintro e w4 ⟨rfl, hb4⟩
 have HB4 := Lib.hid (HB3.out.trans (hb4.mono HB3.out.size))
 clear ht hi3 hb4 HBW3 HB3
 obtain ⟨c0, c1, c2, c3, c4, c5⟩ := (HF.out _ HB4.out).six
 go_wp2_with fail
 have hs := new_is (s := w4.heap.size) (u := w4.heap.size + 1) (hp_alloc (o' := .cells #[.int .i64 13, .string ⟨#[]⟩, .int .i64 0, .string ⟨#[]⟩, .slice none 0 0, .slice (some ⟨w4.heap.size, 0, none⟩) 1 1] 25) (hp_new (w := w4) rfl)) (hp_new (by simp))
 refine (HP.out _ _ _ hs).mono ?_
 rintro e w5 ⟨y5, rfl, hi5, hb5⟩
 have hb6 := HB4.out.trans ((((below_alloc w4 _).alloc (by simp) _).mono HB4.out.size).trans (hb5.mono (Nat.le_trans HB4.out.size (by simp; omega))))
 have HB5 := Lib.hid hb6
 clear hs hb5 hb6 HB4 c0 c1 c2 c3 c4 c5
 have HBW5 := Lib.hid (HB0.out.trans (HB5.out.mono HB0.out.size))
 go_wp2_with fail
 have ht := HTX.out _ _ _ hi5 (by decide) HBW5.out
 rw [new_res] at ht
 refine ht.mono ?_
 rintro e w6 ⟨rfl, hb6⟩
 have HB6 := Lib.hid (HB5.out.trans (hb6.mono HB5.out.size))
 clear ht hi5 hb6 HBW5 HB5
 go_wp2_with fail
 refine (HC.out _).mono ?_
 rintro e w7 ⟨rfl, hb7⟩
 have HB7 := Lib.hid (HB6.out.trans (hb7.mono HB6.out.size))
 clear hb7 HB6
 obtain ⟨c0, c1, c2, c3, c4, c5⟩ := (HF.out _ HB7.out).six
 go_wp2_with fail
 refine (HI.out _).mono ?_
 rintro e w8 ⟨rfl, hb8⟩
 have HB8 := Lib.hid (HB7.out.trans (hb8.mono HB7.out.size))
 clear hb8 HB7 c0 c1 c2 c3 c4 c5
 obtain ⟨c0, c1, c2, c3, c4, c5⟩ := (HF.out _ HB8.out).six
 go_wp2_with fail
 refine (HP.out fV fX _ (f_is _)).mono ?_
 rintro e w9 ⟨y9, rfl, hi9, hb9⟩
 have HB9 := Lib.hid (HB8.out.trans (hb9.mono HB8.out.size))
 clear hb9 HB8 c0 c1 c2 c3 c4 c5
 go_wp2_with fail
 refine (HS.out _ _ hi9).mono ?_
 rintro e w10 ⟨rfl, hb10⟩
 have HB10 := Lib.hid (HB9.out.trans (hb10.mono HB9.out.size))
 clear hb10 HB9 hi9
 obtain ⟨c0, c1, c2, c3, c4, c5⟩ := (HF.out _ HB10.out).six
 go_wp2_with fail
 refine (HP.out fV fX _ (f_is _)).mono ?_
 rintro e w11 ⟨y11, rfl, hi11, hb11⟩
 have HB11 := Lib.hid (HB10.out.trans (hb11.mono HB10.out.size))
 clear hb11 HB10 c0 c1 c2 c3 c4 c5
 go_wp2_with fail
 refine (HD.out _ _ hi11).mono ?_
 rintro e w12 ⟨rfl, hb12⟩
 have HB12 := Lib.hid (HB11.out.trans (hb12.mono HB11.out.size))
 clear hb12 HB11 hi11
 obtain ⟨c0, c1, c2, c3, c4, c5⟩ := (HF.out _ HB12.out).six
 go_wp2_with fail
 refine (HM.out _).mono ?_
 rintro e w13 ⟨rfl, hb13⟩
 have HB13 := Lib.hid (HB0.out.trans ((HB12.out.trans (hb13.mono HB12.out.size)).mono HB0.out.size))
 clear hb13 HB12 c0 c1 c2 c3 c4 c5
 go_wp2_with fail
 go_ret
 exact ⟨rfl, HB13.out⟩
theorem box_new (w : World) (k : Int) (nm : ByteArray) (n : Int) (s : ByteArray) (ka : Option Addr) (kn kc : Nat) (la : Option Addr) (ln lc : Nat) :
  ∃ W0, w.alloc (.cells #[.int .i64 k, .string nm, .int .i64 n, .string s, .slice ka kn kc, .slice la ln lc] 25) = W0 ∧ Hid (Below w.heap.size w W0) ∧ Hid (∀ w', Below W0.heap.size W0 w' → At w' w.heap.size 0 ⟨k, nm, n, s, ka, kn, kc, la, ln, lc⟩) :=
 ⟨_, rfl, below_alloc _ _, fun _ hb => (at_row (hp_new rfl) rfl rfl rfl rfl rfl rfl : At (w.alloc (.cells #[.int .i64 k, .string nm, .int .i64 n, .string s, .slice ka kn kc, .slice la ln lc] 25)) w.heap.size 0 ⟨k, nm, n, s, ka, kn, kc, la, ln, lc⟩).below (by simp) hb⟩
theorem kidI {w : World} {P : World → Prop} {a b : V} {y : X} (h : ∀ w', Below w.heap.size w w' → P w' ∧ Is w' b y) (e : b = a) : Hid (∀ w', Below w.heap.size w w' → Is w' a y) := fun w' hb => e ▸ (h w' hb).2
end Go.Proofs.YtllpgoaanbiodaaGreatDoor.R
