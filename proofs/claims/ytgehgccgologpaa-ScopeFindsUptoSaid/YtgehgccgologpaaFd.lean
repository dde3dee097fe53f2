/-
  Funcs: those elements that are functions, in memory of the call's own.
-/
import Derived.Test.YtgehgccgologpaaFc
namespace Go.Proofs.Ytgehgccgologpaa.Z
open Go.RowKit Go.Shelf Go.Proofs.Ytgehgccgologpaa Go.Proofs.Ytgehgccgologpaa.R Go.Proofs.Ytgehgccgologpaa.T

def is39 (v : V) : Bool := decide (v.k = 39)
def fcs (l : List V) : List V := l.filter is39
theorem fcs_snoc (l : List V) (j : Nat) (h : j < l.length) : fcs (l.take (j + 1)) = fcs (l.take j) ++ (if l[j].k = 39 then [l[j]] else []) := by
  unfold fcs
  rw [List.take_succ_eq_append_getElem h, List.filter_append]
  congr 1
  by_cases h39 : l[j].k = 39
  · rw [if_pos h39, List.filter_cons_of_pos (by unfold is39; rw [decide_eq_true h39]), List.filter_nil]
  · rw [if_neg h39, List.filter_cons_of_neg (by unfold is39; rw [decide_eq_false h39]; simp), List.filter_nil]
theorem bulks_filter (p : V → Bool) : ∀ l : List V, V.bulks (l.filter p) ≤ V.bulks l
  | [] => by simp
  | v :: r => by
    have ih := bulks_filter p r
    rw [List.filter_cons]
    split
    · rw [V.bulks, V.bulks]; omega
    · rw [V.bulks]; omega
/-- a row that reads as nodes of old memory is a list of the call's memory -/
theorem hp_start {w : World} {lo : Nat} {A : Option Addr} {n c : Nat} {ys : List X} {fs : List V} (ho : OwnX w lo (.slice A n c) ys) (hx : XsIs w lo ys fs) :
    Hp w lo (ext (fun _ => none) A fs) (fun _ => none) ∧ (fs = [] ∨ ∃ g, A = some ⟨g, 0, none⟩ ∧ ext (fun _ => none) A fs g = some fs) := by
  obtain ⟨-, -, ha⟩ := own_addr ho
  rcases ha with ⟨rfl, h0⟩ | ⟨g, rfl⟩
  · have : fs = [] := List.eq_nil_of_length_eq_zero (by rw [← hx.1]; exact h0)
    subst this
    exact ⟨⟨fun n l h => (by rw [ext_none] at h; cases h), fun n ks h => (by cases h)⟩, .inl rfl⟩
  · refine ⟨⟨fun n l h => ?_, fun n ks h => (by cases h)⟩, .inr ⟨g, rfl, by rw [ext_some, if_pos rfl]⟩⟩
    rw [ext_some] at h
    split at h
    · rename_i e
      subst e
      injection h with h
      subst h
      obtain ⟨h1, h2⟩ := own_typ ho
      refine ⟨h1, h2, fun i hi => ?_⟩
      obtain ⟨y, e1, e2⟩ := hx.2 i hi
      have hi' : i < ys.length := by rw [hx.1]; exact hi
      rw [List.getElem?_eq_getElem hi'] at e1
      exact ⟨ys[i], OwnX.at' ho i hi', .inl (by rw [Option.some.inj e1]; exact e2)⟩
    · cases h
theorem hp_row {w : World} {lo : Nat} {T : Ty} {K : Ky} (h : Hp w lo T K) (hl : lo ≤ w.heap.size) {A : Option Addr} {fs : List V} (hA : fs = [] ∨ ∃ g, A = some ⟨g, 0, none⟩ ∧ T g = some fs) : Row w A fs := by
  rcases hA with h0 | ⟨g, rfl, hg⟩
  · exact .inl h0
  · obtain ⟨-, h2, h3⟩ := h.t g fs hg
    refine .inr ⟨g, 0, rfl, h2.lt, (isAll_iff _ _ _ _ _).2 fun i hi => ?_⟩
    obtain ⟨y, h4, h5⟩ := h3 i hi
    exact ⟨y, by rw [Nat.zero_add]; exact h4, h.read hl _ _ h5⟩
set_option maxRecDepth 20000 in
set_option maxHeartbeats 4000000 in
theorem funcs_any (l : List V) (A : Option Addr) (n c : Nat) (w : World) (hn : n = l.length) (hrow : Row w A l) (hb : V.bulks l ≤ 4194304) :
    Calls Try.prog 12 #[.slice A n c] w fun e w' => ∃ A' c', e = .returned (.slice A' (fcs l).length c') ∧ (fcs l).length ≤ c' ∧ Row w' A' (fcs l) ∧ Below w.heap.size w w' := by
  subst hn
  have hll : (l.length : Int) ≤ 4194304 := by have := length_le_bulks l; omega
  have HR := Lib.hid hrow
  have HBF : Hid (V.bulks (fcs l) ≤ 4194304) := Nat.le_trans (bulks_filter _ _) hb
  have HX0 : Hid (XsIs w w.heap.size [] (fcs (l.take 0))) := ⟨by rw [List.take_zero]; rfl, fun i h => by rw [List.take_zero] at h; exact absurd h (Nat.not_lt_zero _)⟩
  have HSN := Lib.hid (fcs_snoc l)
  clear hrow hb
  go_enter Try.func12, Try.ntmps12
  go_wp2_with fail
  go_loopw [3, 8] (fun v i wr => ∃ (j : Nat) (A2 : Option Addr) (c2 : Nat) (ys : List X), i = .int .i64 j ∧ v = .slice A2 ys.length c2 ∧ j ≤ l.length ∧ Hid (OwnX wr w.heap.size (.slice A2 ys.length c2) ys) ∧ Hid (XsIs wr w.heap.size ys (fcs (l.take j))) ∧ Hid (Below w.heap.size w wr)) (fun _ i _ => l.length - (intOf i).toNat)
  case atStart => exact ⟨0, none, 0, [], rfl, rfl, Nat.zero_le _, Lib.hid (ownX_nil _ _), HX0, Lib.hid (Below.refl _ _)⟩
  case round =>
    obtain ⟨j, A2, c2, ys, rfl, rfl, hj, HO, HX, HB⟩ := hrel
    by_cases hlt : j < l.length
    · obtain ⟨g, o, rfl, hg, y, hat, hy⟩ := (RowB.to HR.out HB.out (Nat.le_refl _)).at_ hlt
      have HS := Lib.hid (HSN.out j hlt)
      have hyl : ys.length ≤ 4194304 := by
        have h1 := HX.out.1
        have h2 : (fcs (l.take j)).length ≤ (l.take j).length := List.length_filter_le _ _
        rw [List.length_take] at h2
        omega
      have HYL := Lib.hid hyl
      generalize l[j] = u at *
      have hb1 := below_alloc wr (.cells y.cells 25)
      have HY := Lib.hid hy
      have HBX := Lib.hid (Bx.new wr y)
      obtain ⟨yka, ykc, yla, ylc, rfl, -, -, -, -⟩ := hy.open
      obtain ⟨d0, d1, d2, d3, d4, d5⟩ := hat.six
      dsimp only [X.cells] at hb1 HBX
      have hb2 := HB.out.trans (hb1.mono HB.out.size)
      have HB2 := Lib.hid hb2
      have HO2 := Lib.hid (low_own HO.out hb1)
      have HX2 := Lib.hid (HX.out.low (hb1.mono HB.out.size))
      have hjI : (j : Int) < (l.length : Int) := by omega
      clear hy hat hb1 hb2 hg hyl
      go_upto_region 5 with (fail)
      obtain ⟨W1, hW1⟩ : ∃ W1, wr.alloc (.cells #[.int .i64 u.k, .string u.nm, .int .i64 u.n, .string u.s, .slice yka u.ks.length ykc, .slice yla u.l.length ylc] 25) = W1 := ⟨_, rfl⟩
      rw [hW1] at HBX HB2 HO2 HX2 ⊢
      clear hW1 d0 d1 d2 d3 d4 d5
      obtain ⟨c0, c1, c2', c3, c4, c5⟩ := HBX.out.at'.six
      by_cases h39 : u.k = 39
      · have hq := beqT h39
        have HS2 : Hid (fcs (l.take (j + 1)) = fcs (l.take j) ++ [u]) := by show _ = _; rw [HS.out, if_pos h39]
        clear HS h39
        have hb3 := below_alloc W1 (.cells (X.cells ⟨u.k, u.nm, u.n, u.s, yka, u.ks.length, ykc, yla, u.l.length, ylc⟩) 25)
        have HB3 := Lib.hid (HB2.out.trans (hb3.mono HB2.out.size))
        have HO3 := Lib.hid (low_own HO2.out hb3)
        have HX3 := Lib.hid (HX2.out.low (hb3.mono HB2.out.size))
        have HAT : Hid (∀ j v, (flatX [(⟨u.k, u.nm, u.n, u.s, yka, u.ks.length, ykc, yla, u.l.length, ylc⟩ : X)])[j]? = some v → (W1.alloc (.cells (X.cells ⟨u.k, u.nm, u.n, u.s, yka, u.ks.length, ykc, yla, u.l.length, ylc⟩) 25)).cell? ((⟨W1.heap.size, 0, none⟩ : Addr).add j) = some v) := fun i v h => by
          rw [add_lit]
          exact flatX_news (w := W1.alloc (.cells (X.cells ⟨u.k, u.nm, u.n, u.s, yka, u.ks.length, ykc, yla, u.l.length, ylc⟩) 25)) (g := W1.heap.size) [⟨u.k, u.nm, u.n, u.s, yka, u.ks.length, ykc, yla, u.l.length, ylc⟩] 0 (fun i hi => by
            have : i = 0 := by simpa using hi
            subst this
            exact at_new _ _) i v h
        have HLW : Hid (w.heap.size ≤ (W1.alloc (.cells (X.cells ⟨u.k, u.nm, u.n, u.s, yka, u.ks.length, ykc, yla, u.l.length, ylc⟩) 25)).heap.size) := HB3.out.size
        dsimp only [X.cells] at HB3 HO3 HX3 HAT HLW
        clear hb3
        go_wp2_with (at_builtin; refine app_X rfl (.tmp 15) (.tmp 17) (by rfl) w.heap.size _ ys (by rfl) HO3.out ⟨W1.heap.size, 0, none⟩ 1 1 [⟨u.k, u.nm, u.n, u.s, yka, u.ks.length, ykc, yla, u.l.length, ylc⟩] (by rfl) rfl HAT.out (by have := HYL.out; simp only [List.length_cons, List.length_nil]; omega) HLW.out ?_)
        intro v' w9 h1 h2 _
        have hb9 : Below w.heap.size w w9 := HB3.out.trans (grownN h2 HB3.out.size fun k hk => (HO3.out.lt k hk).1)
        obtain ⟨A9, c9, rfl⟩ : ∃ A9 c9, v' = .slice A9 (ys ++ [(⟨u.k, u.nm, u.n, u.s, yka, u.ks.length, ykc, yla, u.l.length, ylc⟩ : X)]).length c9 := by
          rcases h1.2 with ⟨rfl, h0⟩ | ⟨g, cap, cur, rfl, _⟩
          · exact ⟨none, 0, by rw [h0]⟩
          · exact ⟨_, _, rfl⟩
        have HO9 := Lib.hid h1
        have HB9 := Lib.hid hb9
        have HX9 : Hid (XsIs w9 w.heap.size (ys ++ [(⟨u.k, u.nm, u.n, u.s, yka, u.ks.length, ykc, yla, u.l.length, ylc⟩ : X)]) (fcs (l.take (j + 1)))) := by
          rw [HS2.out]
          refine XsIs.app (HX3.out.low (grownN h2 HB3.out.size fun k hk => (HO3.out.lt k hk).1)) ⟨rfl, fun i hi => ?_⟩
          have : i = 0 := by simpa using hi
          subst this
          refine ⟨_, rfl, ?_⟩
          exact HY.out.to (show Below w.heap.size wr w9 from ⟨hb9.os.trans HB.out.os.symm, hb9.tape.trans HB.out.tape.symm, hb9.output.trans HB.out.output.symm, by have := HBX.out.bl.size; have := h2.size; have h5 := below_alloc W1 (.cells #[.int .i64 u.k, .string u.nm, .int .i64 u.n, .string u.s, .slice yka u.ks.length ykc, .slice yla u.l.length ylc] 25); have := h5.size; omega, fun k hk => (hb9.block k hk).trans (HB.out.block k hk).symm⟩) (Nat.le_refl _)
        clear h1 h2 hb9 HB3 HO3 HX3 HAT HLW HY HS2 HBX HO2 HX2 HB2 c0 c1 c2' c3 c4 c5 HYL HO HX HB
        go_wp2_with fail
        go_roundw
        case rel => exact ⟨j + 1, A9, c9, _, by go_num, rfl, by omega, HO9, HX9, HB9⟩
        case measure => simp [intOf]; omega
      · have hq := beqF h39
        have HS2 : Hid (fcs (l.take (j + 1)) = fcs (l.take j)) := by show _ = _; rw [HS.out, if_neg h39, List.append_nil]
        have HX9 : Hid (XsIs W1 w.heap.size ys (fcs (l.take (j + 1)))) := by rw [HS2.out]; exact HX2
        clear HS h39 HS2 HX2
        go_wp2_with fail
        go_roundw
        case rel => exact ⟨j + 1, A2, c2, ys, by go_num, rfl, by omega, HO2, HX9, HB2⟩
        case measure => simp [intOf]; omega
    · obtain rfl : j = l.length := by omega
      rw [List.take_length] at HX
      have HL : Hid (ys.length = (fcs l).length) := HX.out.1
      obtain ⟨hp, hA⟩ := hp_start HO.out HX.out
      obtain ⟨-, hc, -⟩ := own_addr HO.out
      have HC := Lib.hid (detach_any w.heap.size (fcs l) A2 ys.length c2 _ _ wr HL.out hc hp HB.out.size hA HBF.out)
      have HCC : Hid (ys.length ≤ c2) := hc
      have HA := Lib.hid hA
      clear hp hA hc HX HO
      go_wp2_with fail
      refine HC.out.mono ?_
      rintro e w5 ⟨rfl, T, K, hT, hp5, hb5⟩
      have HB5 := Lib.hid (HB.out.trans hb5)
      have HRW : Hid (Row w5 A2 (fcs l)) := hp_row hp5 HB5.out.size (HA.out.imp id fun ⟨g, h1, h2⟩ => ⟨g, h1, hT _ _ h2⟩)
      clear hT hp5 hb5 HC HA HB
      go_wp2_with fail
      go_ret
      exact ⟨A2, c2, congrArg (fun k => Ending.returned (Value.slice A2 k c2)) HL.out, by rw [← HL.out]; exact HCC.out, HRW.out, HB5.out⟩
end Go.Proofs.Ytgehgccgologpaa.Z
