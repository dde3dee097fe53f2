/-
  The law Back.
-/
import Derived.Test.YtkaamaopjcaalaaDoorZV
namespace Go.Proofs.YtkaamaopjcaalaaDoor.T
open Go.RowKit Go.Proofs.YtkaamaopjcaalaaDoor

/-- a guarded operation that is wanted goes as one without a guard -/
theorem wpList_free {P : Program} {ops : Array Oper} {Q : Exit → Act → World → Prop} {a : Act} {w : World} {rest : List Oper} {o : Oper} (hw : Region.wanted o (yielded ops a.tmps) = true)
    (h : wpList P ops Q ({ o with guard := Option.none } :: rest) a w) : wpList P ops Q (o :: rest) a w := by
  unfold wpList at h ⊢
  rw [if_pos hw]
  rw [if_pos (show Region.wanted { o with guard := Option.none } (yielded ops a.tmps) = true from rfl)] at h
  exact h
/-- append of a token, and what else it leaves -/
theorem app_tok2 {w : World} {ops : Array Oper} {rest : List Oper} {o : Oper} {a : Act} {Q : Exit → Act → World → Prop} (hgd : o.guard = Option.none) (sl x : Operand)
    (ho : o.op = .call { callee := .builtin .append, args := #[sl, x], argTypes := #[24, 24] })
    (B : Nat) (hB : B ≤ w.heap.size) (v : Value) (k : List Tk) (hs : a.eval sl = v) (h0 : OwnT w B v k) (arr : Array Value) (m : Nat) (p : Tk) (g : Nat) (hx : a.eval x = .slice (some ⟨g, 0, Option.none⟩) m m) (hg : g = w.heap.size) (hm : m = 1) (harr : arr = #[.int .i64 p.k, .string ⟨p.t.toArray⟩, .int .i64 p.n, .int .i64 p.a, .bool p.f]) (hlim : k.length ≤ 1048576)
    (h : ∀ v' w', OwnT w' B v' (k ++ [p]) → Below B w w' → (∀ q, q < w.heap.size → v.ownBlock ≠ some q → w'.heap[q]? = w.heap[q]?) → wpList Tryd.prog ops Q rest (a.put o.dst v') w') : wpList Tryd.prog ops Q (o :: rest) a (w.alloc (.cells arr 30)) := by
  obtain ⟨i0, hi, hz0, hz1, hz2⟩ := info_parts infoT
  subst hg
  subst hm
  subst harr
  have hown : OwnT (w.alloc (.cells #[.int .i64 p.k, .string ⟨p.t.toArray⟩, .int .i64 p.n, .int .i64 p.a, .bool p.f] 30)) B v k := own_below h0 (below_alloc _ _)
  refine wpList_append_own _ hgd sl x 24 ho B 30 i0 _ 5 48 Tryd.underlying24 hi hz0 hz1 hz2 rfl (by decide) v k.length (flat k) hs hown ⟨w.heap.size, 0, Option.none⟩ 1 1 [.int .i64 p.k, .string ⟨p.t.toArray⟩, .int .i64 p.n, .int .i64 p.a, .bool p.f] hx rfl ?_ ?_ (by unfold maxLen; omega) (by omega) (by simp; omega) ?_
  · intro j u hj
    rw [add_lit, World.cell?_alloc_at _ _ _ _ rfl]
    simpa using hj
  · intro u hu
    simp only [List.mem_cons, List.not_mem_nil, or_false] at hu
    rcases hu with rfl | rfl | rfl | rfl | rfl <;> rfl
  · intro v' w' hown' hg _
    refine h v' w' ?_ (((Below.refl B w).alloc hB _).grown hg (by simp; omega) fun k' hk => (hown.lt k' hk).1) ?_
    · unfold OwnT
      rw [flat_append, List.length_append]
      exact hown'
    · intro q hq hne
      exact (hg.block q (by simp; omega) (Ne.symm hne)).trans ((below_alloc w _).block q hq)
/-- a token's number, its text's length -/
def Fits (p : Tk) : Prop := p.n ≤ 9223372036854775807 ∧ p.t.length ≤ 2097152
theorem written_any (p : Tk) (w : World) (h : Fits p) :
    Calls Tryd.prog 17 #[.agg #[.int .i64 p.k, .string ⟨p.t.toArray⟩, .int .i64 p.n, .int .i64 p.a, .bool p.f]] w (GivesW p w) := by
  obtain ⟨k, t, n, a, f⟩ := p
  obtain ⟨hn, ht⟩ := h
  simp only at hn ht ⊢
  have hX : (⟨t.toArray⟩ : ByteArray).size ≤ 2097152 := by show t.toArray.size ≤ _; rw [List.size_toArray]; exact ht
  by_cases h1 : k = 1
  · subst h1; exact written_1 ⟨t.toArray⟩ n a f w hX
  · by_cases h2 : k = 2
    · subst h2; exact written_2 ⟨t.toArray⟩ n a f w
    · by_cases h3 : k = 3
      · subst h3
        by_cases hn0 : n < 0
        · exact written_3n ⟨t.toArray⟩ n a f w hn0
        · obtain ⟨u, rfl⟩ : ∃ u : Nat, n = u := ⟨n.toNat, by omega⟩
          exact written_3p ⟨t.toArray⟩ u a f w (by omega)
      · by_cases h4 : k = 4
        · subst h4; exact written_4 ⟨t.toArray⟩ n a f w hX
        · by_cases h5 : k = 5
          · subst h5; exact written_5 ⟨t.toArray⟩ n a f w
          · exact written_0 k ⟨t.toArray⟩ n a f w h1 h2 h3 h4 h5
theorem sp_list (s Y : ByteArray) : (s ++ (Y ++ (⟨#[32]⟩ : ByteArray))).data.toList = s.data.toList ++ (Y.data.toList ++ [32]) := by
  rw [ByteArray.data_append, ByteArray.data_append]
  simp
/-- what has been written so far -/
def Inv (X : ByteArray) (T : List Tk) : Prop := ∃ W : List (Bs × Tok), (∀ x ∈ W, Pair x) ∧ X.data.toList = srcOf W ∧ T = toks 0 W
theorem Inv.step {X Y : ByteArray} {T : List Tk} {p : Tk} (h : Inv X T) (hg : Good p Y.data.toList) :
    (p.k = 3 → Inv (X ++ (Y ++ (⟨#[32]⟩ : ByteArray))) (T ++ [⟨p.k, [], p.n, (X.size : Nat), false⟩])) ∧ (¬ p.k = 3 → Inv (X ++ (Y ++ (⟨#[32]⟩ : ByteArray))) (T ++ [⟨p.k, p.t, 0, (X.size : Nat), false⟩])) := by
  obtain ⟨W, h1, h2, h3⟩ := h
  obtain ⟨g1, g2, t, g3, g4, g5⟩ := hg
  have hP : ∀ x ∈ W ++ [(Y.data.toList, t)], Pair x := fun x hx => by
    rw [List.mem_append, List.mem_singleton] at hx
    rcases hx with hx | rfl
    · exact h1 x hx
    · exact ⟨g1, g2, g3⟩
  have hs : (X ++ (Y ++ (⟨#[32]⟩ : ByteArray))).data.toList = srcOf (W ++ [(Y.data.toList, t)]) := by rw [sp_list, h2, srcOf_snoc]
  have ht : toks 0 (W ++ [(Y.data.toList, t)]) = T ++ [mk t X.size false] := by rw [toks_snoc, ← h3, ← h2, size_list, Nat.zero_add]
  constructor
  · intro hk
    rcases g5 with ⟨_, e1, e2⟩ | ⟨e, _⟩
    · refine ⟨_, hP, hs, ?_⟩
      rw [ht]
      unfold mk
      rw [g4, e1, e2]
    · exact absurd hk e
  · intro hk
    rcases g5 with ⟨e, _⟩ | ⟨_, e1, e2⟩
    · exact absurd e hk
    · refine ⟨_, hP, hs, ?_⟩
      rw [ht]
      unfold mk
      rw [g4, e1, e2]
      rfl
theorem Inv.done {X : ByteArray} {T : List Tk} (h : Inv X T) : cutl X.data.toList 0 = .inr (T ++ [endT X.size false]) := by
  obtain ⟨W, h1, h2, h3⟩ := h
  rw [h2, back W 0 h1, h3, Nat.zero_add, ← size_list, h2]
set_option maxRecDepth 8000 in
set_option maxHeartbeats 2000000 in
theorem back_law (A : Option Addr) (k : List Tk) (c : Nat) (w : World) (h : Row w A k) (hk : k.length ≤ 1048575) (hF : ∀ p ∈ k, Fits p) (hV : Vars w) :
    Calls Tryd.prog 5 #[.slice A k.length c] w (Yes w) := by
  have HL := Lib.hid (live_any w hV)
  have HVw := Lib.hid fun w' (hb : Below w.heap.size w w') => hV.below hb
  have HR := Lib.hid fun w' (hb : Below w.heap.size w w') => h.below hb
  have HF := Lib.hid hF
  have HW := Lib.hid written_any
  have H0 : Hid (Inv ⟨#[]⟩ []) := Lib.hid ⟨[], by simp, rfl, rfl⟩
  clear h hV hF
  go_enter Tryd.func5, Tryd.ntmps5
  go_wp2_with fail
  refine HL.out.mono ?_
  rintro e w1 ⟨rfl, hb1⟩
  have HB1 := Lib.hid hb1
  clear hb1
  go_wp2_with fail
  go_loopw [4, 5, 16] (fun vs vw vi wr => ∃ (j : Nat) (X : ByteArray) (T : List Tk), j ≤ k.length ∧ T.length = j ∧ vi = .int .i64 j ∧ vs = .string X ∧ X.size ≤ 20000000 ∧ Hid (OwnT wr w.heap.size vw T) ∧ Hid (Inv X T) ∧ Below w.heap.size w wr)
    (fun _ _ vi _ => k.length - (intOf vi).toNat)
  case atStart => exact ⟨0, ⟨#[]⟩, [], Nat.zero_le _, rfl, rfl, rfl, by decide, Lib.hid (OwnT.nil _ _), H0, HB1.out⟩
  case round =>
    obtain ⟨j, X, T, hj, hT, rfl, rfl, hXz, hO, hI, hbw⟩ := hrel
    by_cases hlt : j < k.length
    · obtain ⟨g, o, rfl, hg, hp⟩ := (HR.out _ hbw).at_ hlt
      obtain ⟨c0, c1, c2, c3, c4⟩ := hp
      have hfit := HF.out k[j] (List.getElem_mem hlt)
      generalize k[j] = p at *
      have HWp := Lib.hid fun w => HW.out p w hfit
      have HSt := Lib.hid fun Y hg => hI.out.step (Y := Y) (p := p) hg
      have hft := hfit.2
      clear hfit hg
      have hb2 := hbw.trans ((below_alloc wr (row5 p.k ⟨p.t.toArray⟩ p.n p.a p.f)).mono hbw.size)
      have HB2 := Lib.hid hb2
      have HK := Lib.hid fun w' (h : Below (wr.alloc (row5 p.k ⟨p.t.toArray⟩ p.n p.a p.f)).heap.size (wr.alloc (row5 p.k ⟨p.t.toArray⟩ p.n p.a p.f)) w') => row_kept h
      have HO2 := Lib.hid (own_below hO.out (below_alloc wr (row5 p.k ⟨p.t.toArray⟩ p.n p.a p.f)))
      unfold row5 at *
      go_wp2_with fail
      refine (HWp.out _).mono ?_
      rintro e w2 ⟨hb3, Y, b, rfl, hgood, hYz⟩
      obtain ⟨kr, kb⟩ := HK.out _ hb3
      have HKb := Lib.hid kb
      have hb4 := Lib.hid (hbw.trans (kb.mono hbw.size))
      cases b with
      | false =>
        clear kr kb hb3 hgood
        go_wp2_with fail
        go_ret
        exact ⟨rfl, hb4.out⟩
      | true =>
        by_cases hX4 : X.size ≤ 4096
        · have hX4i : (X.size : Int) ≤ 4096 := by omega
          obtain ⟨st3, stn⟩ := HSt.out Y (hgood rfl)
          have HS3 := Lib.hid st3
          have HSn := Lib.hid stn
          obtain ⟨e0, e1, e2, e3, e4, ef⟩ := row5_cells kr
          have f0 := ef 0
          have f1 := ef 1
          have f2 := ef 2
          have f3 := ef 3
          have f4 := ef 4
          clear kr kb hb3 hgood st3 stn ef HSt c0 c1 c2 c3 c4 hb2
          have HXY : Hid ((X ++ (Y ++ (⟨#[32]⟩ : ByteArray))).size ≤ 20000000) := Lib.hid (by
            rw [ByteArray.size_append, ByteArray.size_append]
            have e1 : (⟨#[32]⟩ : ByteArray).size = 1 := rfl
            omega)
          by_cases hk3 : p.k = 3
          · rw [hk3] at e0
            have hI2 := HS3.out hk3
            rw [hk3] at hI2
            have HI2 := Lib.hid hI2
            clear hI2 HS3 HSn hk3
            have hW3 := ((HKb.out.setCell (p := ⟨wr.heap.size, 3, none⟩) (Nat.le_refl _) (.int .i64 (X.size : Nat))).setCell (p := ⟨wr.heap.size, 4, none⟩) (Nat.le_refl _) (.bool false)).setCell (p := ⟨wr.heap.size, 1, none⟩) (Nat.le_refl _) (.string ⟨#[]⟩)
            have hO3 := own_below hO.out hW3
            have hB3 := hbw.trans (hW3.mono hbw.size)
            clear hW3 hO hI hbw
            go_wp2_with (at_builtin; refine app_tok rfl (.tmp 42) (.tmp 44) (by rfl) w.heap.size hB3.size _ T (by rfl) hO3 _ 1 ⟨3, [], p.n, (X.size : Nat), false⟩ _ (by rfl) ?g1 rfl ?a1 ?c1 ?_)
            case g1 => first | rfl | simp [World.setCell]
            case a1 => rfl
            case c1 => omega
            intro v4 w4 hO4 hb6
            have HO4 := Lib.hid hO4
            have hb7 := hB3.trans hb6
            clear hO3 hO4 hb6 hB3
            go_wp2_with fail
            go_roundw
            case rel => exact ⟨j + 1, X ++ (Y ++ (⟨#[32]⟩ : ByteArray)), _, hlt, by rw [List.length_append, hT]; rfl, by go_num, rfl, HXY.out, HO4, HI2, hb7⟩
            case measure => simp [intOf]; omega
          · have hk3b : (p.k == 3) = false := by rw [beq_eq_false_iff_ne]; exact hk3
            have hk3n : (p.k != 3) = true := by rw [bne, hk3b]; rfl
            have HI2 := Lib.hid (HSn.out hk3)
            clear HS3 HSn hk3
            have hW3 := ((HKb.out.setCell (p := ⟨wr.heap.size, 3, none⟩) (Nat.le_refl _) (.int .i64 (X.size : Nat))).setCell (p := ⟨wr.heap.size, 4, none⟩) (Nat.le_refl _) (.bool false)).setCell (p := ⟨wr.heap.size, 2, none⟩) (Nat.le_refl _) (.int .i64 0)
            have hO3 := own_below hO.out hW3
            have hB3 := hbw.trans (hW3.mono hbw.size)
            clear hW3 hO hI hbw
            go_wp2_with (at_builtin; refine app_tok rfl (.tmp 42) (.tmp 44) (by rfl) w.heap.size hB3.size _ T (by rfl) hO3 _ 1 ⟨p.k, p.t, 0, (X.size : Nat), false⟩ _ (by rfl) ?g1 rfl ?a1 ?c1 ?_)
            case g1 => first | rfl | simp [World.setCell]
            case a1 => rfl
            case c1 => omega
            intro v4 w4 hO4 hb6
            have HO4 := Lib.hid hO4
            have hb7 := hB3.trans hb6
            clear hO3 hO4 hb6 hB3
            go_wp2_with fail
            go_roundw
            case rel => exact ⟨j + 1, X ++ (Y ++ (⟨#[32]⟩ : ByteArray)), _, hlt, by rw [List.length_append, hT]; rfl, by go_num, rfl, HXY.out, HO4, HI2, hb7⟩
            case measure => simp [intOf]; omega
        · have hX4i : 4096 < (X.size : Int) := by omega
          clear kr kb hb3 hgood
          go_wp2_with fail
          go_ret
          exact ⟨rfl, hb4.out⟩
    · obtain rfl : j = k.length := by omega
      by_cases hX4 : X.size ≤ 4096
      · have hX4i : (X.size : Int) ≤ 4096 := by omega
        have hd := hI.out.done
        have HC := cut_inr X hX4 hd
        have hTl : (T ++ [endT X.size false]).length = T.length + 1 := by simp
        rw [hTl, hT] at HC
        have hVb := HVw.out _ hbw
        go_wp2_with fail
        refine (HC.out _ hVb).mono ?_
        rintro e w2 ⟨hb2, A2, c2, rfl, hlc2, -, hOg⟩
        have hOg2 : OwnT w2 wr.heap.size (.slice A2 (T ++ [endT X.size false]).length c2) (T ++ [endT X.size false]) := by rw [hTl, hT]; exact hOg
        obtain ⟨g2, rfl, hg2, hK2⟩ := Blk.of_own hOg2 (by rw [hTl]; omega)
        have hO2 := own_below hO.out hb2
        have hb3 := hbw.trans (hb2.mono hbw.size)
        have HK2 := Lib.hid hK2
        have hg2l := hK2.lt
        have HNe : ∀ q, (_ : q = g2) → ∀ v, OwnT wr w.heap.size v T → v.ownBlock ≠ some q := fun q hq v hv e => by
          have := (hv.lt q e).2
          omega
        have HNo := HNe g2 rfl _ hO.out
        clear hb2 hOg hOg2 hK2 hbw HNe
        have HNh := Lib.hid HNo
        clear HNo
        go_wp2_with (at_builtin; refine wpList_free (by rfl) ?_; refine app_tok2 rfl (.tmp 68) (.tmp 72) (by rfl) w.heap.size hb3.size _ T (by rfl) hO2 _ 1 (endT X.size false) _ (by rfl) ?g1 rfl ?a1 ?c1 ?_)
        case g1 => rfl
        case a1 => rfl
        case c1 => omega
        intro v4 w4 hO4 hb6 hoth
        have hK4 : Blk w4 g2 (T ++ [endT X.size false]) := by
          obtain ⟨cur, q1, q2⟩ := HK2.out
          exact ⟨cur, (hoth g2 hg2l HNh.out).trans q1, q2⟩
        obtain ⟨A4, c4, rfl, _, hR4⟩ := hO4.open
        have hS := same_any _ _ _ _ c2 c4 w4 hK4.row hR4 (by rw [hTl]; omega)
        rw [same_yes rfl, hTl, hT] at hS
        have HS := Lib.hid hS
        have HB4 := Lib.hid (hb3.trans hb6)
        rw [hTl, hT]
        clear hO2 hO4 hR4 hK4 hS hoth hb3 hb6 hTl
        go_wp2_with fail
        refine HS.out.mono ?_
        rintro e w5 ⟨rfl, hb7⟩
        have HB5 := Lib.hid (HB4.out.trans (hb7.mono HB4.out.size))
        clear hb7
        go_wp2_with fail
        go_ret
        exact ⟨rfl, HB5.out⟩
      · have hX4i : 4096 < (X.size : Int) := by omega
        go_wp2_with fail
        go_ret
        exact ⟨rfl, hbw⟩
end Go.Proofs.YtkaamaopjcaalaaDoor.T
