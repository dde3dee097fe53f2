/-
  The law Joins.
-/
import Derived.Test.YtkaamaopjcaalaaDoorW
namespace Go.Proofs.YtkaamaopjcaalaaDoor.T
open Go.RowKit Go.Proofs.YtkaamaopjcaalaaDoor

/-- the first j of these moved by d, the first one fresh -/
def jT (d i : Nat) (t : Tk) : Tk := ⟨t.k, t.t, t.n, t.a + d, t.f || decide (i = 0)⟩
def mv (d : Nat) (y : List Tk) : List Tk := (List.range y.length).map fun i => jT d i (y.getD i ⟨0, [], 0, 0, false⟩)
theorem mv_length (d : Nat) (y : List Tk) : (mv d y).length = y.length := by unfold mv; simp
theorem mv_get (d : Nat) (y : List Tk) (i : Nat) (h : i < y.length) : (mv d y)[i]'(by rw [mv_length]; exact h) = jT d i y[i] := by
  unfold mv
  simp [List.getD, List.getElem?_eq_getElem h]
theorem mv_ff (d : Nat) (y : List Tk) : ff (shR d (.inr y)) = .inr (mv d y) := by
  cases y with
  | nil => rfl
  | cons t r =>
    show Sum.inr _ = Sum.inr _
    congr 1
    apply List.ext_getElem
    · rw [mv_length]; simp
    · intro k h1 h2
      rw [mv_get _ _ _ (by simpa using h1)]
      cases k with
      | zero => simp [jT, Tk.sh]
      | succ k => simp [jT, Tk.sh]
/-- two sources with a line feed between -/
theorem join_eq {a b : Bs} {x y : List Tk} (ha : cutl a 0 = .inr x) (hb : cutl b 0 = .inr y) : cutl (a ++ 10 :: b) 0 = .inr (x.dropLast ++ mv (a.length + 1) y) := by
  obtain ⟨_, h⟩ := cutl_join b a.length a 0 x (Nat.le_refl _) ha
  rw [h, Nat.zero_add, show a.length + 1 = 0 + (a.length + 1) by omega, cutl_shift (a.length + 1) b.length b 0 (Nat.le_refl _), hb, mv_ff, Nat.zero_add]
  rfl
theorem flat_cells {w : World} {g : Nat} : ∀ (k : List Tk) (o : Nat), (∀ j (h : j < k.length), At5 w g (o + j * 5) k[j]) → ∀ i u, (flat k)[i]? = some u → w.cell? ⟨g, o + i, none⟩ = some u
  | [], _, _, i, u, hu => by simp [flat] at hu
  | p :: r, o, h, i, u, hu => by
    have h0 := h 0 (by simp)
    simp only [Nat.zero_mul, Nat.add_zero, List.getElem_cons_zero] at h0
    have ih := flat_cells r (o + 5) fun j hj => by
      have := h (j + 1) (by simpa using hj)
      rw [show o + (j + 1) * 5 = o + 5 + j * 5 by omega] at this
      simpa using this
    match i, hu with
    | 0, hu => simp [flat] at hu; rw [← hu]; exact h0.c0
    | 1, hu => simp [flat] at hu; rw [← hu]; exact h0.c1
    | 2, hu => simp [flat] at hu; rw [← hu]; exact h0.c2
    | 3, hu => simp [flat] at hu; rw [← hu]; exact h0.c3
    | 4, hu => simp [flat] at hu; rw [← hu]; exact h0.c4
    | i + 5, hu =>
      have := ih i u (by simpa [flat] using hu)
      rw [show o + (i + 5) = o + 5 + i by omega]
      exact this
theorem flat_one (k : List Tk) : ∀ u ∈ flat k, u.oneCell' = true := by
  induction k with
  | nil => intro u hu; cases hu
  | cons p r ih =>
    intro u hu
    simp only [flat, List.mem_cons] at hu
    rcases hu with rfl | rfl | rfl | rfl | rfl | hu
    · rfl
    · rfl
    · rfl
    · rfl
    · rfl
    · exact ih u hu
theorem app_copy {w : World} {ops : Array Oper} {rest : List Oper} {o : Oper} {a : Act} {Q : Exit → Act → World → Prop} (hgd : o.guard = none) (sl x : Operand)
    (ho : o.op = .call { callee := .builtin .append, args := #[sl, x], argTypes := #[24, 24] })
    (hs : a.eval sl = .slice none 0 0) (A : Option Addr) (c n : Nat) (k : List Tk) (hn : n = k.length) (hx : a.eval x = .slice A n c) (hR : Row w A k) (hlim : k.length ≤ 1048576)
    (h : ∀ v' w', OwnT w' w.heap.size v' k → Below w.heap.size w w' → wpList Tryd.prog ops Q rest (a.put o.dst v') w') : wpList Tryd.prog ops Q (o :: rest) a w := by
  obtain ⟨i0, hi, hz0, hz1, hz2⟩ := info_parts infoT
  subst hn
  rcases hR with rfl | ⟨g, off, rfl, hg, hc⟩
  · refine wpList_plain hgd fun K hK => ?_
    have hrun : (Builtin.append_ #[24, 24] o.type #[.slice none 0 0, .slice A 0 c]).run Tryd.prog w = .ok (.slice none 0 0) w := by
      cases A <;> simp [Builtin.append_, run_underlying Tryd.underlying24, sizeOf, typeInfo, hi, Builtin.lenOf, Builtin.firstCells, loadCells, loadCellsFrom]
    unfold Oper.wp
    simp [execOp, ho, resolve, invoke, builtin, hs, hx, hrun, Result.andThen]
    exact hK _ _ (h (.slice none 0 0) w (OwnT.nil _ _) (Below.refl _ _))
  · refine wpList_append_own _ hgd sl x 24 ho w.heap.size 30 i0 _ 5 48 Tryd.underlying24 hi hz0 hz1 hz2 rfl (by decide) (.slice none 0 0) 0 [] hs (World.ownsRow_nil _ _ _ _) ⟨g, off, none⟩ k.length c (flat k) hx (flat_length k) ?_ (flat_one k) (by unfold maxLen; omega) (by omega) (Nat.le_refl _) ?_
    · intro j u hj
      rw [add_lit]
      exact flat_cells k off hc j u hj
    · intro v' w' hown hgr _
      have hO : OwnT w' w.heap.size v' k := by
        rw [Nat.zero_add, List.nil_append] at hown
        exact hown
      exact h v' w' hO ((Below.refl _ _).grown hgr (Nat.le_refl _) fun k' hk => by simp [Value.ownBlock] at hk)
theorem nl_mid (s t : ByteArray) : (s ++ (⟨#[10]⟩ : ByteArray) ++ t).data.toList = s.data.toList ++ 10 :: t.data.toList := by
  rw [ByteArray.data_append, ByteArray.data_append]
  simp
/-- Cut at any source -/
theorem cut_some (s : ByteArray) : (∃ (n e : Int), ¬ e = 0 ∧ ∀ w, Vars w → Calls Tryd.prog 14 #[.string s] w fun e' w' => e' = .returned (.tuple #[.slice none 0 0, .int .i64 n, .int .i64 e]) ∧ Below w.heap.size w w') ∨ (s.size ≤ 4096 ∧ ∃ ts, cutl s.data.toList 0 = .inr ts ∧ ts.length ≤ 4097 ∧ 0 < ts.length) := by
  by_cases hs : s.size ≤ 4096
  · cases hc : cutl s.data.toList 0 with
    | inl p => exact .inl ⟨p, 60, by decide, (cut_inl s hs hc).out⟩
    | inr ts =>
      have hl := cutl_len s.data.toList.length s.data.toList 0 ts (Nat.le_refl _) hc
      rw [size_list] at hl
      have hpos := List.length_pos_iff.2 ((cutl_rise s.data.toList.length s.data.toList 0 (Nat.le_refl _)).2 ts hc).ne
      exact .inr ⟨hs, ts, rfl, by omega, hpos⟩
  · exact .inl ⟨0, 2, by decide, fun w _ => (cut_long s w (by omega)).mono fun _ _ h => ⟨h.1, by rw [h.2]; exact Below.refl _ _⟩⟩
set_option maxRecDepth 8000 in
set_option maxHeartbeats 2000000 in
theorem joins_law (s t : ByteArray) (w : World) (hV : Vars w) (hs : s.size ≤ 140737488351232) (ht : t.size ≤ 140737488351232) :
    Calls Tryd.prog 8 #[.string s, .string t] w (Yes w) := by
  have HL := Lib.hid (live_any w hV)
  have HVw := Lib.hid fun w' (hb : Below w.heap.size w w') => hV.below hb
  clear hV
  rcases cut_some s with ⟨n, e, he, hC⟩ | ⟨hs4, x, hx, hxl, hxp⟩
  · have HC := Lib.hid hC
    have hbe : (e == 0) = false := by rw [beq_eq_false_iff_ne]; exact he
    have hbn : (e != 0) = true := by rw [bne, hbe]; rfl
    clear hC he
    rcases cut_some t with ⟨n2, e2, he2, hD⟩ | ⟨ht4, y, hy, hyl, hyp⟩
    · have HD := Lib.hid hD
      clear hD
      go_enter Tryd.func8, Tryd.ntmps8
      go_wp2_with fail
      refine HL.out.mono ?_
      rintro e w1 ⟨rfl, hb1⟩
      have HB1 := Lib.hid hb1
      clear hb1
      go_wp2_with fail
      refine (HC.out _ (HVw.out _ HB1.out)).mono ?_
      rintro e w2 ⟨rfl, hb2⟩
      have HB2 := Lib.hid (HB1.out.trans (hb2.mono HB1.out.size))
      clear hb2
      go_wp2_with fail
      refine (HD.out _ (HVw.out _ HB2.out)).mono ?_
      rintro e w3 ⟨rfl, hb3⟩
      have HB3 := Lib.hid (HB2.out.trans (hb3.mono HB2.out.size))
      clear hb3
      go_wp2_with fail
      go_ret
      exact ⟨rfl, HB3.out⟩
    · have HD := cut_inr t ht4 hy
      go_enter Tryd.func8, Tryd.ntmps8
      go_wp2_with fail
      refine HL.out.mono ?_
      rintro e w1 ⟨rfl, hb1⟩
      have HB1 := Lib.hid hb1
      clear hb1
      go_wp2_with fail
      refine (HC.out _ (HVw.out _ HB1.out)).mono ?_
      rintro e w2 ⟨rfl, hb2⟩
      have HB2 := Lib.hid (HB1.out.trans (hb2.mono HB1.out.size))
      clear hb2
      go_wp2_with fail
      refine (HD.out _ (HVw.out _ HB2.out)).mono ?_
      rintro e w3 ⟨hb3, A, c, rfl, -, -, -⟩
      have HB3 := Lib.hid (HB2.out.trans (hb3.mono HB2.out.size))
      clear hb3
      go_wp2_with fail
      go_ret
      exact ⟨rfl, HB3.out⟩
  · have HC := cut_inr s hs4 hx
    rcases cut_some t with ⟨n2, e2, he2, hD⟩ | ⟨ht4, y, hy, hyl, hyp⟩
    · have HD := Lib.hid hD
      have hbe : (e2 == 0) = false := by rw [beq_eq_false_iff_ne]; exact he2
      have hbn : (e2 != 0) = true := by rw [bne, hbe]; rfl
      clear hD
      go_enter Tryd.func8, Tryd.ntmps8
      go_wp2_with fail
      refine HL.out.mono ?_
      rintro e w1 ⟨rfl, hb1⟩
      have HB1 := Lib.hid hb1
      clear hb1
      go_wp2_with fail
      refine (HC.out _ (HVw.out _ HB1.out)).mono ?_
      rintro e w2 ⟨hb2, A, c, rfl, -, -, -⟩
      have HB2 := Lib.hid (HB1.out.trans (hb2.mono HB1.out.size))
      clear hb2
      go_wp2_with fail
      refine (HD.out _ (HVw.out _ HB2.out)).mono ?_
      rintro e w3 ⟨rfl, hb3⟩
      have HB3 := Lib.hid (HB2.out.trans (hb3.mono HB2.out.size))
      clear hb3
      go_wp2_with fail
      go_ret
      exact ⟨rfl, HB3.out⟩
    · have HD := cut_inr t ht4 hy
      by_cases hsz : s.size ≤ 2000 ∧ t.size ≤ 2000
      · obtain ⟨h20, h21⟩ := hsz
        have h20i : (s.size : Int) ≤ 2000 := by omega
        have h21i : (t.size : Int) ≤ 2000 := by omega
        have hj := join_eq hx hy
        rw [← nl_mid] at hj
        have hjz : (s ++ (⟨#[10]⟩ : ByteArray) ++ t).size ≤ 4096 := by
          rw [← size_list, nl_mid, List.length_append, List.length_cons, size_list, size_list]
          omega
        have HJ := cut_inr _ hjz hj
        have hxi : 0 < (x.length : Int) := by omega
        have hyi : 0 < (y.length : Int) := by omega
        have hxe : ((x.length : Int) == 0) = false := by rw [beq_eq_false_iff_ne]; omega
        have hye : ((y.length : Int) == 0) = false := by rw [beq_eq_false_iff_ne]; omega
        obtain ⟨m, hm⟩ : ∃ m, x.length = m + 1 := ⟨x.length - 1, by omega⟩
        have hdl : x.dropLast = x.take m := by rw [List.dropLast_eq_take, hm, Nat.add_sub_cancel]
        have hsl : s.data.toList.length = s.size := size_list s
        rw [hsl, hdl] at HJ
        have hXm : (x.take m).length = m := by rw [List.length_take, hm]; omega
        have hml := mv_length (s.size + 1) y
        have HMg := Lib.hid (mv_get (s.size + 1) y)
        have HML := Lib.hid hml
        have HXm := Lib.hid hXm
        obtain ⟨M, hM⟩ : ∃ M, M = mv (s.size + 1) y := ⟨_, rfl⟩
        rw [← hM] at HJ HML
        have HMg2 : Hid (∀ i (h : i < y.length) (h2 : i < M.length), M[i] = jT (s.size + 1) i y[i]) := Lib.hid fun i h h2 => by subst hM; exact HMg.out i h
        obtain ⟨X0, hX0⟩ : ∃ X0, X0 = x.take m := ⟨_, rfl⟩
        rw [← hX0] at HJ HXm
        have HX0 := Lib.hid hX0
        obtain ⟨Z, hZ⟩ : ∃ Z, Z = X0 ++ M := ⟨_, rfl⟩
        have HZ := Lib.hid hZ
        rw [← hZ] at HJ
        have hZl : Z.length ≤ 1048576 := by rw [hZ, List.length_append, hX0, hXm, hM, hml]; omega
        have HBd := Lib.hid (fun (z : Tk) (hz : z ∈ y) => by
          have := ((cutl_rise t.data.toList.length t.data.toList 0 (Nat.le_refl _)).2 y hy)
          rw [size_list, Nat.zero_add] at this
          exact this.bounds z hz)
        rw [hm] at HC
        have hmi : ((m : Int) + 1 == 0) = false := by rw [beq_eq_false_iff_ne]; omega
        have hm4 : m ≤ 4096 := by omega
        clear hx hy hj hjz hdl hsl hXm hml HMg hM hX0 hZ hxe hxi hxl hxp hm
        go_enter Tryd.func8, Tryd.ntmps8
        go_wp2_with fail
        refine HL.out.mono ?_
        rintro e w1 ⟨rfl, hb1⟩
        have HB1 := Lib.hid hb1
        clear hb1
        go_wp2_with fail
        refine (HC.out _ (HVw.out _ HB1.out)).mono ?_
        rintro e w2 ⟨hb2, A, c, rfl, hlc, hR, -⟩
        have HB2 := Lib.hid (HB1.out.trans (hb2.mono HB1.out.size))
        have HR := Lib.hid hR
        clear hb2 hR
        go_wp2_with fail
        refine (HD.out _ (HVw.out _ HB2.out)).mono ?_
        rintro e w3 ⟨hb3, A2, c2, rfl, hlc2, hR2, -⟩
        have HB3 := Lib.hid (HB2.out.trans (hb3.mono HB2.out.size))
        have HR3 := Lib.hid (HR.out.below hb3)
        have HR2 := Lib.hid hR2
        clear hb3 hR2 HR
        go_wp2_with fail
        refine (HJ.out _ (HVw.out _ HB3.out)).mono ?_
        rintro e w4 ⟨hb4, A3, c3, rfl, hlc3, hR4, -⟩
        have HB4 := Lib.hid (HB3.out.trans (hb4.mono HB3.out.size))
        have HR4 := Lib.hid hR4
        have HRx := Lib.hid (HR3.out.below hb4)
        have HRy := Lib.hid (HR2.out.below hb4)
        clear hb4 hR4 HR3 HR2
        go_wp2_with (at_builtin; refine app_copy rfl (.const (.slice none 0 0)) (.tmp 71) (by rfl) (by rfl) A _ m X0 HXm.out.symm (by rfl) (by rw [HX0.out]; exact HRx.out.take m) (by rw [HXm.out]; omega) ?_)
        intro v5 w5 hO5 hb5
        have HO5 := Lib.hid hO5
        have HB5 := Lib.hid hb5
        clear hO5 hb5
        go_wp2_with fail
        go_loopw [15, 75] (fun vw vi wr => ∃ j : Nat, j ≤ y.length ∧ vi = .int .i64 j ∧ Hid (OwnT wr w4.heap.size vw (X0 ++ M.take j)) ∧ Below w4.heap.size w4 wr)
          (fun _ vi _ => y.length - (intOf vi).toNat)
        case atStart => exact ⟨0, Nat.zero_le _, rfl, by rw [List.take_zero, List.append_nil]; exact HO5, HB5.out⟩
        case round =>
          obtain ⟨j, hj, rfl, hO, hbw⟩ := hrel
          by_cases hlt : j < y.length
          · obtain ⟨g, o, rfl, hg, hp⟩ := HRy.out.at_ hlt
            obtain ⟨c0, c1, c2, c3, c4⟩ := hp.below hg hbw
            have hbd := HBd.out y[j] (List.getElem_mem hlt)
            have hj2 : j < M.length := by rw [HML.out]; exact hlt
            have HTk : Hid (M.take (j + 1) = M.take j ++ [jT (s.size + 1) j y[j]]) := Lib.hid (by rw [List.take_succ_eq_append_getElem hj2, HMg2.out j hlt hj2])
            generalize y[j] = tk at *
            obtain ⟨t0, t1, t2, t3, t4⟩ := tk
            simp only at *
            obtain ⟨hb0, hbz⟩ := hbd
            have hbzi : t3 ≤ 2000 := by omega
            have hlenO : (X0 ++ M.take j).length ≤ 1048576 := by rw [List.length_append, HXm.out, List.length_take]; omega
            clear hp hj2
            have hend : ∀ (B : Bool) v6 w6, B = (t4 || decide (j = 0)) → OwnT w6 w4.heap.size v6 (X0 ++ (M.take j ++ [⟨t0, t1, t2, t3 + ((s.size : Int) + 1), B⟩])) → OwnT w6 w4.heap.size v6 (X0 ++ M.take (j + 1)) := fun B v6 w6 hB h => by
              rw [HTk.out]
              subst hB
              exact h
            have HEnd := Lib.hid hend
            clear hend
            cases t4 with
            | true =>
              have HE2 := Lib.hid fun v6 w6 h => HEnd.out true v6 w6 (by simp) h
              clear HEnd
              go_wp2_with (at_builtin; refine app_tok rfl (.tmp 94) (.tmp 96) (by rfl) w4.heap.size (Nat.le_trans hbw.size (below_alloc _ _).size) _ (X0 ++ M.take j) (by rfl) (own_below hO.out (below_alloc _ _)) _ 1 ⟨t0, t1, t2, t3 + ((s.size : Int) + 1), true⟩ _ (by rfl) ?g1 rfl ?a1 hlenO ?_)
              case g1 => simp
              case a1 => rfl
              intro v6 w6 hO6 hb6
              have HO6 := Lib.hid (HE2.out _ _ hO6)
              have hb7 := (hbw.trans ((below_alloc wr _).mono hbw.size)).trans hb6
              clear hO6 hb6 hbw hO HE2
              go_wp2_with fail
              go_roundw
              case rel => exact ⟨j + 1, hlt, by go_num, HO6, hb7⟩
              case measure => simp [intOf]; omega
            | false =>
              cases hj0 : ((j : Int) == 0) with
              | true =>
                have hjz : j = 0 := by rw [beq_iff_eq] at hj0; omega
                have hdj : true = (false || decide (j = 0)) := by rw [Bool.false_or, eq_comm, decide_eq_true_iff]; exact hjz
                clear hjz
                have HE2 := Lib.hid fun v6 w6 h => HEnd.out true v6 w6 hdj h
                clear HEnd hdj
                go_wp2_with (at_builtin; refine app_tok rfl (.tmp 94) (.tmp 96) (by rfl) w4.heap.size (Nat.le_trans hbw.size (below_alloc _ _).size) _ (X0 ++ M.take j) (by rfl) (own_below hO.out (below_alloc _ _)) _ 1 ⟨t0, t1, t2, t3 + ((s.size : Int) + 1), true⟩ _ (by rfl) ?g1 rfl ?a1 hlenO ?_)
                case g1 => simp
                case a1 => rfl
                intro v6 w6 hO6 hb6
                have HO6 := Lib.hid (HE2.out _ _ hO6)
                have hb7 := (hbw.trans ((below_alloc wr _).mono hbw.size)).trans hb6
                clear hO6 hb6 hbw hO HE2
                go_wp2_with fail
                go_roundw
                case rel => exact ⟨j + 1, hlt, by go_num, HO6, hb7⟩
                case measure => simp [intOf]; omega
              | false =>
                have hjz : ¬ j = 0 := by rw [beq_eq_false_iff_ne] at hj0; omega
                have hdj : false = (false || decide (j = 0)) := by rw [Bool.false_or, eq_comm, decide_eq_false_iff_not]; exact hjz
                clear hjz
                have HE2 := Lib.hid fun v6 w6 h => HEnd.out false v6 w6 hdj h
                clear HEnd hdj
                go_wp2_with (at_builtin; refine app_tok rfl (.tmp 94) (.tmp 96) (by rfl) w4.heap.size (Nat.le_trans hbw.size (below_alloc _ _).size) _ (X0 ++ M.take j) (by rfl) (own_below hO.out (below_alloc _ _)) _ 1 ⟨t0, t1, t2, t3 + ((s.size : Int) + 1), false⟩ _ (by rfl) ?g1 rfl ?a1 hlenO ?_)
                case g1 => simp
                case a1 => rfl
                intro v6 w6 hO6 hb6
                have HO6 := Lib.hid (HE2.out _ _ hO6)
                have hb7 := (hbw.trans ((below_alloc wr _).mono hbw.size)).trans hb6
                clear hO6 hb6 hbw hO HE2
                go_wp2_with fail
                go_roundw
                case rel => exact ⟨j + 1, hlt, by go_num, HO6, hb7⟩
                case measure => simp [intOf]; omega
          · obtain rfl : j = y.length := by omega
            obtain ⟨A', c', rfl, _, hRB⟩ := hO.out.open
            have hfull : X0 ++ M.take y.length = Z := by rw [HZ.out, ← HML.out, List.take_length]
            rw [hfull] at hRB
            have hS := same_any _ _ Z Z c3 c' wr (HR4.out.below hbw) hRB hZl
            rw [same_yes rfl] at hS
            have HS := Lib.hid hS
            have hbx := Lib.hid (HB4.out.trans (hbw.mono HB4.out.size))
            rw [hfull]
            clear hRB hS hO hbw hfull
            go_wp2_with fail
            refine HS.out.mono ?_
            rintro e w6 ⟨rfl, hb6⟩
            have HB6 := Lib.hid (hbx.out.trans (hb6.mono hbx.out.size))
            clear hb6
            go_wp2_with fail
            go_ret
            exact ⟨rfl, HB6.out⟩
      · have h20 : 2000 < s.size ∨ 2000 < t.size := by omega
        clear hsz
        by_cases h2 : 2000 < s.size
        · have h2i : 2000 < (s.size : Int) := by omega
          clear h20
          go_enter Tryd.func8, Tryd.ntmps8
          go_wp2_with fail
          refine HL.out.mono ?_
          rintro e w1 ⟨rfl, hb1⟩
          have HB1 := Lib.hid hb1
          clear hb1
          go_wp2_with fail
          refine (HC.out _ (HVw.out _ HB1.out)).mono ?_
          rintro e w2 ⟨hb2, A, c, rfl, -, -, -⟩
          have HB2 := Lib.hid (HB1.out.trans (hb2.mono HB1.out.size))
          clear hb2
          go_wp2_with fail
          refine (HD.out _ (HVw.out _ HB2.out)).mono ?_
          rintro e w3 ⟨hb3, A2, c2, rfl, -, -, -⟩
          have HB3 := Lib.hid (HB2.out.trans (hb3.mono HB2.out.size))
          clear hb3
          go_wp2_with fail
          go_ret
          exact ⟨rfl, HB3.out⟩
        · have h2s : (s.size : Int) ≤ 2000 := by omega
          have h2i : 2000 < (t.size : Int) := by omega
          clear h20 h2
          go_enter Tryd.func8, Tryd.ntmps8
          go_wp2_with fail
          refine HL.out.mono ?_
          rintro e w1 ⟨rfl, hb1⟩
          have HB1 := Lib.hid hb1
          clear hb1
          go_wp2_with fail
          refine (HC.out _ (HVw.out _ HB1.out)).mono ?_
          rintro e w2 ⟨hb2, A, c, rfl, -, -, -⟩
          have HB2 := Lib.hid (HB1.out.trans (hb2.mono HB1.out.size))
          clear hb2
          go_wp2_with fail
          refine (HD.out _ (HVw.out _ HB2.out)).mono ?_
          rintro e w3 ⟨hb3, A2, c2, rfl, -, -, -⟩
          have HB3 := Lib.hid (HB2.out.trans (hb3.mono HB2.out.size))
          clear hb3
          go_wp2_with fail
          go_ret
          exact ⟨rfl, HB3.out⟩
end Go.Proofs.YtkaamaopjcaalaaDoor.T
