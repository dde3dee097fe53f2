/-
  The reference's Funcs, decls, Vars.
-/
import Derived.Test.YtgehgccgologpaaFd
import Derived.Test.YtgehgccgologpaaYa
namespace Go.Proofs.Ytgehgccgologpaa.Z
open Go.RowKit Go.Shelf Go.Proofs.Ytgehgccgologpaa Go.Proofs.Ytgehgccgologpaa.R Go.Proofs.Ytgehgccgologpaa.T

theorem run_zn {P : Program} {w : World} (t ty e : TypeId) (i : TypeInfo) (ht : P.underlying t = some (.slice e)) (hi : P.info? e = some i) (A : Option Addr) (n c c' : Nat) (hc : n ≤ c) :
    (Builtin.append_ #[t, t] ty #[.slice A n c, .slice none 0 c']).run P w = .ok (.slice A n c) w := by
  cases A <;> simp [Builtin.append_, run_underlying ht, sizeOf, typeInfo, hi, Builtin.lenOf, Builtin.firstCells, loadCells, hc, storeCells]
/-- append of names in a plain statement -/
theorem app_T {w : World} {ops : Array Oper} {rest : List Oper} {o : Oper} {a : Act} {Q : Exit → Act → World → Prop} (hgd : o.guard = none) (sl x : Operand)
    (ho : o.op = .call { callee := .builtin .append, args := #[sl, x], argTypes := #[22, 22] })
    (b : Nat) (v : Value) (L : List ByteArray) (hs : a.eval sl = v) (hown : OwnT w b v L) (A : Option Addr) (n c : Nat) (M : List ByteArray) (hx : a.eval x = .slice A n c) (hn : n = M.length) (hA : Strs w A M)
    (hlim : L.length + M.length ≤ 16777216) (hb : b ≤ w.heap.size)
    (h : ∀ v' w', OwnT w' b v' (L ++ M) → w.grownBy w' v.ownBlock → wpList Try.prog ops Q rest (a.put o.dst v') w') : wpList Try.prog ops Q (o :: rest) a w := by
  obtain ⟨i0, hi0, hz0, hz1, hz2⟩ := info_parts infoSt
  subst hn
  rcases A with _ | ad
  · obtain rfl : M = [] := by
      rcases hA with h | ⟨_, _, e, _⟩
      · exact h
      · cases e
    obtain ⟨A', c', rfl, hc, -⟩ := hown.form
    have hrun := run_zn (P := Try.prog) (w := w) 22 o.type 9 i0 (by kernel_rfl) hi0 A' L.length c' c hc
    refine wpList_plain hgd fun K hK => ?_
    unfold Oper.wp execOp
    simp only [ho, resolve, invoke, builtin, Sem.run_bind, Sem.run_pure, Result.andThen_ok, List.map_toArray, List.map_cons, List.map_nil, hs, hx, List.length_nil, hrun]
    exact hK _ _ (h _ w (by rw [List.append_nil]; exact hown) ⟨rfl, rfl, rfl, Nat.le_refl _, fun _ _ _ => rfl⟩)
  · refine wpList_append_own_at w hgd sl x 22 ho b 9 i0 _ 1 16 (by kernel_rfl) hi0 hz0 hz1 hz2 rfl (by decide) v L.length (strV L) hs hown ad M.length c (strV M) hx (by simp)
      (fun j u hj => ?_) (fun u hu => by obtain ⟨s, -, rfl⟩ := List.mem_map.1 hu; rfl) (by unfold maxLen; omega) (by omega) hb fun v' w' h1 h2 _ _ => h v' w' ?_ h2
    · obtain ⟨hj1, hj2⟩ := List.getElem?_eq_some_iff.1 hj
      rw [List.length_map] at hj1
      rcases hA with e | ⟨g, o', e, _, hc⟩
      · subst e; simp at hj1
      · cases e
        rw [add_lit, hc j hj1, ← hj2, List.getElem_map]
    · show World.ownsRow _ _ _ _ _ _ _
      rw [List.length_append, strV, List.map_append]
      exact h1
set_option maxRecDepth 20000 in
set_option maxHeartbeats 4000000 in
theorem rfuncs_any (l : List V) (A : Option Addr) (n c : Nat) (w : World) (hn : n = l.length) (hrow : Row w A l) (hb : V.bulks l ≤ 4194304) :
    Calls Try.prog 13 #[.slice A n c] w fun e w' => ∃ A' c', e = .returned (.slice A' (fcs l).length c') ∧ (fcs l).length ≤ c' ∧ Row w' A' (fcs l) ∧ Below w.heap.size w w' := by
  subst hn
  have hll : (l.length : Int) ≤ 4194304 := by have := length_le_bulks l; omega
  have HR := Lib.hid hrow
  have HX0 : Hid (XsIs w w.heap.size [] (fcs (l.take 0))) := ⟨by rw [List.take_zero]; rfl, fun i h => by rw [List.take_zero] at h; exact absurd h (Nat.not_lt_zero _)⟩
  have HSN := Lib.hid (fcs_snoc l)
  clear hrow hb
  go_enter Try.func13, Try.ntmps13
  go_wp2_with fail
  go_loopw [3, 8] (fun v i wr => ∃ (j : Nat) (A2 : Option Addr) (c2 : Nat) (ys : List X), i = .int .i64 j ∧ v = .slice A2 ys.length c2 ∧ j ≤ l.length ∧ Hid (OwnX wr w.heap.size (.slice A2 ys.length c2) ys) ∧ Hid (XsIs wr w.heap.size ys (fcs (l.take j))) ∧ Hid (Below w.heap.size w wr)) (fun _ i _ => l.length - (intOf i).toNat)
  case atStart => exact ⟨0, none, 0, [], rfl, rfl, Nat.zero_le _, Lib.hid (ownX_nil _ _), HX0, Lib.hid (Below.refl _ _)⟩
  case round =>
    obtain ⟨j, A2, c2, ys, rfl, rfl, hj, HO, HX, HB⟩ := hrel
    by_cases hlt : j < l.length
    · obtain ⟨g, o, rfl, hg, y, hat, hy⟩ := (RowB.to HR.out HB.out (Nat.le_refl _)).at_ hlt
      have HS := Lib.hid (HSN.out j hlt)
      have hyl : ys.length ≤ 4194304 := by
        have h1 := HX.out.1
        have h2 : (fcs (l.take j)).length ≤ (l.take j).length := List.length_filter_le _ _
        rw [List.length_take] at h2
        omega
      have HYL := Lib.hid hyl
      generalize l[j] = u at *
      have hb1 := below_alloc wr (.cells y.cells 25)
      have HY := Lib.hid hy
      have HBX := Lib.hid (Bx.new wr y)
      obtain ⟨yka, ykc, yla, ylc, rfl, -, -, -, -⟩ := hy.open
      obtain ⟨d0, d1, d2, d3, d4, d5⟩ := hat.six
      dsimp only [X.cells] at hb1 HBX
      have hb2 := HB.out.trans (hb1.mono HB.out.size)
      have HB2 := Lib.hid hb2
      have HO2 := Lib.hid (low_own HO.out hb1)
      have HX2 := Lib.hid (HX.out.low (hb1.mono HB.out.size))
      have hjI : (j : Int) < (l.length : Int) := by omega
      clear hy hat hb1 hb2 hg hyl
      go_upto_region 5 with (fail)
      obtain ⟨W1, hW1⟩ : ∃ W1, wr.alloc (.cells #[.int .i64 u.k, .string u.nm, .int .i64 u.n, .string u.s, .slice yka u.ks.length ykc, .slice yla u.l.length ylc] 25) = W1 := ⟨_, rfl⟩
      rw [hW1] at HBX HB2 HO2 HX2 ⊢
      clear hW1 d0 d1 d2 d3 d4 d5
      obtain ⟨c0, c1, c2', c3, c4, c5⟩ := HBX.out.at'.six
      by_cases h39 : u.k = 39
      · have hq := beqT h39
        have HS2 : Hid (fcs (l.take (j + 1)) = fcs (l.take j) ++ [u]) := by show _ = _; rw [HS.out, if_pos h39]
        clear HS h39
        have hb3 := below_alloc W1 (.cells (X.cells ⟨u.k, u.nm, u.n, u.s, yka, u.ks.length, ykc, yla, u.l.length, ylc⟩) 25)
        have HB3 := Lib.hid (HB2.out.trans (hb3.mono HB2.out.size))
        have HO3 := Lib.hid (low_own HO2.out hb3)
        have HX3 := Lib.hid (HX2.out.low (hb3.mono HB2.out.size))
        have HAT : Hid (∀ j v, (flatX [(⟨u.k, u.nm, u.n, u.s, yka, u.ks.length, ykc, yla, u.l.length, ylc⟩ : X)])[j]? = some v → (W1.alloc (.cells (X.cells ⟨u.k, u.nm, u.n, u.s, yka, u.ks.length, ykc, yla, u.l.length, ylc⟩) 25)).cell? ((⟨W1.heap.size, 0, none⟩ : Addr).add j) = some v) := fun i v h => by
          rw [add_lit]
          exact flatX_news (w := W1.alloc (.cells (X.cells ⟨u.k, u.nm, u.n, u.s, yka, u.ks.length, ykc, yla, u.l.length, ylc⟩) 25)) (g := W1.heap.size) [⟨u.k, u.nm, u.n, u.s, yka, u.ks.length, ykc, yla, u.l.length, ylc⟩] 0 (fun i hi => by
            have : i = 0 := by simpa using hi
            subst this
            exact at_new _ _) i v h
        have HLW : Hid (w.heap.size ≤ (W1.alloc (.cells (X.cells ⟨u.k, u.nm, u.n, u.s, yka, u.ks.length, ykc, yla, u.l.length, ylc⟩) 25)).heap.size) := HB3.out.size
        have HYW : Hid (Below w.heap.size wr W1) := HBX.out.bl.mono HB.out.size
        dsimp only [X.cells] at HB3 HO3 HX3 HAT HLW hb3
        have HB4 := Lib.hid (hb3.mono HB2.out.size)
        clear hb3
        go_wp2_with (at_builtin; refine app_X rfl (.tmp 15) (.tmp 17) (by rfl) w.heap.size _ ys (by rfl) HO3.out ⟨W1.heap.size, 0, none⟩ 1 1 [⟨u.k, u.nm, u.n, u.s, yka, u.ks.length, ykc, yla, u.l.length, ylc⟩] (by rfl) rfl HAT.out (by have := HYL.out; simp only [List.length_cons, List.length_nil]; omega) HLW.out ?_)
        intro v' w9 h1 h2 _
        have hlw := grownN h2 HB3.out.size fun k hk => (HO3.out.lt k hk).1
        have hb9 : Below w.heap.size w w9 := HB3.out.trans hlw
        obtain ⟨A9, c9, rfl⟩ : ∃ A9 c9, v' = .slice A9 (ys ++ [(⟨u.k, u.nm, u.n, u.s, yka, u.ks.length, ykc, yla, u.l.length, ylc⟩ : X)]).length c9 := by
          rcases h1.2 with ⟨rfl, h0⟩ | ⟨g, cap, cur, rfl, _⟩
          · exact ⟨none, 0, by rw [h0]⟩
          · exact ⟨_, _, rfl⟩
        have HO9 := Lib.hid h1
        have HB9 := Lib.hid hb9
        have HX9 : Hid (XsIs w9 w.heap.size (ys ++ [(⟨u.k, u.nm, u.n, u.s, yka, u.ks.length, ykc, yla, u.l.length, ylc⟩ : X)]) (fcs (l.take (j + 1)))) := by
          rw [HS2.out]
          refine XsIs.app (HX3.out.low hlw) ⟨rfl, fun i hi => ?_⟩
          have : i = 0 := by simpa using hi
          subst this
          exact ⟨_, rfl, HY.out.to (HYW.out.trans (HB4.out.trans hlw)) (Nat.le_refl _)⟩
        clear h1 h2 hb9 hlw HB3 HB4 HYW HO3 HX3 HAT HLW HY HS2 HBX HO2 HX2 HB2 c0 c1 c2' c3 c4 c5 HYL HO HX HB
        go_wp2_with fail
        go_roundw
        case rel => exact ⟨j + 1, A9, c9, _, by go_num, rfl, by omega, HO9, HX9, HB9⟩
        case measure => simp [intOf]; omega
      · have hq := beqF h39
        have HS2 : Hid (fcs (l.take (j + 1)) = fcs (l.take j)) := by show _ = _; rw [HS.out, if_neg h39, List.append_nil]
        have HX9 : Hid (XsIs W1 w.heap.size ys (fcs (l.take (j + 1)))) := by rw [HS2.out]; exact HX2
        clear HS h39 HS2 HX2
        go_wp2_with fail
        go_roundw
        case rel => exact ⟨j + 1, A2, c2, ys, by go_num, rfl, by omega, HO2, HX9, HB2⟩
        case measure => simp [intOf]; omega
    · obtain rfl : j = l.length := by omega
      rw [List.take_length] at HX
      have HL : Hid (ys.length = (fcs l).length) := HX.out.1
      have HRW : Hid (∃ A' c', Value.slice A2 ys.length c2 = .slice A' (fcs l).length c' ∧ (fcs l).length ≤ c' ∧ Row wr A' (fcs l)) := by
        have hon : OwnN wr w.heap.size w.heap.size (.slice A2 ys.length c2) (fcs l) := ⟨ys, HX.out, by rw [← HX.out.1]; exact HO.out⟩
        exact hon.row HB.out.size
      clear HX HO
      go_wp2_with fail
      go_ret
      obtain ⟨A', c', e, h1, h2⟩ := HRW.out
      exact ⟨A', c', congrArg Ending.returned e, h1, h2, HB.out⟩
theorem decls_snoc (l : List V) (j : Nat) (h : j < l.length) : decl (l.take (j + 1)) = decl (l.take j) ++ declV l[j] := by
  rw [List.take_succ_eq_append_getElem h, decl_append, decl_cons]
  show _ ++ (declV l[j] ++ decl []) = _
  rw [decl, List.append_nil]
theorem decl_ln (l : List V) : (decl l).length ≤ V.bulks l := by
  refine Nat.le_trans ?_ (sizes_le_bulks l)
  rw [← nms_wi [] l]
  unfold nms
  rw [List.length_map]
  exact Nat.le_trans (List.length_filter_le _ _) (len_wi [] l)
theorem decl_tk (l : List V) (j : Nat) : (decl (l.take j)).length ≤ (decl l).length := by
  have h := decl_append (l.take j) (l.drop j)
  rw [List.take_append_drop] at h
  rw [h, List.length_append]
  omega
end Go.Proofs.Ytgehgccgologpaa.Z
