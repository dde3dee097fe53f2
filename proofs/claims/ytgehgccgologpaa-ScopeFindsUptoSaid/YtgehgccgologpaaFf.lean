/-
  The reference's decls and Vars. (gen_ff.py)
-/
import Derived.Test.YtgehgccgologpaaFe
namespace Go.Proofs.Ytgehgccgologpaa.Z
open Go.RowKit Go.Shelf Go.Proofs.Ytgehgccgologpaa Go.Proofs.Ytgehgccgologpaa.R Go.Proofs.Ytgehgccgologpaa.T

theorem strs_one (W : World) (s : ByteArray) : Strs (W.alloc (.cells #[.string s] 9)) (some ⟨W.heap.size, 0, none⟩) [s] := .inr ⟨_, 0, rfl, by simp, fun j hj => by
  have : j = 0 := by simpa using hj
  subst this
  simp⟩
theorem own_strs {w : World} {b n c : Nat} {A : Option Addr} {L : List ByteArray} (h : OwnT w b (.slice A n c) L) : Strs w A L := by
  obtain ⟨A', c', e, -, h2⟩ := h.form
  injection e with e1 e2 e3
  subst e1
  exact h2
theorem declV_fn {u : V} (h : u.k = 39 ∨ u.k = 10) : declV u = [] := by rw [declV_eq, if_pos ((isFn_iff u).2 h.symm)]
theorem declV_23 {u : V} (h : u.k = 23) : declV u = [u.nm] ++ decl u.l := by rw [declV_eq, if_neg (fun e => by have := (isFn_iff u).1 e; omega), if_pos h]
theorem declV_no {u : V} (h1 : ¬ u.k = 39) (h2 : ¬ u.k = 10) (h3 : ¬ u.k = 23) : declV u = decl u.l := by rw [declV_eq, if_neg (fun e => by have := (isFn_iff u).1 e; omega), if_neg h3, List.nil_append]
set_option maxRecDepth 20000 in
set_option maxHeartbeats 4000000 in
theorem rdecls_all (m : Nat) : ∀ (l : List V), V.sizes l = m → ∀ (A : Option Addr) (n c : Nat) (w : World), n = l.length → Row w A l → V.bulks l ≤ 4194304 →
    Calls Try.prog 32 #[.slice A n c] w fun e w' => ∃ A' c', e = .returned (.slice A' (decl l).length c') ∧ OwnT w' w.heap.size (.slice A' (decl l).length c') (decl l) ∧ Below w.heap.size w w' := by
  refine Nat.strongRecOn m fun m ih => ?_
  rintro l hm A n c w rfl hrow hb
  have hll : (l.length : Int) ≤ 4194304 := by have := length_le_bulks l; omega
  have HR := Lib.hid hrow
  have hO0 : OwnT w w.heap.size (.slice none 0 0) (decl (l.take 0)) := by
    rw [List.take_zero, decl]
    exact ⟨rfl, .inl ⟨rfl, rfl⟩⟩
  have HO0 := Lib.hid hO0
  have h0 : (decl (l.take 0)).length = 0 := by rw [List.take_zero, decl]; rfl
  have HZ0 := Lib.hid h0
  have HSN := Lib.hid (decls_snoc l)
  have hdl := Nat.le_trans (decl_ln l) hb
  have HTK := Lib.hid fun j => Nat.le_trans (decl_tk l j) hdl
  have HIHA := Lib.hid fun (j : Nat) (hj : j < l.length) (A' : Option Addr) (c' : Nat) (w' : World) (hr : Row w' A' l[j].l) =>
    ih (V.sizes l[j].l) (by
      have h1 := sizes_cut (l := l) hj
      have h2 : V.sizes (l.drop j) ≤ V.sizes l := by
        have := sizes_append (l.take j) (l.drop j)
        rw [List.take_append_drop] at this
        omega
      omega) l[j].l rfl A' _ c' w' rfl hr (by
        have h1 := bulk_le_of_mem (List.getElem_mem hj)
        have h2 := bulk_ge l[j]
        omega)
  have HLUA := Lib.hid fun (j : Nat) (hj : j < l.length) => show (decl l[j].l).length ≤ 4194304 from by
    have h1 := bulk_le_of_mem (List.getElem_mem hj)
    have h2 := bulk_ge l[j]
    have h3 := decl_ln l[j].l
    omega
  clear hrow hb hO0 h0 hdl ih hm
  go_enter Try.func32, Try.ntmps32
  go_wp2_with fail
  go_loopw [3, 8] (fun v i wr => ∃ (j : Nat) (A2 : Option Addr) (c2 : Nat), i = .int .i64 j ∧ v = .slice A2 (decl (l.take j)).length c2 ∧ j ≤ l.length ∧ Hid (OwnT wr w.heap.size (.slice A2 (decl (l.take j)).length c2) (decl (l.take j))) ∧ Hid (Below w.heap.size w wr)) (fun _ i _ => l.length - (intOf i).toNat)
  case atStart => exact ⟨0, none, 0, rfl, by rw [HZ0.out], Nat.zero_le _, Lib.hid (by rw [HZ0.out]; exact HO0.out), Lib.hid (Below.refl _ _)⟩
  case round =>
    obtain ⟨j, A2, c2, rfl, rfl, hj, HO, HB⟩ := hrel
    by_cases hlt : j < l.length
    · obtain ⟨g, o, rfl, hg, y, hat, hy⟩ := (RowB.to HR.out HB.out (Nat.le_refl _)).at_ hlt
      have HS := Lib.hid (HSN.out j hlt)
      have HLN := Lib.hid (HTK.out j)
      have HLU := Lib.hid (HLUA.out j hlt)
      have HIH1 := Lib.hid (HIHA.out j hlt)
      generalize l[j] = u at *
      obtain ⟨L, hL⟩ : ∃ L, decl (l.take j) = L := ⟨_, rfl⟩
      rw [hL] at HS HLN HO ⊢
      clear hL
      have hb1 := below_alloc wr (.cells y.cells 25)
      have HBX := Lib.hid (Bx.new wr y)
      obtain ⟨yka, ykc, yla, ylc, rfl, -, -, -, hyr⟩ := hy.open
      have HIH := Lib.hid fun w' (h : Below w.heap.size wr w') => HIH1.out yla ylc w' ((hyr.to h (Nat.le_refl _)).to (Below.refl _ _) (Nat.le_trans HB.out.size h.size))
      obtain ⟨d0, d1, d2, d3, d4, d5⟩ := hat.six
      dsimp only [X.cells] at hb1 HBX
      have HB2 := Lib.hid (HB.out.trans (hb1.mono HB.out.size))
      have HO2 := Lib.hid (low_own HO.out hb1)
      have hjI : (j : Int) < (l.length : Int) := by omega
      clear hy hat hb1 hg hyr HIH1
      go_upto_region 5 with (fail)
      obtain ⟨W1, hW1⟩ : ∃ W1, wr.alloc (.cells #[.int .i64 u.k, .string u.nm, .int .i64 u.n, .string u.s, .slice yka u.ks.length ykc, .slice yla u.l.length ylc] 25) = W1 := ⟨_, rfl⟩
      rw [hW1] at HBX HB2 HO2 ⊢
      clear hW1 d0 d1 d2 d3 d4 d5
      by_cases h39 : u.k = 39
      · have hq := beqT h39
        have he : decl (l.take (j + 1)) = L := by rw [HS.out, declV_fn (.inl h39), List.append_nil]
        have HE := Lib.hid he
        obtain ⟨c0, c1, c2', c3, c4, c5⟩ := HBX.out.at'.six
        clear h39 he HS HIH
        go_wp2_with fail
        go_roundw
        case rel => exact ⟨j + 1, A2, c2, by go_num, by rw [HE.out], by omega, Lib.hid (by rw [HE.out]; exact HO2.out), HB2⟩
        case measure => simp [intOf]; omega
      by_cases h10 : u.k = 10
      · have hq := beqF h39
        have hq2 := beqT h10
        have he : decl (l.take (j + 1)) = L := by rw [HS.out, declV_fn (.inr h10), List.append_nil]
        have HE := Lib.hid he
        obtain ⟨c0, c1, c2', c3, c4, c5⟩ := HBX.out.at'.six
        clear h39 h10 he HS HIH
        go_wp2_with fail
        go_roundw
        case rel => exact ⟨j + 1, A2, c2, by go_num, by rw [HE.out], by omega, Lib.hid (by rw [HE.out]; exact HO2.out), HB2⟩
        case measure => simp [intOf]; omega
      have hq := beqF h39
      have hq2 := beqF h10
      by_cases h23 : u.k = 23
      · have hq3 := beqT h23
        have HDV := Lib.hid (declV_23 h23)
        have hb5 := below_alloc W1 (.cells #[.string u.nm] 9)
        have HB5 := Lib.hid (HB2.out.trans (hb5.mono HB2.out.size))
        have HO5 := Lib.hid (low_own HO2.out hb5)
        have HX5 := Lib.hid (HBX.out.low hb5)
        have HS5 := Lib.hid (strs_one W1 u.nm)
        obtain ⟨c0, c1, c2', c3, c4, c5⟩ := HBX.out.at'.six
        clear h39 h10 h23 hb5
        go_wp2_with (at_builtin; refine app_T rfl (.tmp 23) (.tmp 26) (by rfl) w.heap.size _ L (by rfl) HO5.out (some ⟨W1.heap.size, 0, none⟩) 1 1 [u.nm] (by rfl) rfl HS5.out (by have := HLN.out; simp only [List.length_cons, List.length_nil]; omega) HB5.out.size ?_)
        intro v5 w6 h1 h2
        have hlw := grownN h2 HB5.out.size fun k hk => (World.ownsRow.lt HO5.out k hk).1
        have HB6 := Lib.hid (HB5.out.trans hlw)
        have HO6 := Lib.hid h1
        obtain ⟨A6, c6, rfl, -, -⟩ := OwnT.form h1
        have HX6 : Hid (w6.heap[wr.heap.size]? = some (.cells (X.cells ⟨u.k, u.nm, u.n, u.s, yka, u.ks.length, ykc, yla, u.l.length, ylc⟩) 25)) := (h2.block _ HX5.out.lt fun e => by
          have := (World.ownsRow.lt HO.out _ e.symm).2
          omega).trans HX5.out.bx
        have HLW6 : Hid (Below w.heap.size wr w6) := (HX5.out.bl.mono HB.out.size).trans hlw
        have HN2 : Hid ((L ++ [u.nm]).length ≤ 4194305) := by
          show _ ≤ _
          have := HLN.out
          rw [List.length_append, List.length_singleton]
          omega
        have HDV2 : Hid (L ++ declV u = (L ++ [u.nm]) ++ decl u.l) := by show _ = _; rw [HDV.out, List.append_assoc]
        generalize L ++ [u.nm] = L2 at *
        clear h1 h2 hlw HO5 HB5 HX5 HS5 c0 c1 c2' c3 c4 c5
        obtain ⟨c0, c1, c2', c3, c4, c5⟩ := (box_at HX6.out).six
        go_wp2_with fail
        refine (HIH.out w6 HLW6.out).mono ?_
        rintro e w7 ⟨A7, c7, rfl, hst7, hb7⟩
        have HST7 := Lib.hid (own_strs hst7)
        have HO7 := Lib.hid (low_own HO6.out hb7)
        have HB7 := Lib.hid (HB6.out.trans (hb7.mono HB6.out.size))
        clear hst7 hb7 c0 c1 c2' c3 c4 c5
        go_wp2_with (at_builtin; refine app_T rfl (.tmp 28) (.tmp 31) (by rfl) w.heap.size _ (L2) (by rfl) HO7.out A7 _ c7 (decl u.l) (by rfl) rfl HST7.out (by have := HN2.out; have := HLU.out; omega) HB7.out.size ?_)
        intro v' w9 h1 h2
        have hb9 : Below w.heap.size w w9 := HB7.out.trans (grownN h2 HB7.out.size fun k hk => (World.ownsRow.lt HO7.out k hk).1)
        have he : (L2) ++ decl u.l = decl (l.take (j + 1)) := by rw [HS.out, HDV2.out]
        rw [he] at h1
        obtain ⟨A9, c9, rfl, -, -⟩ := OwnT.form h1
        have HO9 := Lib.hid h1
        have HB9 := Lib.hid hb9
        clear h1 h2 hb9 he HO7 HB7 HST7 HIH HS
        go_wp2_with fail
        go_roundw
        case rel => exact ⟨j + 1, A9, c9, by go_num, rfl, by omega, HO9, HB9⟩
        case measure => simp [intOf]; omega
      · have hq3 := beqF h23
        have HDV := Lib.hid (declV_no h39 h10 h23)
        have HX6 := Lib.hid HBX.out.bx
        have HLW6 := Lib.hid (HBX.out.bl.mono HB.out.size)
        clear h39 h10 h23
        obtain ⟨c0, c1, c2', c3, c4, c5⟩ := (box_at HX6.out).six
        go_wp2_with fail
        refine (HIH.out W1 HLW6.out).mono ?_
        rintro e w7 ⟨A7, c7, rfl, hst7, hb7⟩
        have HST7 := Lib.hid (own_strs hst7)
        have HO7 := Lib.hid (low_own HO2.out hb7)
        have HB7 := Lib.hid (HB2.out.trans (hb7.mono HB2.out.size))
        clear hst7 hb7 c0 c1 c2' c3 c4 c5
        go_wp2_with (at_builtin; refine app_T rfl (.tmp 28) (.tmp 31) (by rfl) w.heap.size _ (L) (by rfl) HO7.out A7 _ c7 (decl u.l) (by rfl) rfl HST7.out (by have := HLN.out; have := HLU.out; omega) HB7.out.size ?_)
        intro v' w9 h1 h2
        have hb9 : Below w.heap.size w w9 := HB7.out.trans (grownN h2 HB7.out.size fun k hk => (World.ownsRow.lt HO7.out k hk).1)
        have he : (L) ++ decl u.l = decl (l.take (j + 1)) := by rw [HS.out, HDV.out]
        rw [he] at h1
        obtain ⟨A9, c9, rfl, -, -⟩ := OwnT.form h1
        have HO9 := Lib.hid h1
        have HB9 := Lib.hid hb9
        clear h1 h2 hb9 he HO7 HB7 HST7 HIH HS
        go_wp2_with fail
        go_roundw
        case rel => exact ⟨j + 1, A9, c9, by go_num, rfl, by omega, HO9, HB9⟩
        case measure => simp [intOf]; omega
    · obtain rfl : j = l.length := by omega
      rw [List.take_length] at HO ⊢
      go_wp2_with fail
      go_ret
      exact ⟨A2, c2, rfl, HO.out, HB.out⟩
theorem unq_take (D : List ByteArray) (j : Nat) (h : j < D.length) : unq (D.take (j + 1)) = if hasB (unq (D.take j)) D[j] then unq (D.take j) else unq (D.take j) ++ [D[j]] := by
  rw [List.take_succ_eq_append_getElem h, unq_snoc]
  rfl
theorem unq_tl (D : List ByteArray) (j : Nat) : (unq (D.take j)).length ≤ D.length := by
  have h := unq_len (D.take j)
  rw [List.length_take] at h
  omega
set_option maxRecDepth 20000 in
set_option maxHeartbeats 4000000 in
theorem rvars_any (l : List V) (A : Option Addr) (n c : Nat) (w : World) (hn : n = l.length) (hrow : Row w A l) (hb : V.bulks l ≤ 4194304) :
    Calls Try.prog 17 #[.slice A n c] w fun e w' => ∃ A' c', e = .returned (.slice A' (vars l).length c') ∧ Strs w' A' (vars l) ∧ Below w.heap.size w w' := by
  have HC := Lib.hid (rdecls_all (V.sizes l) l rfl A n c w hn hrow hb)
  have hdl := Nat.le_trans (decl_ln l) hb
  have hdI : ((decl l).length : Int) ≤ 4194304 := by omega
  have HV : Hid (vars l = unq (decl l)) := rfl
  obtain ⟨D, hD⟩ : ∃ D, decl l = D := ⟨_, rfl⟩
  rw [hD] at HC hdl hdI HV
  rw [HV.out]
  have HUT := Lib.hid (unq_take D)
  have HUL := Lib.hid fun j => Nat.le_trans (unq_tl D j) hdl
  clear hn hrow hb hD HV hdl
  go_enter Try.func17, Try.ntmps17
  go_wp2_with fail
  refine HC.out.mono ?_
  rintro e w1 ⟨A1, c1, rfl, ho1, hb1⟩
  have HS1 := Lib.hid (own_strs ho1)
  have HB1 := Lib.hid hb1
  clear ho1 hb1 HC
  go_wp2_with fail
  go_loopw [3, 9] (fun v i wr => ∃ (j : Nat) (A2 : Option Addr) (c2 : Nat), i = .int .i64 j ∧ v = .slice A2 (unq (D.take j)).length c2 ∧ j ≤ D.length ∧ Hid (OwnT wr w1.heap.size (.slice A2 (unq (D.take j)).length c2) (unq (D.take j))) ∧ Hid (Below w1.heap.size w1 wr)) (fun _ i _ => D.length - (intOf i).toNat)
  case atStart => exact ⟨0, none, 0, rfl, rfl, Nat.zero_le _, Lib.hid ⟨rfl, .inl ⟨rfl, rfl⟩⟩, Lib.hid (Below.refl _ _)⟩
  case round =>
    obtain ⟨j, A2, c2, rfl, rfl, hj, HO, HB⟩ := hrel
    by_cases hlt : j < D.length
    · obtain ⟨g, o, rfl, hg, d1⟩ := (HS1.out.below HB.out).at_ hlt
      have HN := Lib.hid (HUT.out j hlt)
      have HL := Lib.hid (HUL.out j)
      have HSO := Lib.hid (own_strs HO.out)
      generalize D[j] = s at *
      obtain ⟨L, hL⟩ : ∃ L, unq (D.take j) = L := ⟨_, rfl⟩
      rw [hL] at HN HL HO HSO ⊢
      clear hL
      have HH := Lib.hid (has_any L A2 _ c2 s wr HSO.out rfl HL.out)
      cases hh : hasB L s with
      | true =>
        rw [hh] at HH HN
        have HE : Hid (unq (D.take (j + 1)) = L) := by show _ = _; rw [HN.out, if_pos rfl]
        clear hh HN
        go_wp2_with fail
        refine HH.out.mono ?_
        rintro e w3 ⟨rfl, rfl⟩
        go_wp2_with fail
        go_roundw
        case rel => exact ⟨j + 1, A2, c2, by go_num, by rw [HE.out], by omega, Lib.hid (by rw [HE.out]; exact HO.out), HB⟩
        case measure => simp [intOf]; omega
      | false =>
        rw [hh] at HH HN
        have HE : Hid (unq (D.take (j + 1)) = L ++ [s]) := by show _ = _; rw [HN.out, if_neg (by decide)]
        have hb5 := below_alloc wr (.cells #[.string s] 9)
        have HB5 := Lib.hid (HB.out.trans (hb5.mono HB.out.size))
        have HO5 := Lib.hid (low_own HO.out hb5)
        have HS5 := Lib.hid (strs_one wr s)
        clear hh HN hb5
        go_wp2_with fail
        refine HH.out.mono ?_
        rintro e w3 ⟨rfl, rfl⟩
        go_wp2_with (at_builtin; refine app_T rfl (.tmp 17) (.tmp 19) (by rfl) w1.heap.size _ L (by rfl) HO5.out (some ⟨wr.heap.size, 0, none⟩) 1 1 [s] (by rfl) rfl HS5.out (by have := HL.out; simp only [List.length_cons, List.length_nil]; omega) HB5.out.size ?_)
        intro v5 w6 h1 h2
        rw [← HE.out] at h1
        have HB6 := Lib.hid (HB5.out.trans (grownN h2 HB5.out.size fun k hk => (World.ownsRow.lt HO5.out k hk).1))
        obtain ⟨A6, c6, rfl, -, -⟩ := OwnT.form h1
        have HO6 := Lib.hid h1
        clear h1 h2 HO5 HB5 HS5 HH
        go_wp2_with fail
        go_roundw
        case rel => exact ⟨j + 1, A6, c6, by go_num, rfl, by omega, HO6, HB6⟩
        case measure => simp [intOf]; omega
    · obtain rfl : j = D.length := by omega
      rw [List.take_length] at HO ⊢
      have HE := Lib.hid (HB1.out.trans (HB.out.mono HB1.out.size))
      go_wp2_with fail
      go_ret
      exact ⟨A2, c2, rfl, own_strs HO.out, HE.out⟩
end Go.Proofs.Ytgehgccgologpaa.Z
