/-
  Vars.
-/
import Derived.Test.YtgehgccgologpaaZj
import Derived.Test.YtgehgccgologpaaWr
namespace Go.Proofs.Ytgehgccgologpaa.Z
open Go.RowKit Go.Shelf Go.Maps Go.WideMaps Go.Proofs.Ytgehgccgologpaa Go.Proofs.Ytgehgccgologpaa.R Go.Proofs.Ytgehgccgologpaa.T
attribute [local go_sem] Oper.semAt_some

/-- the blocks ahead of the loop -/
theorem iv_start (w : World) (A : Option Addr) (n c : Nat) : ∃ W0, (((((w.alloc (.cells #[.slice none 0 0] 22)).alloc (.map #[] 0)).alloc (.cells #[.map (some (w.heap.size + 1))] 48))).alloc (.cells #[.slice A n c] 23)) = W0 ∧ W0.heap.size = w.heap.size + 4 ∧ Iv w [] W0 ∧ W0.cell? ⟨w.heap.size + 3, 0, none⟩ = some (.slice A n c) := by
  obtain ⟨W0, hW0⟩ : ∃ W0, (((((w.alloc (.cells #[.slice none 0 0] 22)).alloc (.map #[] 0)).alloc (.cells #[.map (some (w.heap.size + 1))] 48))).alloc (.cells #[.slice A n c] 23)) = W0 := ⟨_, rfl⟩
  have h0 : W0.heap[w.heap.size]? = some (.cells #[.slice none 0 0] 22) := by
    rw [← hW0]
    show ((((w.heap.push _).push _).push _).push _)[w.heap.size]? = _
    rw [Array.getElem?_push, if_neg (by simp; omega), Array.getElem?_push, if_neg (by simp; omega), Array.getElem?_push, if_neg (by simp), Array.getElem?_push, if_pos rfl]
  have h1 : W0.heap[w.heap.size + 1]? = some (.map #[] 0) := by
    rw [← hW0]
    show ((((w.heap.push _).push _).push _).push _)[w.heap.size + 1]? = _
    rw [Array.getElem?_push, if_neg (by simp), Array.getElem?_push, if_neg (by simp), Array.getElem?_push, if_pos (by simp)]
  have h2 : W0.heap[w.heap.size + 2]? = some (.cells #[.map (some (w.heap.size + 1))] 48) := by
    rw [← hW0]
    show ((((w.heap.push _).push _).push _).push _)[w.heap.size + 2]? = _
    rw [Array.getElem?_push, if_neg (by simp), Array.getElem?_push, if_pos (by simp)]
  have h3 : W0.heap[w.heap.size + 3]? = some (.cells #[.slice A n c] 23) := by
    rw [← hW0]
    show ((((w.heap.push _).push _).push _).push _)[w.heap.size + 3]? = _
    rw [Array.getElem?_push, if_pos (by simp)]
  refine ⟨W0, hW0, by rw [← hW0]; simp, ⟨⟨.slice none 0 0, by simp [World.cell?, h0], ⟨rfl, .inl ⟨rfl, rfl⟩⟩, (fun e => by cases e), (fun e => by cases e)⟩, by simp [World.frozen?, h0], by simp [World.cell?, h2], ?_, ?_⟩, by simp [World.cell?, h3]⟩
  · obtain ⟨es, clock, h5, F, h6, hD⟩ := World.ownsMap_made (H := Unit) w Try.prog 9 unitElem
    have : (w.alloc (.map #[] 0)).heap[w.heap.size]? = some (.map #[] 0) := World.alloc_heap_new w _
    rw [this] at h5
    cases h5
    exact ⟨#[], 0, h1, F, h6, hD⟩
  · rw [← hW0]
    exact (((below_alloc w _).alloc (by simp) _).alloc (by simp; omega) _).alloc (by simp; omega) _
set_option maxRecDepth 40000 in
set_option maxHeartbeats 4000000 in
theorem vars_any (l : List V) (A : Option Addr) (c : Nat) (w : World) (hrow : Row w A l) (hlc : l.length ≤ c) (hb : V.bulks l ≤ 4194304) :
    Calls Try.prog 16 #[.slice A l.length c] w fun e w' => ∃ nv, e = .returned nv ∧ OwnT w' w.heap.size nv (vars l) ∧ Below w.heap.size w w' := by
  have HW := Lib.hid (within_any A l.length c)
  have HT := Lib.hid (iv_start w A l.length c)
  have HR := Lib.hid hrow
  have HLC := Lib.hid hlc
  have HBK := Lib.hid hb
  have hmm := @run_makeMap Try.prog
  clear hrow hlc hb
  refine (callsIn_wide (n := 9)).1 ?_
  refine callsIn_of_wp_marks Try.func16 rfl trivial ?_ rfl
  simp only [Try.ntmps16, List.size_toArray, List.length_cons, List.length_nil, Nat.reduceAdd, Nat.reduceSub, Array.replicate_succ, Array.replicate_zero, List.push_toArray, List.append_toArray, List.nil_append, List.cons_append]
  gi_wp2_with fail
  refine ⟨trivial, (callsIn_wide.2 (HW.out _)).mono ?_⟩
  rintro e w1 ⟨rfl, rfl⟩
  gi_wp2_with fail
  obtain ⟨W0, hW0, hz, hiv, hbx⟩ := HT.out
  rw [hW0]
  have hb0 := hiv.bl
  have HIV := Lib.hid hiv
  have HZ := Lib.hid hz
  have hn8 : 1 ≤ 8 := by omega
  clear hW0 HT HW hmm hiv
  refine range_d rfl (by omega) (gf := 41) (lb := #[.pointer (some ⟨w.heap.size + 3, 0, none⟩)]) rfl trivial (enters_of Try.func41 (by kernel_rfl) rfl)
    (within_seq 8 (w.heap.size + 3) w.heap.size w.heap.size l A c W0 (by omega) (by omega) (RowB.to HR.out hb0 (Nat.le_refl _)) HLC.out hbx HBK.out)
    (fun x A C h k => Gw.kept x A C h k) (fun h k => h.trans k) (fun W l o o' hl h hc hw => Kd.turn (by omega) (by omega) W l o o' hl h hc hw) (Below.refl _ _) (fun _ => rfl)
    (fun W W' hs hb => Kd.of_below (by omega) (by omega) hb)
    (fun pre W => Iv w (pre.map Er.it) W) (fun _ _ _ => False)
    (fun _ _ _ h k => h.lowD (by omega) k) (fun _ _ h => h.cel') (fun _ _ _ _ h _ => h) HIV.out
    (fun x a bx W => a = { tmps := #[.slice A l.length c, undef, .slice none 0 0, .pointer (some ⟨w.heap.size, 0, none⟩), .pointer (some ⟨w.heap.size + 1 + 1, 0, none⟩), undef, .pointer (some ⟨bx, 0, none⟩), undef, undef,
      .map (some (w.heap.size + 1)), .slice A l.length c, .func (.func 41) #[] #[.pointer (some ⟨w.heap.size + 1 + 1 + 1, 0, none⟩)], .slice x.A x.it.1.length x.c, x.x.v, undef, undef, undef, undef, undef, undef, undef, undef, undef, undef, undef, undef, undef, undef, undef, undef, undef, undef, undef, undef, undef, undef, undef], defers := [] } ∧ At W bx 0 x.x) ?assign ?bx ?body ?done ?stop
  case assign =>
    intro lk x W C hC
    obtain ⟨xA, xc, ⟨xk, xnm, xn, xs, xka, xkn, xkc, xla, xln, xlc⟩, xi⟩ := x
    simp only [Er.enc, X.v] at hC ⊢
    gi_wp2
    exact hC _ _ (below_alloc W _) ⟨rfl, at_new W ⟨xk, xnm, xn, xs, xka, xkn, xkc, xla, xln, xlc⟩⟩
  case bx =>
    rintro x a bx W lk o o' ⟨rfl, hat⟩ ho hc
    exact ⟨rfl, at_put hat ho hc⟩
  case body =>
    rintro lk pre ⟨xA, xc, y, ar, v⟩ a bx W hWs hWs2 hDD hI hG ⟨rfl, hat⟩ hlt
    have HDD := Lib.hid hDD
    have his : IsB W w.heap.size v y := hG.is
    have hvb : v.bulk ≤ V.bulks l := hG.bulk
    dsimp only at hat
    clear hG
    obtain ⟨yka, ykc, yla, ylc, rfl, hyk, hyl, hyks, hyrow⟩ := his.open
    have hnm : v.nm.size ≤ 4194304 := by
      have h2 := HBK.out
      have h3 : v.bulk = 1 + v.nm.size + v.s.size + keysBulk v.ks + V.bulks v.l := by cases v; rfl
      omega
    have HNM := Lib.hid hnm
    have HIW := Lib.hid hI
    obtain ⟨c0, c1, c2, c3, c4, c5⟩ := hat.six
    have HAT := Lib.hid hat
    have HWS : Hid (w.heap.size + 4 ≤ W.heap.size) := by
      show w.heap.size + 4 ≤ W.heap.size
      omega
    have HML : Hid (∀ v, (pre ++ [v]).map Er.it = pre.map Er.it ++ [v.it]) := fun v => by rw [List.map_append, List.map_singleton]
    simp only [X.v]
    clear hvb his hyk hyl hyks hyrow hI hat hnm hb0 hz hbx hWs hWs2 hDD
    by_cases h23 : v.k = 23
    · have HV := Lib.hid (vrs_yes (pre.map Er.it) (ar, v) (by unfold is23; exact decide_eq_true h23))
      have hne : (v.k != 23) = false := by rw [h23]; rfl
      have hkey := key_of v.nm HNM.out
      have hz0 : ∀ w : World, (zeroValue 49).run Try.prog w = .ok (.agg #[]) w := fun w => by kernel_rfl
      have HH := Lib.hid (setB_has (vrs (pre.map Er.it)) v.nm)
      have hlen : (vrs (pre.map Er.it)).length ≤ 4194304 := by
        have h1 := unq_len (nms (pre.map Er.it))
        have h2 : (nms (pre.map Er.it)).length ≤ pre.length := by
          unfold nms
          rw [List.length_map]
          have := List.length_filter_le is23 (pre.map Er.it)
          rw [List.length_map] at this
          exact this
        have h3 := sizes_le_bulks l
        have h4 := HBK.out
        show (unq (nms (pre.map Er.it))).length ≤ 4194304
        omega
      have HLEN := Lib.hid hlen
      obtain ⟨⟨nv, n1, n2, n3, n4⟩, nz, nm, no, nb⟩ := HIW.out
      have nm' : W.cell? ⟨w.heap.size + 1 + 1, 0, none⟩ = some (.map (some (w.heap.size + 1))) := nm
      have HN1 := Lib.hid n1
      have HN2 := Lib.hid n2
      have HN3 := Lib.hid n3
      have HN4 := Lib.hid n4
      have HNB := Lib.hid nb
      have HNO := Lib.hid no
      clear h23 hlt n1 n2 n3 n4 nm nb hlen
      cases hh : hasB (vrs (pre.map Er.it)) v.nm with
      | true =>
        rw [hh] at HH
        have HV2 : Hid (vrs (pre.map Er.it ++ [(ar, v)]) = vrs (pre.map Er.it)) := by
          show _ = _
          rw [HV.out]
          unfold unqF
          rw [if_pos hh]
        clear hh nz
        gi_wp2_with (gi_at_lookup; refine wpListIn_lookup_own_unit _ rfl _ _ 48 rfl 9 49 lawS Try.underlying48 (hz0 _) (w.heap.size + 1) _ _ rfl HNO.out _ _ rfl hkey ?_; rw [HH.out])
        have HS := Lib.hid (Stp.low (n0 := w.heap.size) (B := w.heap.size) (C := W0.heap.size) (W := W) (by have := HWS.out; omega) (by have := HWS.out; omega) (below_alloc W (.cells #[] 49)))
        refine ⟨HS.out.kf, HS.out.kd, ?_⟩
        dsimp only
        rw [HML.out]
        have h := HIW.out.lowD (C := W.heap.size) (by have := HWS.out; omega) (Fr_of (below_alloc W (.cells #[] 49)) fun k hk => hk.elim id fun e => by obtain ⟨u, hu, -⟩ := HIW.out.cel' k e; exact (Array.getElem?_eq_some_iff.1 hu).1)
        obtain ⟨⟨nv', h1, h2, h3, h4⟩, hz, hm, ho, hb⟩ := h
        refine ⟨⟨nv', h1, ?_, h3, h4⟩, hz, hm, ?_, hb⟩
        · rw [HV2.out]; exact h2
        · rw [HV2.out]; exact ho
      | false =>
        rw [hh] at HH
        have HV2 : Hid (vrs (pre.map Er.it ++ [(ar, v)]) = vrs (pre.map Er.it) ++ [v.nm]) := by
          show _ = _
          rw [HV.out]
          unfold unqF
          rw [if_neg (by rw [hh]; simp)]
        clear hh
        have hbxw : bx < W.heap.size := by
          obtain ⟨u, hu, -⟩ := cells_of_cell HAT.out.c0
          exact (Array.getElem?_eq_some_iff.1 hu).1
        have mA : (W.alloc (.cells #[] 49)).cell? ⟨w.heap.size + 1 + 1, 0, none⟩ = some (.map (some (w.heap.size + 1))) := ((below_alloc W _).cell (p := ⟨w.heap.size + 1 + 1, 0, none⟩) (by show w.heap.size + 1 + 1 < W.heap.size; have := HWS.out; omega)).trans nm'
        have cA : (W.alloc (.cells #[] 49)).cell? ⟨bx, 1, none⟩ = some (.string v.nm) := ((below_alloc W _).cell (p := ⟨bx, 1, none⟩) hbxw).trans c1
        have HBX := Lib.hid hbxw
        have HSA := Lib.hid (Stp.low (n0 := w.heap.size) (B := w.heap.size) (C := W0.heap.size) (W := W) (by have := HWS.out; omega) (by have := HWS.out; omega) (below_alloc W (.cells #[] 49)))
        have HIA := Lib.hid (HIW.out.lowD (C := W.heap.size) (by have := HWS.out; omega) (Fr_of (below_alloc W (.cells #[] 49)) fun k hk => hk.elim id fun e => by obtain ⟨u, hu, -⟩ := HIW.out.cel' k e; exact (Array.getElem?_eq_some_iff.1 hu).1))
        have HAA := Lib.hid (HAT.out.below hbxw (below_alloc W (.cells #[] 49)))
        clear hbxw
        gi_wp2_with (first
          | (gi_at_lookup; refine wpListIn_lookup_own_unit _ rfl _ _ 48 rfl 9 49 lawS Try.underlying48 (hz0 _) (w.heap.size + 1) _ _ rfl HNO.out _ _ rfl hkey ?_; rw [HH.out])
          | (gi_at_mapUpdate; refine wpListIn_mapUpdate_own _ rfl _ _ _ 48 rfl 9 49 lawS Try.underlying48 unitElem (w.heap.size + 1) _ _ rfl (HNO.out.alloc _) (by have := HLEN.out; unfold maxLen; omega) _ _ _ rfl rfl hkey _ [] unitElem_mk ?_; intro wm hom hgm))
        clear mA cA hne hkey hz0 c0 c1 c2 c3 c4 c5 nm'
        have HOM := Lib.hid hom
        have hmo : ∃ ob, (W.alloc (.cells #[] 49)).heap[w.heap.size + 1]? = some ob ∧ ob.isCells = false := by
          obtain ⟨es, clock, h5, -⟩ := HNO.out.alloc (.cells #[] 49)
          exact ⟨_, h5, rfl⟩
        obtain ⟨ob, hob, hobc⟩ := hmo
        have HSM := Lib.hid (HSA.out.trans (Stp.map (n0 := w.heap.size) (B := w.heap.size) (C := W0.heap.size) hgm hob hobc (by omega) (by have := HZ.out; omega) (by have := HWS.out; simp; omega) (by omega)))
        have hcc : ∀ k, (∃ o : Obj, (W.alloc (.cells #[] 49)).heap[k]? = some o ∧ o.isCells = true) → wm.heap[k]? = (W.alloc (.cells #[] 49)).heap[k]? := fun k ⟨o, h1, h2⟩ => hgm.block k (Array.getElem?_eq_some_iff.1 h1).1 fun e => by
          cases e
          rw [hob] at h1
          cases h1
          rw [hobc] at h2
          cases h2
        have hbl : Below w.heap.size w wm := by
          have := HIA.out.bl
          exact this.trans (grownN hgm (by have := HWS.out; simp; omega) fun k hk => by cases hk; omega)
        obtain ⟨⟨nv1, n1, n2, n3, n4⟩, nz, nm, -, -⟩ := HIA.out
        have n1m : wm.cell? ⟨w.heap.size, 0, none⟩ = some nv1 := (World.cell?_of_block (a := ⟨w.heap.size, 0, none⟩) (hcc w.heap.size (cells_of_cell n1))).trans n1
        have n2m : OwnT wm w.heap.size nv1 (vrs (pre.map Er.it)) := own_sameB n2 fun k hk => hcc k (n2.cells hk).2
        have nzm : wm.frozen? ⟨w.heap.size, 0, none⟩ = false := (World.frozen?_of_block (a := ⟨w.heap.size, 0, none⟩) (hcc w.heap.size (cells_of_cell n1))).trans nz
        have nmm : wm.cell? ⟨w.heap.size + 2, 0, none⟩ = some (.map (some (w.heap.size + 1))) := (World.cell?_of_block (a := ⟨w.heap.size + 2, 0, none⟩) (hcc (w.heap.size + 2) (cells_of_cell nm))).trans nm
        have c1m : wm.cell? ⟨bx, 1, none⟩ = some (.string v.nm) := (World.cell?_of_block (a := ⟨bx, 1, none⟩) (hcc bx (cells_of_cell HAA.out.c1))).trans HAA.out.c1
        have HNBX : Hid (nv1.ownBlock ≠ some bx) := fun e => by
          have h1 := HDD.out bx (Dd.of (Below.heap_alloc W _ w.heap.size (by have := HWS.out; omega)) (.inr ⟨nv1, n1, e⟩))
          omega
        have hws : w.heap.size + 4 ≤ wm.heap.size := by have := HWS.out; have := hgm.size; simp at this; omega
        have hbm : bx < wm.heap.size := by have := HBX.out; have := hgm.size; simp at this; omega
        have HFM : Hid (∀ wi, Below wm.heap.size wm wi → wi.cell? ⟨w.heap.size, 0, none⟩ = some nv1 ∧ wi.cell? ⟨bx, 1, none⟩ = some (.string v.nm) ∧ wi.frozen? ⟨w.heap.size, 0, none⟩ = false) := fun wi h =>
          ⟨(h.cell (p := ⟨w.heap.size, 0, none⟩) (by show w.heap.size < wm.heap.size; omega)).trans n1m, (h.cell (p := ⟨bx, 1, none⟩) hbm).trans c1m, (h.frozen (p := ⟨w.heap.size, 0, none⟩) (by show w.heap.size < wm.heap.size; omega)).trans nzm⟩
        have HN2M := Lib.hid n2m
        have HN3 := Lib.hid n3
        have HN4 := Lib.hid n4
        have HNMM := Lib.hid nmm
        have HWM := Lib.hid hws
        have HBLM := Lib.hid hbl
        have HB0 : Hid (Below wm.heap.size wm wm.drew) := (Below.refl _ _).drew
        have HEND : Hid (∀ wi w3 nv2, Below wm.heap.size wm wi → OwnT w3 w.heap.size nv2 (vrs (pre.map Er.it) ++ [v.nm]) → wi.grownBy w3 nv1.ownBlock → (nv2.ownBlock = nv1.ownBlock ∨ nv2.ownBlock = some wi.heap.size) →
            w3.cell? ⟨w.heap.size, 0, none⟩ = some nv1 ∧ w3.frozen? ⟨w.heap.size, 0, none⟩ = false ∧ w3.cell? ⟨bx, 1, none⟩ = some (.string v.nm) ∧ Stp w.heap.size w.heap.size W0.heap.size W (w3.setCell ⟨w.heap.size, 0, none⟩ nv2) ∧ Iv w (pre.map Er.it ++ [(ar, v)]) (w3.setCell ⟨w.heap.size, 0, none⟩ nv2) ∧ (w3.setCell ⟨w.heap.size, 0, none⟩ nv2).cell? ⟨bx, 1, none⟩ = some (.string v.nm)) := fun wi w3 nv2 hbi hown3 hg3 ho3 => by
          obtain ⟨i1, i2, i3⟩ := HFM.out wi hbi
          have n2i : OwnT wi w.heap.size nv1 (vrs (pre.map Er.it)) := own_sameB HN2M.out fun k hk => hbi.block k (by obtain ⟨-, o, h1, -⟩ := HN2M.out.cells hk; exact (Array.getElem?_eq_some_iff.1 h1).1)
          have hbk : ∀ k, k < wi.heap.size → nv1.ownBlock ≠ some k → w3.heap[k]? = wi.heap[k]? := fun k h5 h6 => hg3.block k h5 fun e => h6 e.symm
          have hwi : wm.heap.size ≤ wi.heap.size := hbi.size
          have hwm := HWM.out
          have hnb : nv1.ownBlock ≠ some bx := HNBX.out
          have j1 : w3.cell? ⟨w.heap.size, 0, none⟩ = some nv1 := (World.cell?_of_block (a := ⟨w.heap.size, 0, none⟩) (hbk w.heap.size (by omega) HN3.out)).trans i1
          have j3 : w3.frozen? ⟨w.heap.size, 0, none⟩ = false := (World.frozen?_of_block (a := ⟨w.heap.size, 0, none⟩) (hbk w.heap.size (by omega) HN3.out)).trans i3
          have j2 : w3.cell? ⟨bx, 1, none⟩ = some (.string v.nm) := (World.cell?_of_block (a := ⟨bx, 1, none⟩) (hbk bx (by omega) hnb)).trans i2
          have hstp := (HSM.out.trans (Stp.low (n0 := w.heap.size) (B := w.heap.size) (C := W0.heap.size) (by omega) (by omega) hbi)).trans (Stp.app (v' := nv2) (n0 := w.heap.size) (C := W0.heap.size) i1 hg3 ho3 (Nat.le_refl _) HN3.out fun k hk => by
            obtain ⟨h1, h2⟩ := n2i.cells hk
            exact ⟨h1, h2⟩)
          have hset : (w3.setCell ⟨w.heap.size, 0, none⟩ nv2).cell? ⟨w.heap.size, 0, none⟩ = some nv2 := World.cell?_setCell_same _ _ _ j1
          have hoth : ∀ k, k ≠ w.heap.size → (w3.setCell ⟨w.heap.size, 0, none⟩ nv2).heap[k]? = w3.heap[k]? := fun k hk => Below.heap_setCell w3 ⟨w.heap.size, 0, none⟩ nv2 k hk
          have hown2 : ∀ k, nv2.ownBlock = some k → k ≠ w.heap.size := fun k hk e => by
            subst e
            rcases ho3 with h | h
            · exact HN3.out (h ▸ hk)
            · rw [h] at hk
              have := Option.some.inj hk
              omega
          refine ⟨j1, j3, j2, hstp, ⟨⟨nv2, hset, ?_, fun e => hown2 _ e rfl, fun e => ?_⟩, ?_, ?_, ?_, hstp.kd.below |> fun h => HIW.out.bl.trans h⟩, ?_⟩
          · rw [HV2.out]
            exact own_sameB hown3 fun k hk => hoth k (hown2 k hk)
          · rcases ho3 with h | h
            · exact HN4.out (h ▸ e)
            · rw [h] at e
              have := Option.some.inj e
              omega
          · simp [j3]
          · rw [World.cell?_setCell_other _ _ _ _ (by simp)]
            refine (World.cell?_of_block (a := ⟨w.heap.size + 2, 0, none⟩) (hbk (w.heap.size + 2) (by omega) HN4.out)).trans ((hbi.cell (p := ⟨w.heap.size + 2, 0, none⟩) (by show w.heap.size + 2 < wm.heap.size; omega)).trans HNMM.out)
          · rw [HV2.out, List.length_append, List.length_singleton, ← setB_put]
            obtain ⟨es, clock, h5, F, h6, hD⟩ := HOM.out
            have hne1 : nv1.ownBlock ≠ some (w.heap.size + 1) := fun e => by
              obtain ⟨-, o, h1, h2⟩ := HN2M.out.cells e
              rw [h5] at h1
              cases h1
              cases h2
            exact ⟨es, clock, (hoth _ (by omega)).trans ((hbk _ (by omega) hne1).trans ((hbi.block _ (by omega)).trans h5)), F, h6, hD⟩
          · rw [World.cell?_setCell_other _ _ _ _ (by simp)]
            exact j2
        clear n1 n2 n3 n4 nz nm n1m n2m nzm nmm c1m hws hbm hbl hcc hob hobc hom hgm
        refine region_round (S := fun w' => w'.cell? ⟨bx, 1, none⟩ = some (.string v.nm)) (by kernel_rfl) (by decide) (fun ⟨a, w, h⟩ => h) (by (try dsimp only); exact (HFM.out _ HB0.out).2.1) (fun hHeld => ?_)
        iterate 2
          (first
            | (refine wpAnyH_take (i := 1) (v := ?_) rfl (by kernel_rfl) (by decide +kernel) (by decide +kernel) (fun _ _ _ h => h) (Or.inl ⟨by rfl, ?_⟩) (by assumption) ?_; rotate_left; (focus (intro w0 hSw; (try dsimp only at hSw); go_simp; (try with_reducible rfl); done)))
            | (refine wpAnyH_take (i := 2) (v := ?_) rfl (by kernel_rfl) (by decide +kernel) (by decide +kernel) (fun _ _ _ h => h) (Or.inl ⟨by rfl, ?_⟩) (by assumption) ?_; rotate_left; (focus (intro w0 hSw; (try dsimp only at hSw); go_simp; (try with_reducible rfl); done)))
            )
        try simp only [List.getElem_toArray, List.getElem_cons_zero, List.getElem_cons_succ, Act.put, List.setIfInBounds_toArray, List.set_cons_zero, List.set_cons_succ]
        generalize wm.drew = v0 at *
        refine wpAnyH_ready (rs := [0, 3]) (by decide +kernel) (by simp) (AllReadyH.cons rfl (fun K hK => ?_) (AllReadyH.cons rfl (fun K hK => ?_) AllReadyH.nil))
        ·
          obtain ⟨q1, q2, q3⟩ := HFM.out _ HB0.out
          go_simp
          refine hK.out _ _ (HFM.out _ HB0.out).2.1 (fun hHeld1 => ?_)
          clear hK K q1 q2 q3
          try simp only [List.getElem_toArray, List.getElem_cons_zero, List.getElem_cons_succ, Act.put, List.setIfInBounds_toArray, List.set_cons_zero, List.set_cons_succ]
          refine wpAnyH_ready (rs := [3]) (by decide +kernel) (by simp) (AllReadyH.cons rfl (fun K hK => ?_) AllReadyH.nil)
          go_simp
          refine (strClone_any v.nm _ HNM.out).mono ?_
          rintro ee v2 ⟨rfl, hbb⟩
          have HB2 := Lib.hid (HB0.out.trans (hbb.mono HB0.out.size))
          clear hbb
          refine hK.out _ _ (HFM.out _ HB2.out).2.1 (fun hHeld2 => ?_)
          clear hK K
          try simp only [List.getElem_toArray, List.getElem_cons_zero, List.getElem_cons_succ, Act.put, List.setIfInBounds_toArray, List.set_cons_zero, List.set_cons_succ]
          refine wpAnyH_ready (rs := [4]) (by decide +kernel) (by simp) (AllReadyH.cons rfl (fun K hK => ?_) AllReadyH.nil)
          go_simp
          have HB3 := Lib.hid (HB2.out.trans ((below_alloc v2 (.cells #[.string v.nm] 9)).mono HB2.out.size))
          have HC3 : Hid ((v2.alloc (.cells #[.string v.nm] 9)).cell? ⟨v2.heap.size, 0, none⟩ = some (.string v.nm) ∧ v2.heap.size < (v2.alloc (.cells #[.string v.nm] 9)).heap.size) := ⟨by simp, by simp⟩
          refine hK.out _ _ (HFM.out _ HB3.out).2.1 (fun hHeld3 => ?_)
          clear hK K
          generalize v2.alloc (.cells #[.string v.nm] 9) = v3 at *
          try simp only [List.getElem_toArray, List.getElem_cons_zero, List.getElem_cons_succ, Act.put, List.setIfInBounds_toArray, List.set_cons_zero, List.set_cons_succ]
          refine wpAnyH_ready (rs := [5]) (by decide +kernel) (by simp) (AllReadyH.cons rfl (fun K hK => ?_) AllReadyH.nil)
          have hown5 : OwnT v3 w.heap.size nv1 (vrs (pre.map Er.it)) := own_sameB HN2M.out fun k hk => HB3.out.block k (by obtain ⟨-, o, h1, -⟩ := HN2M.out.cells hk; exact (Array.getElem?_eq_some_iff.1 h1).1)
          refine step_appS rfl (.tmp 30) (.tmp 34) rfl w.heap.size nv1 _ rfl hown5 v2.heap.size v.nm rfl (by exact HC3.out.1) HLEN.out (by have := HB3.out.size; have := HWM.out; omega) ?_
          intro nv2 w3 h1 h2 h3
          obtain ⟨A5, n5, c5, rfl⟩ : ∃ A n c, nv2 = .slice A n c := by obtain ⟨A, c, e, -⟩ := h1.form; exact ⟨A, _, c, e⟩
          have HE := Lib.hid (HEND.out _ w3 _ HB3.out h1 h2 h3)
          clear h1 h2 h3 hown5
          refine hK.out _ _ HE.out.2.2.1 (fun hHeld9 => ?_)
          clear hK K
          try simp only [List.getElem_toArray, List.getElem_cons_zero, List.getElem_cons_succ, Act.put, List.setIfInBounds_toArray, List.set_cons_zero, List.set_cons_succ]
          refine wpAnyH_ready (rs := [6]) (by decide +kernel) (by simp) (AllReadyH.cons rfl (fun K hK => ?_) AllReadyH.nil)
          obtain ⟨q1, q2, -⟩ := HE.out
          go_simp
          refine hK.out _ _ HE.out.2.2.2.2.2 (fun hHeld10 => ?_)
          clear hK K q1 q2
          try simp only [List.getElem_toArray, List.getElem_cons_zero, List.getElem_cons_succ, Act.put, List.setIfInBounds_toArray, List.set_cons_zero, List.set_cons_succ]
          refine wpAnyH_done (by kernel_rfl) ?_ _
          obtain ⟨-, -, -, q1, q2, -⟩ := HE.out
          refine ⟨q1.kf, q1.kd, ?_⟩
          dsimp only
          rw [HML.out]
          exact q2
        ·
          go_simp
          refine (strClone_any v.nm _ HNM.out).mono ?_
          rintro ee v1 ⟨rfl, hbb⟩
          have HB1 := Lib.hid (HB0.out.trans (hbb.mono HB0.out.size))
          clear hbb
          refine hK.out _ _ (HFM.out _ HB1.out).2.1 (fun hHeld1 => ?_)
          clear hK K
          try simp only [List.getElem_toArray, List.getElem_cons_zero, List.getElem_cons_succ, Act.put, List.setIfInBounds_toArray, List.set_cons_zero, List.set_cons_succ]
          refine wpAnyH_ready (rs := [0, 4]) (by decide +kernel) (by simp) (AllReadyH.cons rfl (fun K hK => ?_) (AllReadyH.cons rfl (fun K hK => ?_) AllReadyH.nil))
          ·
            obtain ⟨q1, q2, q3⟩ := HFM.out _ HB1.out
            go_simp
            refine hK.out _ _ (HFM.out _ HB1.out).2.1 (fun hHeld2 => ?_)
            clear hK K q1 q2 q3
            try simp only [List.getElem_toArray, List.getElem_cons_zero, List.getElem_cons_succ, Act.put, List.setIfInBounds_toArray, List.set_cons_zero, List.set_cons_succ]
            refine wpAnyH_ready (rs := [4]) (by decide +kernel) (by simp) (AllReadyH.cons rfl (fun K hK => ?_) AllReadyH.nil)
            go_simp
            have HB3 := Lib.hid (HB1.out.trans ((below_alloc v1 (.cells #[.string v.nm] 9)).mono HB1.out.size))
            have HC3 : Hid ((v1.alloc (.cells #[.string v.nm] 9)).cell? ⟨v1.heap.size, 0, none⟩ = some (.string v.nm) ∧ v1.heap.size < (v1.alloc (.cells #[.string v.nm] 9)).heap.size) := ⟨by simp, by simp⟩
            refine hK.out _ _ (HFM.out _ HB3.out).2.1 (fun hHeld3 => ?_)
            clear hK K
            generalize v1.alloc (.cells #[.string v.nm] 9) = v3 at *
            try simp only [List.getElem_toArray, List.getElem_cons_zero, List.getElem_cons_succ, Act.put, List.setIfInBounds_toArray, List.set_cons_zero, List.set_cons_succ]
            refine wpAnyH_ready (rs := [5]) (by decide +kernel) (by simp) (AllReadyH.cons rfl (fun K hK => ?_) AllReadyH.nil)
            have hown5 : OwnT v3 w.heap.size nv1 (vrs (pre.map Er.it)) := own_sameB HN2M.out fun k hk => HB3.out.block k (by obtain ⟨-, o, h1, -⟩ := HN2M.out.cells hk; exact (Array.getElem?_eq_some_iff.1 h1).1)
            refine step_appS rfl (.tmp 30) (.tmp 34) rfl w.heap.size nv1 _ rfl hown5 v1.heap.size v.nm rfl (by exact HC3.out.1) HLEN.out (by have := HB3.out.size; have := HWM.out; omega) ?_
            intro nv2 w3 h1 h2 h3
            obtain ⟨A5, n5, c5, rfl⟩ : ∃ A n c, nv2 = .slice A n c := by obtain ⟨A, c, e, -⟩ := h1.form; exact ⟨A, _, c, e⟩
            have HE := Lib.hid (HEND.out _ w3 _ HB3.out h1 h2 h3)
            clear h1 h2 h3 hown5
            refine hK.out _ _ HE.out.2.2.1 (fun hHeld9 => ?_)
            clear hK K
            try simp only [List.getElem_toArray, List.getElem_cons_zero, List.getElem_cons_succ, Act.put, List.setIfInBounds_toArray, List.set_cons_zero, List.set_cons_succ]
            refine wpAnyH_ready (rs := [6]) (by decide +kernel) (by simp) (AllReadyH.cons rfl (fun K hK => ?_) AllReadyH.nil)
            obtain ⟨q1, q2, -⟩ := HE.out
            go_simp
            refine hK.out _ _ HE.out.2.2.2.2.2 (fun hHeld10 => ?_)
            clear hK K q1 q2
            try simp only [List.getElem_toArray, List.getElem_cons_zero, List.getElem_cons_succ, Act.put, List.setIfInBounds_toArray, List.set_cons_zero, List.set_cons_succ]
            refine wpAnyH_done (by kernel_rfl) ?_ _
            obtain ⟨-, -, -, q1, q2, -⟩ := HE.out
            refine ⟨q1.kf, q1.kd, ?_⟩
            dsimp only
            rw [HML.out]
            exact q2
          ·
            go_simp
            have HB2 := Lib.hid (HB1.out.trans ((below_alloc v1 (.cells #[.string v.nm] 9)).mono HB1.out.size))
            have HC2 : Hid ((v1.alloc (.cells #[.string v.nm] 9)).cell? ⟨v1.heap.size, 0, none⟩ = some (.string v.nm) ∧ v1.heap.size < (v1.alloc (.cells #[.string v.nm] 9)).heap.size) := ⟨by simp, by simp⟩
            refine hK.out _ _ (HFM.out _ HB2.out).2.1 (fun hHeld2 => ?_)
            clear hK K
            generalize v1.alloc (.cells #[.string v.nm] 9) = v2 at *
            try simp only [List.getElem_toArray, List.getElem_cons_zero, List.getElem_cons_succ, Act.put, List.setIfInBounds_toArray, List.set_cons_zero, List.set_cons_succ]
            refine wpAnyH_ready (rs := [0]) (by decide +kernel) (by simp) (AllReadyH.cons rfl (fun K hK => ?_) AllReadyH.nil)
            obtain ⟨q1, q2, q3⟩ := HFM.out _ HB2.out
            go_simp
            refine hK.out _ _ (HFM.out _ HB2.out).2.1 (fun hHeld3 => ?_)
            clear hK K q1 q2 q3
            try simp only [List.getElem_toArray, List.getElem_cons_zero, List.getElem_cons_succ, Act.put, List.setIfInBounds_toArray, List.set_cons_zero, List.set_cons_succ]
            refine wpAnyH_ready (rs := [5]) (by decide +kernel) (by simp) (AllReadyH.cons rfl (fun K hK => ?_) AllReadyH.nil)
            have hown5 : OwnT v2 w.heap.size nv1 (vrs (pre.map Er.it)) := own_sameB HN2M.out fun k hk => HB2.out.block k (by obtain ⟨-, o, h1, -⟩ := HN2M.out.cells hk; exact (Array.getElem?_eq_some_iff.1 h1).1)
            refine step_appS rfl (.tmp 30) (.tmp 34) rfl w.heap.size nv1 _ rfl hown5 v1.heap.size v.nm rfl (by exact HC2.out.1) HLEN.out (by have := HB2.out.size; have := HWM.out; omega) ?_
            intro nv2 w3 h1 h2 h3
            obtain ⟨A5, n5, c5, rfl⟩ : ∃ A n c, nv2 = .slice A n c := by obtain ⟨A, c, e, -⟩ := h1.form; exact ⟨A, _, c, e⟩
            have HE := Lib.hid (HEND.out _ w3 _ HB2.out h1 h2 h3)
            clear h1 h2 h3 hown5
            refine hK.out _ _ HE.out.2.2.1 (fun hHeld9 => ?_)
            clear hK K
            try simp only [List.getElem_toArray, List.getElem_cons_zero, List.getElem_cons_succ, Act.put, List.setIfInBounds_toArray, List.set_cons_zero, List.set_cons_succ]
            refine wpAnyH_ready (rs := [6]) (by decide +kernel) (by simp) (AllReadyH.cons rfl (fun K hK => ?_) AllReadyH.nil)
            obtain ⟨q1, q2, -⟩ := HE.out
            go_simp
            refine hK.out _ _ HE.out.2.2.2.2.2 (fun hHeld10 => ?_)
            clear hK K q1 q2
            try simp only [List.getElem_toArray, List.getElem_cons_zero, List.getElem_cons_succ, Act.put, List.setIfInBounds_toArray, List.set_cons_zero, List.set_cons_succ]
            refine wpAnyH_done (by kernel_rfl) ?_ _
            obtain ⟨-, -, -, q1, q2, -⟩ := HE.out
            refine ⟨q1.kf, q1.kd, ?_⟩
            dsimp only
            rw [HML.out]
            exact q2
    · have HV := Lib.hid (vrs_no (pre.map Er.it) (ar, v) (by unfold is23; exact decide_eq_false h23))
      have hne : (v.k != 23) = true := bne_iff_ne.2 h23
      clear h23
      gi_wp2
      refine ⟨KeepsFrom.refl _ _, Kd.refl _ _ _, ?_⟩
      dsimp only
      rw [HML.out]
      obtain ⟨⟨nv, h1, h2, h3, h4⟩, hz, hm, ho, hb⟩ := HIW.out
      refine ⟨⟨nv, h1, ?_, h3, h4⟩, hz, hm, ?_, hb⟩
      · rw [HV.out]; exact h2
      · rw [HV.out]; exact ho
  case done =>
    rintro D xs W hD hS hI hK
    have hI : Iv w (xs.map Er.it) W := hI
    have hS : xs.map Er.it = wi [] l := hS
    rw [hS] at hI
    obtain ⟨⟨nv, n1, n2, n3, -⟩, -, -, -, nb⟩ := hI
    rw [vrs_wi] at n2
    obtain ⟨A1, n5, c1, rfl⟩ : ∃ A n c, nv = .slice A n c := by obtain ⟨A, c, e, -⟩ := n2.form; exact ⟨A, _, c, e⟩
    have hwd : w.heap.size ≤ D := by omega
    have HN2 := Lib.hid n2
    have HNB := Lib.hid nb
    have HWD := Lib.hid hwd
    clear hS hD hz hb0 hbx n2 n3 nb hwd
    gi_wp2
    refine ⟨by simp, .inl ⟨_, _, rfl, run_takeDeferred hK, ?_⟩⟩
    refine ⟨.slice A1 n5 c1, by simp [results, Try.f16, go_sem], .slice A1 n5 c1, rfl, own_keepC HN2.out fun k o e ho hc => ?_, HNB.out.trans (below_put W D _ _ HWD.out hK)⟩
    refine ((grownBy_putObj' W D _).block k (Array.getElem?_eq_some_iff.1 ho).1 fun e => ?_).trans ho
    have e2 := Option.some.inj e
    subst e2
    rw [hK] at ho
    cases ho
    cases hc
  case stop =>
    rintro D c pre W _ _ h _
    exact h.elim
end Go.Proofs.Ytgehgccgologpaa.Z
