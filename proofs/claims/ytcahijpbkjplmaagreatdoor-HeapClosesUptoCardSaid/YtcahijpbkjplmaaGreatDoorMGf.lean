/-
  HeapCloses: an object that is closed gets no properties. (gen_gf.py)
-/
import Derived.Test.YtcahijpbkjplmaaGreatDoorMGe
namespace Go.Proofs.YtcahijpbkjplmaaGreatDoor.G
open Go.RowKit Go.Shelf Go.Maps Go.Lib Go.Proofs.YtcahijpbkjplmaaGreatDoor

theorem close_false {h : Hs} {v : Vl} (e : (h.close v).2 = false) : h.close v = (h, false) ∧ clsR (h.obj v) = nil := by
  cases ha : h.at v with
  | none => exact ⟨by unfold Hs.close; rw [ha], by rw [obj_none ha]; rfl⟩
  | some i =>
    have hi := at_lt ha
    have ho : h.os[i]? = some h.os[i] := List.getElem?_eq_getElem hi
    unfold Hs.close at e
    rw [ha] at e
    dsimp only at e
    rw [ho] at e
    cases e
theorem close_true {h : Hs} {v : Vl} (e : (h.close v).2 = true) : ∃ i o, (h.close v).1.at v = some i ∧ (h.close v).1.os[i]? = some o ∧ o.closed = true := by
  cases ha : h.at v with
  | none =>
    unfold Hs.close at e
    rw [ha] at e
    cases e
  | some i =>
    have hi := at_lt ha
    have ho : h.os[i]? = some h.os[i] := List.getElem?_eq_getElem hi
    have hc : h.close v = (h.set i { h.os[i] with closed := true }, true) := by unfold Hs.close; rw [ha]; dsimp only; rw [ho]
    rw [hc]
    exact ⟨i, _, at_set ha, set_get hi _, rfl⟩
theorem closed_runs {h : Hs} {v : Vl} (e : (h.close v).2 = true) (more : List Op) : openR (((h.close v).1.run' more).obj v) = false ∧ ∀ key ∈ keysR (((h.close v).1.run' more).obj v), key ∈ keysR ((h.close v).1.obj v) := by
  obtain ⟨i, o, h1, h2, h3⟩ := close_true e
  obtain ⟨o', f1, f2, f3, f4⟩ := closes_run ix dx LK AR hdx h1 h2 h3 more
  have e1 : (h.close v).1.obj v = some o := by unfold Hs.obj; rw [h1]; exact h2
  have e2 : ((h.close v).1.run' more).obj v = some o' := by
    unfold Hs.obj
    show (Hs.at (Hs.run ix dx LK AR _ more) v).bind _ = _
    rw [f1]
    exact f2
  rw [e1, e2]
  refine ⟨?_, f4⟩
  show (!o'.closed) = false
  rw [f3]
  rfl
theorem keys_small {H : Hs} (g : Gd H) (v : Vl) : ∀ s ∈ keysR (H.obj v), s.size ≤ maxLen := by
  intro s hs
  unfold Hs.obj at hs
  cases ha : H.at v with
  | none =>
    rw [ha] at hs
    cases hs
  | some i =>
    rw [ha] at hs
    change s ∈ keysR H.os[i]? at hs
    cases ho : H.os[i]? with
    | none =>
      rw [ho] at hs
      cases hs
    | some o =>
      rw [ho] at hs
      obtain ⟨p, hp, rfl⟩ := List.mem_map.1 hs
      have := ((g.og i o ho).s p hp).1
      unfold maxLen
      omega
theorem Txs.nm2 {w : World} {b : Nat} {r : Value} {ks : List ByteArray} (h : Txs w b r ks) : ∃ A c, r = .slice A ks.length c ∧ (ks = [] ∨ ∃ g, A = some ⟨g, 0, none⟩ ∧ b ≤ g ∧ g < w.heap.size ∧ ∀ j s, ks[j]? = some s → w.cell? ⟨g, j, none⟩ = some (.string s)) := by
  obtain ⟨A, c, e⟩ := row_len h
  refine ⟨A, c, e, ?_⟩
  rcases Nat.eq_zero_or_pos ks.length with h0 | h0
  · exact .inl (List.length_eq_zero_iff.1 h0)
  · obtain ⟨g, cap, e2, -⟩ := row_form h h0
    right
    have e3 := e.symm.trans e2
    injection e3 with e4
    refine ⟨g, e4, (World.ownsRow.lt h g (by rw [e2]; rfl)).1, (World.ownsRow.lt h g (by rw [e2]; rfl)).2, fun j s hj => ?_⟩
    have := World.ownsRow.cells h (g := g) (by rw [e2]; rfl) j (.string s) (by rw [List.getElem?_map, hj]; rfl)
    rw [add_lit, Nat.zero_add] at this
    exact this
theorem list_mapU {ops : Array Oper} {rest : List Oper} {o : Oper} {a : Act} {w : World} {Q : Exit → Act → World → Prop} (hgd : o.guard = none) (m x v : Operand) (t : TypeId) (ho : o.op = .mapUpdate t m x v) (w' : World)
    (hr : (Instr.mapUpdate t (a.eval m) (a.eval x) (a.eval v)).run Tryz.prog w = .ok () w') (h : wpList Tryz.prog ops Q rest (a.put o.dst undef) w') : wpList Tryz.prog ops Q (o :: rest) a w := wpList_plain hgd fun K hK => by
  have h2 := step_mapU (ops := ops) (E := True) (K := K) (Q := Q) hgd m x v t ho w' hr (hK _ _ h)
  rw [if_pos (by simp [Region.wanted, hgd])] at h2
  exact h2
abbrev vput (v : Vl) (o : Op) : Op := { o with v := v }
theorem vput_sm {v : Vl} {l : List Op} (h : ∀ o ∈ l, Sm o) : ∀ o ∈ l.map (vput v), Sm o := by
  intro o ho
  obtain ⟨p, hp, rfl⟩ := List.mem_map.1 ho
  have hs := h p hp
  exact ⟨⟨hs.so.k, hs.so.x, hs.so.p, hs.so.l⟩, hs.l⟩
theorem vput_get {v : Vl} {l : List Op} {k : Nat} {o : Op} (h : l[k]? = some o) : (l.map (vput v))[k]? = some (vput v o) := by
  rw [List.getElem?_map, h]
  rfl
theorem vput_all (v : Vl) (l : List Op) : (l.map (vput v)).take l.length = l.map (vput v) := by
  have h := List.take_length (l := l.map (vput v))
  rw [List.length_map] at h
  exact h
/-- which texts are in a map -/
def inB (ks : List ByteArray) (s : ByteArray) : Value := .bool (ks.any fun t => decide (t = s))
theorem inB_mem {ks : List ByteArray} {s : ByteArray} (h : s ∈ ks) : inB ks s = .bool true := by
  unfold inB
  rw [List.any_eq_true.2 ⟨s, h, decide_eq_true rfl⟩]
theorem inB_next {ks : List ByteArray} {k : Nat} {s : ByteArray} (h : ks[k]? = some s) : (fun t => if t = s then Value.bool true else inB (ks.take k) t) = inB (ks.take (k + 1)) := by
  funext t
  unfold inB
  rw [List.take_add_one, h, List.any_append]
  by_cases e : t = s
  · rw [if_pos e, e]
    simp
  · rw [if_neg e]
    have e2 : ¬ s = t := fun x => e x.symm
    simp [e2]
theorem zeroB (w : World) : (zeroValue 4).run Tryz.prog w = .ok (.bool false) w := by kernel_rfl
theorem LvS.turned {w w1 w2 : World} {b mb : Nat} {H : Hs} {ow : Nat → Option Nat} {L : List OL} (h : LvS w b H w1 ow L) (ht : w1.mapTurned w2 mb) (h1 : w.heap.size ≤ mb) (h2 : ow mb = none) : LvS w b H w2 ow L := by
  refine ⟨h.ph.fr (fun k hk => ht.grown.block k (h.ph.lt k hk) fun e => hk (by rw [Option.some.inj e]; exact h2)) ht.grown.size, h.own, ?_⟩
  have f : Fr (fun k => k < w.heap.size) w w1 := Fr.of h.bel fun _ hk => hk
  exact (f.turned (b := mb) (fun hk => Nat.lt_irrefl _ (Nat.lt_of_lt_of_le hk h1)) ht fun _ hk => hk).below
set_option linter.unusedSimpArgs false in
set_option maxRecDepth 20000 in
set_option maxHeartbeats 4000000 in
theorem closes_law (m : Int) (l more : List Op) (sl sl2 : Value) (v : Vl) (w : World) (hT : Tab w) (hl : OpsB w w.heap.size sl l) (hsm : ∀ o ∈ l, Sm o) (hl2 : OpsB w w.heap.size sl2 more) (hsm2 : ∀ o ∈ more, Sm o) :
    Calls Tryz.prog 4 #[.int .i64 m, sl, v.v, sl2] w (AnsB w true) := by
  have hb0 := below_new w (.cells v.cs.toArray 29)
  have HB0 := Lib.hid hb0
  have HV0 := Lib.hid (Blk.new w 29 v.cs)
  have HT := Lib.hid (hT.below hb0)
  have HOL := Lib.hid ((hl.low hb0).mono hb0.size)
  have HOM := (hl2.low hb0).mono hb0.size
  have HSM1 := Lib.hid hsm
  have HSM := Lib.hid hsm2
  have HG := Lib.hid (by have := gd_runs (gd_new m) hsm l.length; rw [List.take_length] at this; exact this : Gd ((Hs.new m).run' l))
  obtain ⟨sA1, sc1, bg1, hsl1, -, -⟩ := hl
  have HD := Lib.hid fun (w1 : World) b ow L (hp : PH w1 b ((Hs.new m).run' l) ow L) => close_any hp HG.out v
  have HG2 := Lib.hid (gd_close HG.out v)
  have HCF := Lib.hid (close_false (h := (Hs.new m).run' l) (v := v))
  have HCT := Lib.hid fun e more => closed_runs (h := (Hs.new m).run' l) (v := v) e more
  have HCL := Lib.hid fun (w1 : World) b ow L (hp : PH w1 b ((Hs.new m).run' l) ow L) => class_any hp HG.out v
  have HM := Lib.hid fun wl (hb : Below (w.alloc (.cells v.cs.toArray 29)).heap.size (w.alloc (.cells v.cs.toArray 29)) wl) => made_any m l sl wl (HT.out.below hb) ((HOL.out.low hb).mono hb.size) HSM1.out
  clear HOL HSM1
  unfold MadeR at HM
  generalize (Hs.new m).run' l = H at *
  obtain ⟨H1, er, hr⟩ : ∃ H1 er, H.close v = (H1, er) := ⟨_, _, rfl⟩
  rw [hr] at HD HG2 HCF HCT
  dsimp only at HD HG2 HCF HCT
  clear hT hsm hsm2 hb0 hr hl2
  rw [hsl1] at HM ⊢
  clear hsl1
  have HLV := Lib.hid (live_any _ HT.out)
  obtain ⟨sA2, sc2, bg2, rfl, hbg, hops⟩ := HOM
  have HBG := Lib.hid hbg
  have HOPS := Lib.hid hops
  clear hbg hops
  obtain ⟨vk, vn, vs⟩ := v
  simp only [Vl.v, Vl.cs] at HB0 HV0 HT HM HD HLV HBG HOPS HCL ⊢
  go_enter Tryz.func4, Tryz.ntmps4
  go_wp2_with fail
  generalize hW : w.alloc (.cells #[.int .i64 vk, .int .i64 vn, .string vs] 29) = W0 at *
  clear hW
  refine HLV.out.mono ?_
  rintro e wl ⟨rfl, hbl⟩
  have HBL := Lib.hid hbl
  have HM1 := Lib.hid (HM.out wl hbl)
  clear hbl HLV HM
  go_wp2_with fail
  refine HM1.out.mono ?_
  rintro e w1 hmade
  rcases hmade with ⟨h2, rfl, hb⟩ | ⟨-, b, ow, L, rfl, hs⟩
  · have HBE := Lib.hid (HB0.out.trans ((HBL.out.trans (hb.mono HBL.out.size)).mono HB0.out.size))
    clear h2 hb
    go_wp2_with fail
    go_ret
    exact ⟨rfl, HBE.out⟩
  · have S1 := Lib.hid (hs.from HBL.out)
    clear hs HM1 HBL
    by_cases h2 : 100 < more.length
    · have h2' : (100 : Int) < (more.length : Int) := by omega
      clear h2
      go_wp2_with fail
      go_ret
      exact ⟨rfl, HB0.out.trans (S1.out.bel.mono HB0.out.size)⟩
    · have h2' : ¬ (100 : Int) < (more.length : Int) := by omega
      have h3 : more.length ≤ 100 := by omega
      clear h2
      have hcc := HD.out _ _ _ _ S1.out.ph
      obtain ⟨d0, d1, d2⟩ := Blk.three (v := ⟨vk, vn, vs⟩) (HV0.out.fr (S1.out.bel.block _ HV0.out.lt))
      dsimp only at d0 d1 d2
      clear HD
      go_wp2_with fail
      refine hcc.mono ?_
      rintro e w2 ⟨rfl, ow2, L2, hch⟩
      have S2 := Lib.hid (S1.out.next hch)
      clear hch hcc d0 d1 d2
      obtain ⟨d0, d1, d2⟩ := Blk.three (v := ⟨vk, vn, vs⟩) (HV0.out.fr (S2.out.bel.block _ HV0.out.lt))
      dsimp only at d0 d1 d2
      cases er with
      | false =>
        obtain ⟨he, hcl⟩ := HCF.out rfl
        have he1 : H1 = H := (Prod.mk.inj he).1
        subst he1
        have hcc := HCL.out _ _ _ _ S2.out.ph
        rw [hcl] at hcc
        simp only [nil] at hcc
        clear he hcl HCF HCT HCL
        go_wp2_with fail
        refine hcc.mono ?_
        rintro e w3 ⟨rfl, hb⟩
        have S3 := Lib.hid (S2.out.low hb)
        clear hb hcc d0 d1 d2
        go_wp2_with fail
        go_ret
        exact ⟨rfl, HB0.out.trans (S3.out.bel.mono HB0.out.size)⟩
      | true =>
        have HC := Lib.hid (HCT.out rfl (more.map (vput ⟨vk, vn, vs⟩)))
        clear HCF HCT HCL
        have hmm := fun w : World => makeMap_new 48 w
        have HMW : Hid (ow2 w2.heap.size = none ∧ W0.heap.size ≤ w2.heap.size) := ⟨S2.out.fresh, S2.out.bel.size⟩
        have hbm := below_new w2 (.map #[] 0)
        have S3 := Lib.hid (S2.out.low hbm)
        have HMP : Hid (MapS (w2.alloc (.map #[] 0)) w2.heap.size 0 (.bool false) (inB [])) := MapS.new w2 (.bool false)
        clear d0 d1 d2 hbm
        obtain ⟨d0, d1, d2⟩ := Blk.three (v := ⟨vk, vn, vs⟩) (HV0.out.fr (S3.out.bel.block _ HV0.out.lt))
        dsimp only at d0 d1 d2
        have hcc := keys_any S3.out.ph HG2.out ⟨vk, vn, vs⟩
        have HKS := Lib.hid (keys_small HG2.out ⟨vk, vn, vs⟩)
        have HKL := Lib.hid (HG2.out.keys_len ⟨vk, vn, vs⟩)
        obtain ⟨ks, HKE⟩ : ∃ ks, Hid (keysR (H1.obj ⟨vk, vn, vs⟩) = ks) := ⟨_, rfl⟩
        rw [HKE.out] at hcc HKS HKL HC
        simp only [Vl.v] at hcc
        have HSZ : Hid (w2.heap.size < (w2.alloc (.map #[] 0)).heap.size) := by rw [World.size_alloc]; exact Nat.lt_succ_self _
        clear S2
        go_wp2_with fail
        clear hmm
        generalize w2.heap.size = mb at *
        refine hcc.mono ?_
        rintro e w4 ⟨r, rfl, htx, hb⟩
        obtain ⟨rA, rc, rfl, hrow⟩ := htx.nm2
        have HROW := Lib.hid hrow
        have S4 := Lib.hid (S3.out.low hb)
        have HMP4 := Lib.hid (HMP.out.fr (hb.block _ HSZ.out))
        clear htx hrow hb hcc d0 d1 d2 HMP S3
        have hkl : (ks.length : Int) ≤ 100000000000 := by have := HKL.out; omega
        go_wp2_with fail
        go_loopw [46] (fun i wr => ∃ k : Nat, k ≤ ks.length ∧ i = .int .i64 k ∧ Hid (LvS W0 b H1 wr ow2 L2) ∧ Hid (MapS wr mb k (.bool false) (inB (ks.take k))) ∧ Hid (Fr (fun j => j < w4.heap.size ∧ j ≠ mb) w4 wr)) (fun i _ => ks.length - (intOf i).toNat)
        case atStart => exact ⟨0, Nat.zero_le _, rfl, S4, HMP4, Fr.refl _ _⟩
        case round =>
          obtain ⟨k, hk, rfl, HS, HMP, HFR⟩ := hrel
          by_cases hlt : k < ks.length
          · obtain ⟨s, HSK⟩ : ∃ s, Hid (ks[k]? = some s) := ⟨_, List.getElem?_eq_getElem hlt⟩
            obtain ⟨g, rfl, c1⟩ : ∃ g, rA = some ⟨g, 0, none⟩ ∧ wr.cell? ⟨g, k, none⟩ = some (.string s) := by
              rcases HROW.out with e | ⟨g, e1, e2, e3, e4⟩
              · subst e
                exact absurd hlt (Nat.not_lt_zero _)
              · exact ⟨g, e1, (World.cell?_of_block (w := w4) (a := ⟨g, k, none⟩) (HFR.out.block g ⟨e3, by have := HSZ.out; omega⟩)).trans (e4 k s HSK.out)⟩
            obtain ⟨w5, hr5, hm5, ht5⟩ := HMP.out.store Tryz.underlying48 (by have := HKL.out; unfold maxLen; omega) (HKS.out s (List.mem_of_getElem? HSK.out)) (.bool true)
            have HM5 : Hid (MapS w5 mb (k + 1) (.bool false) (inB (ks.take (k + 1)))) := by rw [← inB_next HSK.out]; exact hm5
            have S5 := Lib.hid (HS.out.turned ht5 HMW.out.2 HMW.out.1)
            have HF5 : Hid (Fr (fun j => j < w4.heap.size ∧ j ≠ mb) w4 w5) := HFR.out.turned (b := mb) (fun hk => hk.2 rfl) ht5 fun _ hk => hk.1
            clear hm5 ht5
            go_wp2_with (at_mapUpdate; refine list_mapU rfl (.tmp 50) (.tmp 51) (.const (.bool true)) _ rfl w5 hr5 ?_)
            clear hr5 c1
            go_roundw
            case rel => exact ⟨k + 1, hlt, by go_num, S5, HM5, HF5⟩
            case measure => simp [intOf]; omega
          · obtain rfl : k = ks.length := by omega
            rw [List.take_length] at HMP
            have HMPF := HMP
            have S6 := HS
            obtain ⟨w6, rfl⟩ : ∃ w6 : World, w6 = wr := ⟨_, rfl⟩
            clear hk hlt HS HMP HFR S4 HMP4 HROW
            go_wp2_with fail
            go_loopw [55] (fun i wr => ∃ k : Nat, k ≤ more.length ∧ i = .int .i64 k ∧ Hid (∃ ow L, LvS W0 b (H1.run' ((more.map (vput ⟨vk, vn, vs⟩)).take k)) wr ow L ∧ ow mb = none ∧ MapS wr mb ks.length (.bool false) (inB ks))) (fun i _ => more.length - (intOf i).toNat)
            case atStart => exact ⟨0, Nat.zero_le _, rfl, ow2, L2, S6.out, HMW.out.1, HMPF.out⟩
            case round =>
              obtain ⟨k, hk, rfl, HSE⟩ := hrel
              by_cases hlt : k < more.length
              · obtain ⟨owr, Lr, hs, hwm, hmp⟩ := HSE.out
                have HS := Lib.hid hs
                have HWB : Hid (owr wr.heap.size = none) := HS.out.fresh
                have HWM := Lib.hid hwm
                have HMPR := Lib.hid hmp
                clear hs HSE hwm hmp
                obtain ⟨o, HO⟩ : ∃ o, Hid (more[k]? = some o) := ⟨_, List.getElem?_eq_getElem hlt⟩
                have HSO := Lib.hid (HSM.out o (List.mem_of_getElem? HO.out))
                obtain ⟨q, slo, bk, rfl, hbk, hvl, hrow⟩ := HOPS.out k o HO.out
                obtain ⟨zA, zc, rfl, -⟩ := id hvl
                have hrw := hrow.fr (HS.out.bel.block _ HBG.out)
                have HVL := Lib.hid (hvl.fr (HS.out.bel.block _ hbk))
                have HBK := Lib.hid hbk
                obtain ⟨c0, c1, c2, c3, c4, c5, c6, c7, c8, c9, c10, c11, c12, c13, c14, c15⟩ := hrw.all
                clear hrow hrw hvl hbk
                obtain ⟨d0, d1, d2⟩ := Blk.three (v := ⟨vk, vn, vs⟩) ((HV0.out.fr (HS.out.bel.block _ HV0.out.lt)).low (below_new wr (.cells (opC o (.slice zA o.l.length zc)).toArray 34)))
                simp only [opC] at d0 d1 d2
                have VSM := Lib.hid (vput_sm (v := ⟨vk, vn, vs⟩) HSM.out)
                have hb0 := (below_new wr (.cells (opC (vput ⟨vk, vn, vs⟩ o) (.slice zA o.l.length zc)).toArray 34)).drew
                have S0 := Lib.hid (HS.out.low hb0)
                have hs0 : Blk (wr.alloc (.cells (opC (vput ⟨vk, vn, vs⟩ o) (.slice zA o.l.length zc)).toArray 34)).drew wr.heap.size 34 (opC (vput ⟨vk, vn, vs⟩ o) (.slice zA o.l.length zc)) := (Blk.new wr 34 (opC (vput ⟨vk, vn, vs⟩ o) (.slice zA o.l.length zc))).fr rfl
                have HBW0 := Lib.hid hb0
                clear hb0
                go_wp2_with fail
                refine wp_region_held_drew (S := (fun w' : World => Blk w' wr.heap.size 34 (opC (vput ⟨vk, vn, vs⟩ o) (.slice zA o.l.length zc)))) (by kernel_rfl) (hs0) (fun hHeld0 => ?_)
                generalize World.drew _ = w0 at *
                (refine wpAnyH_take (i := 0) (v := ?_) rfl (by kernel_rfl) (by decide +kernel) (by decide +kernel) (fun _ _ _ h => h) (Or.inl ⟨by rfl, ?_⟩) (by assumption) ?_; rotate_left; (focus (intro w0 hSw; obtain ⟨e0, e1, e2, e3, e4, e5, e6, e7, e8, e9, e10, e11, e12, e13, e14, e15⟩ := blk_all hSw; go_simp; (try with_reducible rfl); done)))
                (refine wpAnyH_take (i := 2) (v := ?_) rfl (by kernel_rfl) (by decide +kernel) (by decide +kernel) (fun _ _ _ h => h) (Or.inl ⟨by rfl, ?_⟩) (by assumption) ?_; rotate_left; (focus (intro w0 hSw; obtain ⟨e0, e1, e2, e3, e4, e5, e6, e7, e8, e9, e10, e11, e12, e13, e14, e15⟩ := blk_all hSw; go_simp; (try with_reducible rfl); done)))
                try simp only [List.getElem_toArray, List.getElem_cons_zero, List.getElem_cons_succ, Act.put, List.setIfInBounds_toArray, List.set_cons_zero, List.set_cons_succ]
                refine wpAnyH_ready (rs := [1]) (by decide +kernel) (by simp) (AllReadyH.cons rfl (fun K hK => ?_) AllReadyH.nil)
                go_simp
                refine (rnew_any 0 _).mono ?_
                rintro e w1 ⟨X, owx, rfl, hrh, hfr, hb⟩
                have S1 := Lib.hid (S0.out.low hb)
                have hs1 := hs0.low hb
                have HDR := Lib.hid (dr_new S0.out.ph hrh hfr)
                have HBW1 := Lib.hid (HBW0.out.trans (hb.mono HBW0.out.size))
                clear hrh hfr hb hs0 S0 HBW0
                refine hK.out _ _ hs1 (fun hHeld1 => ?_)
                clear hK K hHeld0 c0 c1 c2 c3 c4 c5 c6 c7 c8 c9 c10 c11 c12 c13 c14 c15 
                try simp only [List.getElem_toArray, List.getElem_cons_zero, List.getElem_cons_succ, Act.put, List.setIfInBounds_toArray, List.set_cons_zero, List.set_cons_succ]
                refine wpAnyH_ready (rs := [3]) (by decide +kernel) (by simp) (AllReadyH.cons rfl (fun K hK => ?_) AllReadyH.nil)
                have HDO := do_any S1.out.ph (gd_runs HG2.out VSM.out k) HDR.out (vput ⟨vk, vn, vs⟩ o) ⟨HSO.out.so.k, HSO.out.so.x, HSO.out.so.p, HSO.out.so.l⟩ (HVL.out.fr ((S1.out.bel.block _ HBK.out).trans (HS.out.bel.block _ HBK.out).symm)) ⟨Nat.lt_of_lt_of_le HBK.out S1.out.bel.size, S1.out.off HBK.out⟩ (HT.out.below S1.out.bel) (S1.out.off HT.out.lt) HSO.out.l
                simp only [opV] at HDO
                go_simp
                refine HDO.mono ?_
                intro e w2 hdo
                obtain ⟨c, rfl, ow2, L2, hs2, hkp⟩ := S1.out.done hdo
                have HMP2 := Lib.hid (HMPR.out.fr ((hkp mb (Nat.lt_of_lt_of_le HMPR.out.lt HBW1.out.size) HWM.out).2.trans (HBW1.out.block _ HMPR.out.lt)))
                have HWM2 := Lib.hid (hkp mb (Nat.lt_of_lt_of_le HMPR.out.lt HBW1.out.size) HWM.out).1
                have HS2 := Lib.hid hs2
                have hsb : Blk w2 wr.heap.size 34 (opC (vput ⟨vk, vn, vs⟩ o) (.slice zA o.l.length zc)) := hs1.fr (hkp _ hs1.lt HWB.out).2
                clear hs2 hkp HDO hdo hs1 S1 HDR
                refine hK.out _ _ hsb (fun hHeld2 => ?_)
                clear hK K hHeld1 
                try simp only [List.getElem_toArray, List.getElem_cons_zero, List.getElem_cons_succ, Act.put, List.setIfInBounds_toArray, List.set_cons_zero, List.set_cons_succ]
                refine wpAnyH_done (by kernel_rfl) ?_ _
                clear hHeld2 hsb
                go_wp2_with fail
                go_roundw
                case rel => exact ⟨k + 1, hlt, by go_num, ow2, L2, by rw [run_next (vput_get HO.out)]; exact HS2.out, HWM2.out, HMP2.out⟩
                case measure => simp [intOf]; omega
              · obtain rfl : k = more.length := by omega
                obtain ⟨owr, Lr, hs, hwm, hmp⟩ := HSE.out
                rw [vput_all] at hs
                have hgd := gd_runs HG2.out (vput_sm (v := ⟨vk, vn, vs⟩) HSM.out) more.length
                rw [vput_all] at hgd
                have HGD := Lib.hid hgd
                have S7 := Lib.hid hs
                have HMP7 := Lib.hid hmp
                clear hs HSE hwm hmp hgd
                obtain ⟨d0, d1, d2⟩ := Blk.three (v := ⟨vk, vn, vs⟩) (HV0.out.fr (S7.out.bel.block _ HV0.out.lt))
                dsimp only at d0 d1 d2
                have hcc := keys_any S7.out.ph HGD.out ⟨vk, vn, vs⟩
                have HKL2 := Lib.hid (HGD.out.keys_len ⟨vk, vn, vs⟩)
                have HKS2 := Lib.hid (keys_small HGD.out ⟨vk, vn, vs⟩)
                obtain ⟨k2, HKE2⟩ : ∃ k2, Hid (keysR ((H1.run' (more.map (vput ⟨vk, vn, vs⟩))).obj ⟨vk, vn, vs⟩) = k2) := ⟨_, rfl⟩
                rw [HKE2.out] at hcc HKL2 HC HKS2
                simp only [Vl.v] at hcc
                go_wp2_with fail
                refine hcc.mono ?_
                rintro e w8 ⟨r, rfl, htx, hb⟩
                obtain ⟨zA, zc, rfl, hrow⟩ := htx.nm2
                have HROW2 := Lib.hid hrow
                have S8 := Lib.hid (S7.out.low hb)
                have HMP8 := Lib.hid (HMP7.out.fr (hb.block _ HMP7.out.lt))
                clear htx hrow hb hcc d0 d1 d2 HMP7 S7
                have hkl2 : (k2.length : Int) ≤ 100000000000 := by have := HKL2.out; omega
                go_wp2_with fail
                go_loopw [70] (fun i wx => ∃ k : Nat, k ≤ k2.length ∧ i = .int .i64 k ∧ wx = w8) (fun i _ => k2.length - (intOf i).toNat)
                case atStart => exact ⟨0, Nat.zero_le _, rfl, rfl⟩
                case round =>
                  obtain ⟨k, hk, rfl, rfl⟩ := hrel
                  by_cases hlt : k < k2.length
                  · obtain ⟨s, HSK⟩ : ∃ s, Hid (k2[k]? = some s) := ⟨_, List.getElem?_eq_getElem hlt⟩
                    obtain ⟨g, rfl, c1⟩ : ∃ g, zA = some ⟨g, 0, none⟩ ∧ wr.cell? ⟨g, k, none⟩ = some (.string s) := by
                      rcases HROW2.out with e | ⟨g, e1, e2, e3, e4⟩
                      · subst e
                        exact absurd hlt (Nat.not_lt_zero _)
                      · exact ⟨g, e1, e4 k s HSK.out⟩
                    have hlk := HMP8.out.look Tryz.underlying48 (zeroB _) (HKS2.out s (List.mem_of_getElem? HSK.out))
                    rw [inB_mem (HC.out.2 s (List.mem_of_getElem? HSK.out))] at hlk
                    go_wp2_with fail
                    go_roundw
                    case rel => exact ⟨k + 1, hlt, by go_num, trivial⟩
                    case measure => simp [intOf]; omega
                  · obtain rfl : k = k2.length := by omega
                    have hcc := isopen_any S8.out.ph HGD.out ⟨vk, vn, vs⟩
                    rw [HC.out.1] at hcc
                    simp only [Vl.v] at hcc
                    obtain ⟨d0, d1, d2⟩ := Blk.three (v := ⟨vk, vn, vs⟩) (HV0.out.fr (S8.out.bel.block _ HV0.out.lt))
                    dsimp only at d0 d1 d2
                    go_wp2_with fail
                    refine hcc.mono ?_
                    rintro e w9 ⟨rfl, hb⟩
                    have S9 := Lib.hid (S8.out.low hb)
                    clear hb hcc d0 d1 d2
                    go_wp2_with fail
                    go_ret
                    exact ⟨rfl, HB0.out.trans (S9.out.bel.mono HB0.out.size)⟩
end Go.Proofs.YtcahijpbkjplmaaGreatDoor.G
