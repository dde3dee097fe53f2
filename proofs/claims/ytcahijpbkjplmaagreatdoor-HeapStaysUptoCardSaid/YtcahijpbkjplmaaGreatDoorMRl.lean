/-
  What a change of one object is to a heap; add, Close, by contract. (gen_rl.py)
-/
import Derived.Test.YtcahijpbkjplmaaGreatDoorMRk
import Derived.Test.YtcahijpbkjplmaaGreatDoorMPf
namespace Go.Proofs.YtcahijpbkjplmaaGreatDoor.G
open Go.RowKit Go.Shelf Go.Maps Go.Lib Go.Proofs.YtcahijpbkjplmaaGreatDoor

/-- a heap, changed -/
structure Hch (w : World) (A : Nat) (ow : Nat → Option Nat) (L : List OL) (H' : Hs) (w' : World) (ow' : Nat → Option Nat) (L' : List OL) : Prop where
  ph : PH w' A H' ow' L'
  new : ∀ k, ow' k ≠ none → ow k ≠ none ∨ w.heap.size ≤ k
  fr : Fr (Aw w ow) w w'
  lb : ∃ l, L'.map (·.b) = L.map (·.b) ++ l
section
variable {w w1 w2 : World} {ow ow1 ow2 : Nat → Option Nat} {i A : Nat} {H H1 H2 : Hs} {L L1 L2 : List OL} {o o1 : Ob} {x : OL} {p : Pr}
theorem Hch.trans (h : Hch w A ow L H1 w1 ow1 L1) (k : Hch w1 A ow1 L1 H2 w2 ow2 L2) : Hch w A ow L H2 w2 ow2 L2 := by
  obtain ⟨l, hl⟩ := h.lb
  obtain ⟨l', hl'⟩ := k.lb
  refine ⟨k.ph, fun j hj => ?_, h.fr.trans ⟨k.fr.os, k.fr.tape, k.fr.output, k.fr.size, fun j hj => k.fr.block j ⟨Nat.lt_of_lt_of_le hj.1 h.fr.size, ?_⟩⟩, l ++ l', by rw [hl', hl, List.append_assoc]⟩
  · rcases k.new j hj with e | e
    · exact h.new j e
    · exact .inr (Nat.le_trans h.fr.size e)
  · cases e : ow1 j with
    | none => rfl
    | some r =>
      rcases h.new j (by rw [e]; simp) with e2 | e2
      · exact absurd hj.2 e2
      · exact absurd hj.1 (by omega)
theorem Hch.self (h : PH w A H ow L) : Hch w A ow L H w ow L := ⟨h, fun _ e => .inl e, Fr.refl _ _, [], by simp⟩
theorem Hch.low (h : Hch w1 A ow L H1 w2 ow1 L1) (hb : Below w.heap.size w w1) : Hch w A ow L H1 w2 ow1 L1 :=
  ⟨h.ph, fun k hk => (h.new k hk).imp id fun e => Nat.le_trans hb.size e, ⟨h.fr.os.trans hb.os, h.fr.tape.trans hb.tape, h.fr.output.trans hb.output, Nat.le_trans hb.size h.fr.size, fun k hk => (h.fr.block k ⟨Nat.lt_of_lt_of_le hk.1 hb.size, hk.2⟩).trans (hb.block k hk.1)⟩, h.lb⟩
theorem Hch.below (h : PH w A H ow L) (hb : Below w.heap.size w w1) : Hch w A ow L H w1 ow L := ⟨h.low hb, fun _ e => .inl e, Fr.of hb fun _ hk => hk.1, [], by simp⟩
/-- one object's change -/
theorem PH.chg (h : PH w A H ow L) {b : Nat} (hi : i < L.length) (hb : b = L[i].b) (ho : H.os[i]? = some o) (hc : Chg w ow i H.n (ppv L o.proto) b o1 w1 ow1 x) (hp : o1.proto = o.proto) : Hch w A ow L (H.set i o1) w1 ow1 (L.set i x) := by
  subst hb
  refine ⟨h.upd hi hc.b ho hp hc.at' (fun k r e hr => ⟨hc.old k r e, hc.fr.block k ⟨h.lt k (by rw [e]; simp), fun e2 => hr (by rw [e] at e2; exact Option.some.inj e2)⟩⟩) hc.lt, hc.new, hc.fr.mono fun k hk => ⟨hk.1, by rw [hk.2]; simp⟩, [], ?_⟩
  rw [List.map_set, List.append_nil]
  exact set_id (by rw [List.getElem?_map, List.getElem?_eq_getElem hi, Option.map_some, hc.b])
/-- a cell is taken -/
theorem take_two (h : PH w A H ow L) (g : Gd H) (hm : H.n < H.most) :
    Calls Tryz.prog 43 #[pv A] w fun e w' => e = .returned (.bool true) ∧ PH w' A { H with n := H.n + 1 } ow L ∧ Fr (fun k => k < w.heap.size ∧ k ≠ A) w w' := by
  have HL := Lib.hid (left_any h g.ok.le g.mx)
  have hmx := g.mx
  have e1 : (((H.most : Int) - (H.n : Int)) == 0) = false := by rw [beq_eq_false_iff_ne]; omega
  have hn : (H.n : Int) ≤ 100000 := by omega
  have HH := Lib.hid h
  clear h g hm hmx
  go_enter Tryz.func43, Tryz.ntmps43
  go_wp2_with fail
  refine HL.out.mono ?_
  rintro e w1 ⟨rfl, hb⟩
  have h1 := HH.out.low hb
  obtain ⟨⟨ov, hbk, -, -⟩, -, -, -, -⟩ := id h1
  have c1 := hbk.cell (k := 1) rfl
  have z1 := hbk.fz 1
  have H1 := Lib.hid h1
  have HBL := Lib.hid hb
  clear hbk h1 hb
  go_wp2_with fail
  go_ret
  exact ⟨rfl, H1.out.took, (Fr.of HBL.out fun k hk => hk.1).setCell (fun hk => hk.2 rfl) _⟩
def AddR (w : World) (A : Nat) (ow : Nat → Option Nat) (L : List OL) (r : Hs × Int) (e : Ending) (w' : World) : Prop := e = .returned (.int .i64 r.2) ∧ ∃ ow' L', Hch w A ow L r.1 w' ow' L'
theorem h_n_eta (h : Hs) (i : Nat) (o : Ob) (m : Nat) : ({ (h.set i o) with n := m } : Hs) = ({ h with n := m } : Hs).set i o := rfl
set_option linter.unusedSimpArgs false in
set_option maxRecDepth 8000 in
set_option maxHeartbeats 1000000 in
theorem add_any (h : PH w A H ow L) (g : Gd H) (hx : L[i]? = some x) (ho : H.os[i]? = some o) (p : Pr) (hs : Sp p) (hk : o.ps.findIdx? (has p.key) = none) :
    Calls Tryz.prog 57 #[pv A, pv x.b, p.v'] w (AddR w A ow L (H.add ix AR i o p)) := by
  have hb0 := below_new w (.cells p.cs.toArray 31)
  have HPH := Lib.hid (h.low hb0)
  have HB := Lib.hid hb0
  have HW := Lib.hid (Blk.new w 31 p.cs)
  have hw0 := HW.out
  have hi : i < L.length := (List.getElem?_eq_some_iff.1 hx).1
  have hxi : L[i] = x := (List.getElem?_eq_some_iff.1 hx).2
  have hio : i < H.os.length := by rw [← h.len]; exact hi
  have hoi : H.os[i] = o := by rw [List.getElem?_eq_getElem hio] at ho; exact Option.some.inj ho
  have hob := HPH.out.ob i hi hio
  rw [hoi, hxi] at hob
  have HOB := Lib.hid hob
  have HG := Lib.hid g
  have HX0 := Lib.hid hx
  have HO := Lib.hid ho
  have HS := Lib.hid hs
  have HK := Lib.hid hk
  have HX := Lib.hid (index_cell (w := w.alloc (.cells p.cs.toArray 31)) (b := x.b) o (hob.ob.cell (k := 1) rfl) p.key (by have := hs.1; unfold maxLen; omega))
  have c3 : (w.alloc (.cells p.cs.toArray 31)).cell? ⟨x.b, 3, none⟩ = some (.bool o.closed) := hob.ob.cell (k := 3) rfl
  obtain ⟨r, HR⟩ : ∃ r, Hid (H.add ix AR i o p = r) := ⟨_, rfl⟩
  rw [HR.out]
  have HPH0 := Lib.hid h
  clear hxi hoi hob hw0 hio hi h g hx ho hs hk hb0
  obtain ⟨pk, ⟨pvk, pvn, pvs⟩, pw, pe, pf⟩ := p
  obtain ⟨d0, d1, d2, d3, d4, d5, d6⟩ := Blk.seven (p := ⟨pk, ⟨pvk, pvn, pvs⟩, pw, pe, pf⟩) HW.out
  simp only [Pr.v', Pr.cs, Vl.v] at HPH HB HW HX HOB c3 d0 d1 d2 d3 d4 d5 d6 ⊢
  cases hcl : o.closed with
  | true =>
    rw [hcl] at c3
    have HV : Hid (H.add ix AR i o ⟨pk, ⟨pvk, pvn, pvs⟩, pw, pe, pf⟩ = (H, 110)) := by
      have hb : o.bar ix AR pk = 110 := by
        unfold Ob.bar
        rw [hcl]
        rfl
      show Hs.add ix AR H i o ⟨pk, ⟨pvk, pvn, pvs⟩, pw, pe, pf⟩ = _
      unfold Hs.add
      rw [show Pr.key ⟨pk, ⟨pvk, pvn, pvs⟩, pw, pe, pf⟩ = pk from rfl, hb]
      exact if_pos (by decide)
    go_enter Tryz.func57, Tryz.ntmps57
    go_wp2_with fail
    refine bodyPost_ret (results_tmp rfl _ _ _) rfl ?_
    rw [← HR.out, HV.out]
    exact ⟨rfl, ow, L, (Hch.self HPH.out).low HB.out⟩
  | false =>
    rw [hcl] at c3
    have HCL := Lib.hid hcl
    go_enter Tryz.func57, Tryz.ntmps57
    go_wp2_with fail
    refine HX.out.mono ?_
    rintro e w1 ⟨rfl, hb1⟩
    clear d0 d1 d2 d3 d4 d5 d6 c3
    replace HPH := Lib.hid (HPH.out.low hb1)
    replace HOB := Lib.hid (HOB.out.low (fun k hk => Nat.lt_of_lt_of_le (HPH0.out.lt k hk) HB.out.size) hb1)
    replace HW := Lib.hid (HW.out.low hb1)
    replace HB := Lib.hid (HB.out.trans (hb1.mono HB.out.size))
    clear HX hb1
    have c14 : w1.cell? ⟨x.b, 14, none⟩ = some (.int .i64 (o.len : Int)) := HOB.out.ob.cell (k := 14) rfl
    have c15 : w1.cell? ⟨x.b, 15, none⟩ = some (.bool (!o.lw)) := HOB.out.ob.cell (k := 15) rfl
    cases hq : o.ixA ix AR pk with
    | none =>
      have HYX : Hid (∀ y, o.ixA ix AR pk = some y → y < 1000) := fun y e => by rw [hq] at e; cases e
      have HB0 : Hid (o.bar ix AR pk = 0) := by
        show Ob.bar ix AR o pk = 0
        unfold Ob.bar
        rw [HCL.out, hq]
        rfl
      simp only [idxRes] at *
      have hb0 : o.bar ix AR pk = 0 := HB0.out
      by_cases hm : H.most ≤ H.n
      · have HV : Hid (H.add ix AR i o ⟨pk, ⟨pvk, pvn, pvs⟩, pw, pe, pf⟩ = (H, 111)) := by
          show Hs.add ix AR H i o ⟨pk, ⟨pvk, pvn, pvs⟩, pw, pe, pf⟩ = _
          unfold Hs.add
          rw [show Pr.key ⟨pk, ⟨pvk, pvn, pvs⟩, pw, pe, pf⟩ = pk from rfl, hb0, if_neg (by decide), if_pos hm]
        have HT := Lib.hid (take_none HPH.out HG.out hm)
        clear hb0
        go_wp2_with fail
        refine HT.out.mono ?_
        rintro e w2 ⟨rfl, hb2⟩
        go_wp2_with fail
        refine bodyPost_ret (results_tmp rfl _ _ _) rfl ?_
        rw [← HR.out, HV.out]
        exact ⟨rfl, ow, L, (Hch.self (HPH.out.low hb2)).low (HB.out.trans (hb2.mono HB.out.size))⟩
      · have HV : Hid (H.add ix AR i o ⟨pk, ⟨pvk, pvn, pvs⟩, pw, pe, pf⟩ = ({ (H.set i (o.more ix AR ⟨pk, ⟨pvk, pvn, pvs⟩, pw, pe, pf⟩)) with n := H.n + 1 }, 0)) := by
          show Hs.add ix AR H i o ⟨pk, ⟨pvk, pvn, pvs⟩, pw, pe, pf⟩ = _
          unfold Hs.add
          rw [show Pr.key ⟨pk, ⟨pvk, pvn, pvs⟩, pw, pe, pf⟩ = pk from rfl, hb0, if_neg (by decide), if_neg hm]
        have HT := Lib.hid (take_two HPH.out HG.out (by omega))
        clear hb0
        go_wp2_with fail
        refine HT.out.mono ?_
        rintro e w2 ⟨rfl, hp2, hf2⟩
        have hA : ow A = some 0 := HPH0.out.wA
        have HW2 := Lib.hid (HW.out.fr (hf2.block _ ⟨HW.out.lt, fun e => Nat.lt_irrefl _ (by have := HPH0.out.lt A (by rw [hA]; simp); rw [← e] at this; exact this)⟩))
        have HOB2 : Hid (ObjAt w2 ow i H.n (ppv L o.proto) x o) := HOB.out.fr (fun k hk => ⟨hk, hf2.block k ⟨HPH.out.lt k (by rw [hk]; simp), fun e => by rw [e, hA] at hk; cases hk⟩⟩) (Nat.le_refl _)
        have HP2 := Lib.hid hp2
        have HF2 := Lib.hid hf2
        have hog := HG.out.og i o HO.out
        have HAP := Lib.hid (append_any HOB2.out HP2.out.lt ⟨pk, ⟨pvk, pvn, pvs⟩, pw, pe, pf⟩ HS.out HK.out HG.out.n100 (Nat.le_trans hog.l HG.out.n100) HYX.out)
        obtain ⟨d0, d1, d2, d3, d4, d5, d6⟩ := Blk.seven (p := ⟨pk, ⟨pvk, pvn, pvs⟩, pw, pe, pf⟩) HW2.out
        simp only [Pr.v', Vl.v] at HAP d0 d1 d2 d3 d4 d5 d6
        clear hp2 hf2 HT hog hA c14 c15
        go_wp2_with fail
        refine HAP.out.mono ?_
        rintro e w3 ⟨rfl, ow', x', hc⟩
        have HC := Lib.hid hc
        clear hc HAP d0 d1 d2 d3 d4 d5 d6
        go_wp2_with fail
        refine bodyPost_ret (results_tmp rfl _ _ _) rfl ?_
        rw [← HR.out, HV.out]
        have h1 : Hch w2 A ow L (({ H with n := H.n + 1 } : Hs).set i (o.more ix AR ⟨pk, ⟨pvk, pvn, pvs⟩, pw, pe, pf⟩)) w3 ow' (L.set i x') := HP2.out.chg (H := { H with n := H.n + 1 }) (List.getElem?_eq_some_iff.1 HX0.out).1 (by rw [(List.getElem?_eq_some_iff.1 HX0.out).2]) HO.out HC.out rfl
        have h2 : Hch w1 A ow L { H with n := H.n + 1 } w2 ow L := ⟨HP2.out, fun _ e => .inl e, HF2.out.mono fun k hk => ⟨hk.1, fun e => by have := HPH0.out.wA; rw [← e, hk.2] at this; cases this⟩, [], by simp⟩
        exact ⟨rfl, ow', L.set i x', (h2.trans h1).low HB.out⟩
    | some y =>
      have HQ := Lib.hid hq
      simp only [idxRes] at *
      by_cases h1 : 1000 ≤ y
      · have HB0 : Hid (o.bar ix AR pk = 100) := by
          show Ob.bar ix AR o pk = 100
          unfold Ob.bar
          rw [HCL.out, HQ.out]
          simp [h1]
        have HV : Hid (H.add ix AR i o ⟨pk, ⟨pvk, pvn, pvs⟩, pw, pe, pf⟩ = (H, 100)) := by
          show Hs.add ix AR H i o ⟨pk, ⟨pvk, pvn, pvs⟩, pw, pe, pf⟩ = _
          unfold Hs.add
          rw [show Pr.key ⟨pk, ⟨pvk, pvn, pvs⟩, pw, pe, pf⟩ = pk from rfl, HB0.out]
          exact if_pos (by decide)
        have i1 : (1000 : Int) ≤ (y : Int) := by omega
        go_wp2_with fail
        refine bodyPost_ret (results_tmp rfl _ _ _) rfl ?_
        rw [← HR.out, HV.out]
        exact ⟨rfl, ow, L, (Hch.self HPH.out).low HB.out⟩
      · have i1 : ¬ (1000 : Int) ≤ (y : Int) := by omega
        have HYX : Hid (∀ z, o.ixA ix AR pk = some z → z < 1000) := fun z e => by rw [HQ.out] at e; cases e; omega
        by_cases h2 : o.len ≤ y
        · have i2 : (o.len : Int) ≤ (y : Int) := by omega
          cases hlw : o.lw with
          | false =>
            rw [hlw] at c15
            have HB0 : Hid (o.bar ix AR pk = 110) := by
              show Ob.bar ix AR o pk = 110
              unfold Ob.bar
              rw [HCL.out, HQ.out]
              simp [h1, h2, hlw]
            have HV : Hid (H.add ix AR i o ⟨pk, ⟨pvk, pvn, pvs⟩, pw, pe, pf⟩ = (H, 110)) := by
              show Hs.add ix AR H i o ⟨pk, ⟨pvk, pvn, pvs⟩, pw, pe, pf⟩ = _
              unfold Hs.add
              rw [show Pr.key ⟨pk, ⟨pvk, pvn, pvs⟩, pw, pe, pf⟩ = pk from rfl, HB0.out]
              exact if_pos (by decide)
            go_wp2_with fail
            refine bodyPost_ret (results_tmp rfl _ _ _) rfl ?_
            rw [← HR.out, HV.out]
            exact ⟨rfl, ow, L, (Hch.self HPH.out).low HB.out⟩
          | true =>
            rw [hlw] at c15
            have HB0 : Hid (o.bar ix AR pk = 0) := by
              show Ob.bar ix AR o pk = 0
              unfold Ob.bar
              rw [HCL.out, HQ.out]
              simp [h1, hlw]
            have hb0 : o.bar ix AR pk = 0 := HB0.out
            by_cases hm : H.most ≤ H.n
            · have HV : Hid (H.add ix AR i o ⟨pk, ⟨pvk, pvn, pvs⟩, pw, pe, pf⟩ = (H, 111)) := by
                show Hs.add ix AR H i o ⟨pk, ⟨pvk, pvn, pvs⟩, pw, pe, pf⟩ = _
                unfold Hs.add
                rw [show Pr.key ⟨pk, ⟨pvk, pvn, pvs⟩, pw, pe, pf⟩ = pk from rfl, hb0, if_neg (by decide), if_pos hm]
              have HT := Lib.hid (take_none HPH.out HG.out hm)
              clear hb0
              go_wp2_with fail
              refine HT.out.mono ?_
              rintro e w2 ⟨rfl, hb2⟩
              go_wp2_with fail
              refine bodyPost_ret (results_tmp rfl _ _ _) rfl ?_
              rw [← HR.out, HV.out]
              exact ⟨rfl, ow, L, (Hch.self (HPH.out.low hb2)).low (HB.out.trans (hb2.mono HB.out.size))⟩
            · have HV : Hid (H.add ix AR i o ⟨pk, ⟨pvk, pvn, pvs⟩, pw, pe, pf⟩ = ({ (H.set i (o.more ix AR ⟨pk, ⟨pvk, pvn, pvs⟩, pw, pe, pf⟩)) with n := H.n + 1 }, 0)) := by
                show Hs.add ix AR H i o ⟨pk, ⟨pvk, pvn, pvs⟩, pw, pe, pf⟩ = _
                unfold Hs.add
                rw [show Pr.key ⟨pk, ⟨pvk, pvn, pvs⟩, pw, pe, pf⟩ = pk from rfl, hb0, if_neg (by decide), if_neg hm]
              have HT := Lib.hid (take_two HPH.out HG.out (by omega))
              clear hb0
              go_wp2_with fail
              refine HT.out.mono ?_
              rintro e w2 ⟨rfl, hp2, hf2⟩
              have hA : ow A = some 0 := HPH0.out.wA
              have HW2 := Lib.hid (HW.out.fr (hf2.block _ ⟨HW.out.lt, fun e => Nat.lt_irrefl _ (by have := HPH0.out.lt A (by rw [hA]; simp); rw [← e] at this; exact this)⟩))
              have HOB2 : Hid (ObjAt w2 ow i H.n (ppv L o.proto) x o) := HOB.out.fr (fun k hk => ⟨hk, hf2.block k ⟨HPH.out.lt k (by rw [hk]; simp), fun e => by rw [e, hA] at hk; cases hk⟩⟩) (Nat.le_refl _)
              have HP2 := Lib.hid hp2
              have HF2 := Lib.hid hf2
              have hog := HG.out.og i o HO.out
              have HAP := Lib.hid (append_any HOB2.out HP2.out.lt ⟨pk, ⟨pvk, pvn, pvs⟩, pw, pe, pf⟩ HS.out HK.out HG.out.n100 (Nat.le_trans hog.l HG.out.n100) HYX.out)
              obtain ⟨d0, d1, d2, d3, d4, d5, d6⟩ := Blk.seven (p := ⟨pk, ⟨pvk, pvn, pvs⟩, pw, pe, pf⟩) HW2.out
              simp only [Pr.v', Vl.v] at HAP d0 d1 d2 d3 d4 d5 d6
              clear hp2 hf2 HT hog hA c14 c15
              go_wp2_with fail
              refine HAP.out.mono ?_
              rintro e w3 ⟨rfl, ow', x', hc⟩
              have HC := Lib.hid hc
              clear hc HAP d0 d1 d2 d3 d4 d5 d6
              go_wp2_with fail
              refine bodyPost_ret (results_tmp rfl _ _ _) rfl ?_
              rw [← HR.out, HV.out]
              have h1 : Hch w2 A ow L (({ H with n := H.n + 1 } : Hs).set i (o.more ix AR ⟨pk, ⟨pvk, pvn, pvs⟩, pw, pe, pf⟩)) w3 ow' (L.set i x') := HP2.out.chg (H := { H with n := H.n + 1 }) (List.getElem?_eq_some_iff.1 HX0.out).1 (by rw [(List.getElem?_eq_some_iff.1 HX0.out).2]) HO.out HC.out rfl
              have h2 : Hch w1 A ow L { H with n := H.n + 1 } w2 ow L := ⟨HP2.out, fun _ e => .inl e, HF2.out.mono fun k hk => ⟨hk.1, fun e => by have := HPH0.out.wA; rw [← e, hk.2] at this; cases this⟩, [], by simp⟩
              exact ⟨rfl, ow', L.set i x', (h2.trans h1).low HB.out⟩
        · have i2 : ¬ (o.len : Int) ≤ (y : Int) := by omega
          have HB0 : Hid (o.bar ix AR pk = 0) := by
            show Ob.bar ix AR o pk = 0
            unfold Ob.bar
            rw [HCL.out, HQ.out]
            simp [h1, h2]
          have hb0 : o.bar ix AR pk = 0 := HB0.out
          by_cases hm : H.most ≤ H.n
          · have HV : Hid (H.add ix AR i o ⟨pk, ⟨pvk, pvn, pvs⟩, pw, pe, pf⟩ = (H, 111)) := by
              show Hs.add ix AR H i o ⟨pk, ⟨pvk, pvn, pvs⟩, pw, pe, pf⟩ = _
              unfold Hs.add
              rw [show Pr.key ⟨pk, ⟨pvk, pvn, pvs⟩, pw, pe, pf⟩ = pk from rfl, hb0, if_neg (by decide), if_pos hm]
            have HT := Lib.hid (take_none HPH.out HG.out hm)
            clear hb0
            go_wp2_with fail
            refine HT.out.mono ?_
            rintro e w2 ⟨rfl, hb2⟩
            go_wp2_with fail
            refine bodyPost_ret (results_tmp rfl _ _ _) rfl ?_
            rw [← HR.out, HV.out]
            exact ⟨rfl, ow, L, (Hch.self (HPH.out.low hb2)).low (HB.out.trans (hb2.mono HB.out.size))⟩
          · have HV : Hid (H.add ix AR i o ⟨pk, ⟨pvk, pvn, pvs⟩, pw, pe, pf⟩ = ({ (H.set i (o.more ix AR ⟨pk, ⟨pvk, pvn, pvs⟩, pw, pe, pf⟩)) with n := H.n + 1 }, 0)) := by
              show Hs.add ix AR H i o ⟨pk, ⟨pvk, pvn, pvs⟩, pw, pe, pf⟩ = _
              unfold Hs.add
              rw [show Pr.key ⟨pk, ⟨pvk, pvn, pvs⟩, pw, pe, pf⟩ = pk from rfl, hb0, if_neg (by decide), if_neg hm]
            have HT := Lib.hid (take_two HPH.out HG.out (by omega))
            clear hb0
            go_wp2_with fail
            refine HT.out.mono ?_
            rintro e w2 ⟨rfl, hp2, hf2⟩
            have hA : ow A = some 0 := HPH0.out.wA
            have HW2 := Lib.hid (HW.out.fr (hf2.block _ ⟨HW.out.lt, fun e => Nat.lt_irrefl _ (by have := HPH0.out.lt A (by rw [hA]; simp); rw [← e] at this; exact this)⟩))
            have HOB2 : Hid (ObjAt w2 ow i H.n (ppv L o.proto) x o) := HOB.out.fr (fun k hk => ⟨hk, hf2.block k ⟨HPH.out.lt k (by rw [hk]; simp), fun e => by rw [e, hA] at hk; cases hk⟩⟩) (Nat.le_refl _)
            have HP2 := Lib.hid hp2
            have HF2 := Lib.hid hf2
            have hog := HG.out.og i o HO.out
            have HAP := Lib.hid (append_any HOB2.out HP2.out.lt ⟨pk, ⟨pvk, pvn, pvs⟩, pw, pe, pf⟩ HS.out HK.out HG.out.n100 (Nat.le_trans hog.l HG.out.n100) HYX.out)
            obtain ⟨d0, d1, d2, d3, d4, d5, d6⟩ := Blk.seven (p := ⟨pk, ⟨pvk, pvn, pvs⟩, pw, pe, pf⟩) HW2.out
            simp only [Pr.v', Vl.v] at HAP d0 d1 d2 d3 d4 d5 d6
            clear hp2 hf2 HT hog hA c14 c15
            go_wp2_with fail
            refine HAP.out.mono ?_
            rintro e w3 ⟨rfl, ow', x', hc⟩
            have HC := Lib.hid hc
            clear hc HAP d0 d1 d2 d3 d4 d5 d6
            go_wp2_with fail
            refine bodyPost_ret (results_tmp rfl _ _ _) rfl ?_
            rw [← HR.out, HV.out]
            have h1 : Hch w2 A ow L (({ H with n := H.n + 1 } : Hs).set i (o.more ix AR ⟨pk, ⟨pvk, pvn, pvs⟩, pw, pe, pf⟩)) w3 ow' (L.set i x') := HP2.out.chg (H := { H with n := H.n + 1 }) (List.getElem?_eq_some_iff.1 HX0.out).1 (by rw [(List.getElem?_eq_some_iff.1 HX0.out).2]) HO.out HC.out rfl
            have h2 : Hch w1 A ow L { H with n := H.n + 1 } w2 ow L := ⟨HP2.out, fun _ e => .inl e, HF2.out.mono fun k hk => ⟨hk.1, fun e => by have := HPH0.out.wA; rw [← e, hk.2] at this; cases this⟩, [], by simp⟩
            exact ⟨rfl, ow', L.set i x', (h2.trans h1).low HB.out⟩
end
end Go.Proofs.YtcahijpbkjplmaaGreatDoor.G
