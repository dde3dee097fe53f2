/-
  setLength, putLength, by contract; a cell of an object is written. (gen_rj.py)
-/
import Derived.Test.YtcahijpbkjplmaaGreatDoorMRi
import Derived.Test.YtcahijpbkjplmaaGreatDoorMHf
namespace Go.Proofs.YtcahijpbkjplmaaGreatDoor.G
open Go.RowKit Go.Shelf Go.Maps Go.Lib Go.Proofs.YtcahijpbkjplmaaGreatDoor

theorem rmI_subl (y : Nat) : ∀ (f : Nat) (o : Ob), (rmI ix y f o).1.ps.Sublist o.ps ∧ (rmI ix y f o).1.cls = o.cls
  | 0, _ => ⟨List.Sublist.refl _, rfl⟩
  | f + 1, o => by
    rw [rmI]
    split
    · exact ⟨List.Sublist.refl _, rfl⟩
    · split
      · obtain ⟨h1, h2⟩ := rmI_subl y f { o with ps := o.ps.eraseIdx _ }
        exact ⟨h1.trans (List.eraseIdx_sublist _ _), h2⟩
      · exact ⟨List.Sublist.refl _, rfl⟩
section
variable {w w1 w2 : World} {ow ow1 ow2 : Nat → Option Nat} {i n : Nat} {pp : Value} {b : Nat} {o o1 : Ob} {x x1 : OL}
/-- a cell of the object itself -/
theorem ObjAt.put (h : ObjAt w ow i n pp x o) {j : Nat} {u : Value} {o' : Ob} (he : objC i o' pp x = (objC i o pp x).set j u) (hps : o'.ps = o.ps) (hcls : o'.cls = o.cls) : ObjAt (w.setCell ⟨x.b, j, none⟩ u) ow i n pp x o' := by
  obtain ⟨cls, proto, ps, closed, len, lw⟩ := o'
  dsimp only at hps hcls
  subst hps hcls
  have hk : ∀ k, k ≠ x.b → (w.setCell ⟨x.b, j, none⟩ u).heap[k]? = w.heap[k]? := fun k hk => Below.heap_setCell _ _ _ _ hk
  obtain ⟨es, c, hes⟩ := h.mp.isMap
  obtain ⟨ni, hn1, hn2⟩ := h.mi
  obtain ⟨es2, c2, hes2⟩ := hn2.isMap
  refine ⟨?_, h.pl, fun k a e => (h.pr k a e).fr (hk _ (h.ring.ne (List.getElem_mem a))), h.nod, h.mp.fr (hk _ (Ne.symm (h.ob.ne_map hes))), ⟨ni, hn1, hn2.fr (hk _ (Ne.symm (h.ob.ne_map hes2)))⟩, fun y => row_same (h.rw y) fun k e => hk k (Ne.symm (h.ob.ne_row (h.rw y) (by decide) k e)), h.ra, h.wb, h.wm, h.wi, h.wp, h.mne⟩
  rw [he]
  exact h.ob.set j u
theorem Chg.put (h : Chg w ow i n pp b o w1 ow1 x1) {j : Nat} {u : Value} {o' : Ob} (he : objC i o' pp x1 = (objC i o pp x1).set j u) (hps : o'.ps = o.ps) (hcls : o'.cls = o.cls) : Chg w ow i n pp b o' (w1.setCell ⟨b, j, none⟩ u) ow1 x1 := by
  have hb := h.b
  refine ⟨h.b, ?_, h.old, h.new, fun k hk => ?_, h.only, h.fr.setCell (p := ⟨b, j, none⟩) (fun hk => ?_) u⟩
  · rw [← hb]
    exact h.at'.put he hps hcls
  · have := h.lt k hk
    simpa [World.setCell] using this
  · have hwb := h.at'.wb
    rw [hb] at hwb
    rcases h.new b (by rw [hwb]; simp) with e | e
    · cases e3 : ow b with
      | none => exact e e3
      | some r =>
        have := h.old b r e3
        rw [hwb] at this
        exact hk.2 (by show ow b = _; rw [e3, this])
    · exact Nat.lt_irrefl _ (Nat.lt_of_lt_of_le hk.1 e)
/-- where a round of setLength begins -/
structure Sln (w : World) (ow : Nat → Option Nat) (i n : Nat) (pp : Value) (b : Nat) (o : Ob) (L d : Nat) (wr : World) (ow' : Nat → Option Nat) (x' : OL) (oj : Ob) : Prop where
  chg : Chg w ow i n pp b oj wr ow' x'
  sub : oj.ps.Sublist o.ps
  cls : oj.cls = AR
  rm : setGo ix L (o.len - L) o = setGo ix L d oj
def LenR (w : World) (ow : Nat → Option Nat) (i n : Nat) (pp : Value) (b : Nat) (r : Ob × Int) (e : Ending) (w' : World) : Prop := e = .returned (.int .i64 r.2) ∧ ∃ ow' x', Chg w ow i n pp b r.1 w' ow' x'
set_option maxRecDepth 8000 in
theorem setLength_any (h : ObjAt w ow i n pp x o) (hl : ∀ k, ow k ≠ none → k < w.heap.size) (v : Vl) (hcls : o.cls = AR) (hsp : ∀ p ∈ o.ps, p.key.size ≤ 16777216) (hnd : (o.ps.map (·.key)).Nodup) (hn : n ≤ 100000) (hps : o.ps.length ≤ 100000) (hlen : o.len ≤ 1000) (hix : ∀ p ∈ o.ps, ∀ z, ix p.key = some z → z < o.len) :
    Calls Tryz.prog 84 #[pv x.b, v.v] w (LenR w ow i n pp x.b (o.length ix v)) := by
  have hb0 := below_new w (.cells v.cs.toArray 29)
  have hW := Blk.new w 29 v.cs
  have HH := Lib.hid (h.low hl hb0)
  have HL : Hid (∀ k, ow k ≠ none → k < (w.alloc (.cells v.cs.toArray 29)).heap.size) := fun k hk => Nat.lt_of_lt_of_le (hl k hk) hb0.size
  have HB := Lib.hid hb0
  have HCLS := Lib.hid hcls
  have HSP := Lib.hid hsp
  have HND := Lib.hid hnd
  have HN := Lib.hid hn
  have HPS := Lib.hid hps
  have HLEN := Lib.hid hlen
  have HIX := Lib.hid hix
  obtain ⟨d0, d1, d2⟩ := Blk.three hW
  have z := hW.fz
  have c14 := HH.out.ob.cell (k := 14) rfl
  obtain ⟨vk, vn, vs⟩ := v
  simp only [Vl.v, Vl.cs] at HH HL HB d0 d1 d2 z c14 ⊢
  clear h hl hcls hsp hnd hn hps hlen hix hb0 hW
  by_cases hk : vk = 3
  · subst hk
    by_cases hn0 : vn < 0
    · have HR : Hid (o.length ix ⟨3, vn, vs⟩ = (o, 100)) := by
        show Ob.length ix o ⟨3, vn, vs⟩ = _
        unfold Ob.length
        rw [if_pos (by simp; omega)]
      go_enter Tryz.func84, Tryz.ntmps84
      go_wp2_with fail
      refine bodyPost_ret (results_tmp rfl _ _ _) rfl ?_
      rw [HR.out]
      exact ⟨rfl, ow, x, (Chg.self HH.out HL.out).low HB.out⟩
    · by_cases hn1 : 1000 < vn
      · have HR : Hid (o.length ix ⟨3, vn, vs⟩ = (o, 100)) := by
          show Ob.length ix o ⟨3, vn, vs⟩ = _
          unfold Ob.length
          rw [if_pos (by simp; omega)]
        go_enter Tryz.func84, Tryz.ntmps84
        go_wp2_with fail
        refine bodyPost_ret (results_tmp rfl _ _ _) rfl ?_
        rw [HR.out]
        exact ⟨rfl, ow, x, (Chg.self HH.out HL.out).low HB.out⟩
      · obtain ⟨L, rfl⟩ : ∃ L : Nat, vn = (L : Int) := ⟨vn.toNat, by omega⟩
        have HR : Hid (o.length ix ⟨3, (L : Int), vs⟩ = setGo ix L (o.len - L) o) := length_is ix o ⟨3, (L : Int), vs⟩ rfl (by show (0 : Int) ≤ L; omega) (by show (L : Int) ≤ 1000; omega) HIX.out
        rw [HR.out]
        clear HR
        have hL : L ≤ 1000 := by omega
        have hw1 : IntKind.i64.wrap ((o.len : Int) - 1) = (o.len : Int) - 1 := IntWalk.i64_in _ (by have := HLEN.out; omega)
        go_enter Tryz.func84, Tryz.ntmps84
        go_wp2_with fail
        generalize w.alloc (.cells #[.int .i64 3, .int .i64 (L : Int), .string vs] 29) = w1 at *
        clear d0 d1 d2 z c14
        go_loopw [6] (fun v wr => ∃ (m : Int) (oj : Ob) (ow' : Nat → Option Nat) (x' : OL), v = .int .i64 m ∧ -1 ≤ m ∧ m < 1000 ∧ Hid (Sln w1 ow i n pp x.b o L (m + 1 - L).toNat wr ow' x' oj)) (fun v _ => (intOf v + 1).toNat)
        case atStart =>
          refine ⟨_, o, ow, x, rfl, by have := HLEN.out; omega, by have := HLEN.out; omega, Lib.hid ⟨Chg.self HH.out HL.out, List.Sublist.refl _, HCLS.out, ?_⟩⟩
          rw [show ((o.len : Int) - 1 + 1 - (L : Int)).toNat = o.len - L by omega]
        case round =>
          obtain ⟨m, oj, ow', x', rfl, hm0, hm1, HR⟩ := hrel
          by_cases hge : (L : Int) ≤ m
          · obtain ⟨y, rfl⟩ : ∃ y : Nat, m = (y : Int) := ⟨m.toNat, by omega⟩
            have hy : y < 1000 := by omega
            have HS := Lib.hid HR.out
            have hd : ((y : Int) + 1 - (L : Int)).toNat = (y - L) + 1 := by omega
            rw [hd] at HS
            clear HR
            have HC := Lib.hid (rmIndex_any HS.out.chg.at' HS.out.chg.lt y hy HS.out.cls (fun p hp => HSP.out p (HS.out.sub.subset hp)) ((HS.out.sub.map _).nodup HND.out) HN.out (Nat.le_trans HS.out.sub.length_le HPS.out) (fun p hp z hz => by have := HIX.out p (HS.out.sub.subset hp) z hz; have := HLEN.out; omega))
            rw [HS.out.chg.b] at HC
            go_wp2_with fail
            refine HC.out.mono ?_
            rintro e w2 ⟨rfl, ow'', x'', hc⟩
            have HC2 := Lib.hid (HS.out.chg.trans hc)
            clear hc HC
            have hyL : L + (y - L) = y := by omega
            cases hb : (rmI ix y (oj.ps.length + 1) oj).2 with
            | true =>
              have HRM := Lib.hid (HS.out.rm.trans (show setGo ix L (y - L + 1) oj = setGo ix L (y - L) (rmI ix y (oj.ps.length + 1) oj).1 by rw [setGo, hyL, if_pos hb]))
              have HSB := Lib.hid (rmI_subl y (oj.ps.length + 1) oj)
              go_wp2_with fail
              go_roundw
              case rel => exact ⟨(y : Int) - 1, _, ow'', x'', by go_num, by omega, by omega, Lib.hid ⟨HC2.out, HSB.out.1.trans HS.out.sub, HSB.out.2.trans HS.out.cls, by rw [show ((y : Int) - 1 + 1 - (L : Int)).toNat = y - L by omega]; exact HRM.out⟩⟩
              case measure => (simp [intOf] <;> omega)
            | false =>
              have HRM := Lib.hid (HS.out.rm.trans (show setGo ix L (y - L + 1) oj = ({ (rmI ix y (oj.ps.length + 1) oj).1 with len := y + 1 }, 110) by rw [setGo, hyL, if_neg (by rw [hb]; exact Bool.false_ne_true)]))
              have c14 : w2.cell? ⟨x.b, 14, none⟩ = some (.int .i64 ((rmI ix y (oj.ps.length + 1) oj).1.len : Int)) := by
                have := HC2.out.at'.ob.cell (k := 14) rfl
                rw [HC2.out.b] at this
                exact this
              have z14 : w2.frozen? ⟨x.b, 14, none⟩ = false := by
                have := HC2.out.at'.ob.fz 14
                rw [HC2.out.b] at this
                exact this
              have hw2 : IntKind.i64.wrap ((y : Int) + 1) = ((y + 1 : Nat) : Int) := by
                rw [IntWalk.i64_in _ (by omega)]
                omega
              go_wp2_with fail
              refine bodyPost_ret (results_tmp rfl _ _ _) rfl ?_
              rw [HRM.out]
              exact ⟨rfl, ow'', x'', (HC2.out.put (j := 14) (u := .int .i64 ((y : Int) + 1)) (o' := { (rmI ix y (oj.ps.length + 1) oj).1 with len := y + 1 }) rfl rfl rfl).low HB.out⟩
          · have HRM : Hid (setGo ix L (o.len - L) o = ({ oj with len := L }, 0)) := by
              have := HR.out.rm
              rw [show (m + 1 - (L : Int)).toNat = 0 by omega] at this
              exact this
            have c14 : wr.cell? ⟨x.b, 14, none⟩ = some (.int .i64 (oj.len : Int)) := by
              have := HR.out.chg.at'.ob.cell (k := 14) rfl
              rw [HR.out.chg.b] at this
              exact this
            have z14 : wr.frozen? ⟨x.b, 14, none⟩ = false := by
              have := HR.out.chg.at'.ob.fz 14
              rw [HR.out.chg.b] at this
              exact this
            go_wp2_with fail
            refine bodyPost_ret (results_tmp rfl _ _ _) rfl ?_
            rw [HRM.out]
            exact ⟨rfl, ow', x', (HR.out.chg.put (j := 14) (u := .int .i64 (L : Int)) (o' := { oj with len := L }) rfl rfl rfl).low HB.out⟩
  · have HR : Hid (o.length ix ⟨vk, vn, vs⟩ = (o, 100)) := by
      show Ob.length ix o ⟨vk, vn, vs⟩ = _
      unfold Ob.length
      rw [if_pos (.inl hk)]
    go_enter Tryz.func84, Tryz.ntmps84
    go_wp2_with fail
    refine bodyPost_ret (results_tmp rfl _ _ _) rfl ?_
    rw [HR.out]
    exact ⟨rfl, ow, x, (Chg.self HH.out HL.out).low HB.out⟩
set_option maxRecDepth 8000 in
theorem putLength_any (h : ObjAt w ow i n pp x o) (hl : ∀ k, ow k ≠ none → k < w.heap.size) (v : Vl) (hcls : o.cls = AR) (hsp : ∀ p ∈ o.ps, p.key.size ≤ 16777216) (hnd : (o.ps.map (·.key)).Nodup) (hn : n ≤ 100000) (hps : o.ps.length ≤ 100000) (hlen : o.len ≤ 1000) (hix : ∀ p ∈ o.ps, ∀ z, ix p.key = some z → z < o.len) :
    Calls Tryz.prog 66 #[pv x.b, v.v] w (LenR w ow i n pp x.b (if o.lw = false then (o, 110) else o.length ix v)) := by
  have hb0 := below_new w (.cells v.cs.toArray 29)
  have h0 := h.low hl hb0
  have HL : Hid (∀ k, ow k ≠ none → k < (w.alloc (.cells v.cs.toArray 29)).heap.size) := fun k hk => Nat.lt_of_lt_of_le (hl k hk) hb0.size
  have HS := Lib.hid (setLength_any h0 HL.out v hcls hsp hnd hn hps hlen hix)
  have HH := Lib.hid h0
  have HB := Lib.hid hb0
  have c15 := h0.ob.cell (k := 15) rfl
  have z := (Blk.new w 29 v.cs).fz
  obtain ⟨d0, d1, d2⟩ := Blk.three (Blk.new w 29 v.cs)
  obtain ⟨vk, vn, vs⟩ := v
  simp only [Vl.v, Vl.cs] at HS HH HL HB c15 z d0 d1 d2 ⊢
  clear h hl hcls hsp hnd hn hps hlen hix h0 hb0
  cases hw : o.lw with
  | false =>
    rw [hw] at c15
    simp only [if_true]
    go_enter Tryz.func66, Tryz.ntmps66
    go_wp2_with fail
    refine bodyPost_ret (results_tmp rfl _ _ _) rfl ⟨rfl, ow, x, (Chg.self HH.out HL.out).low HB.out⟩
  | true =>
    rw [hw] at c15
    rw [if_neg (by simp)]
    go_enter Tryz.func66, Tryz.ntmps66
    go_wp2_with fail
    refine HS.out.mono ?_
    rintro e w1 ⟨rfl, ow', x', hc⟩
    go_wp2_with fail
    refine bodyPost_ret (results_tmp rfl _ _ _) rfl ⟨rfl, ow', x', hc.low HB.out⟩
end
end Go.Proofs.YtcahijpbkjplmaaGreatDoor.G
