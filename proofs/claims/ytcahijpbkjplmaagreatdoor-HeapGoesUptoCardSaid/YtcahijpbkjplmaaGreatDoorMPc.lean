/-
 Small functions of the program's heap, by contract.
 copyVal, copyProp, plain, by contract.
-/
import Derived.Test.YtcahijpbkjplmaaGreatDoorMZ0
import Derived.BigQuiet
import Derived.Deep.QuietTactic
set_option linter.unusedSimpArgs false
namespace Go.Proofs.YtcahijpbkjplmaaGreatDoor.G
open Go.RowKit Go.Maps Go.Proofs.YtcahijpbkjplmaaGreatDoor
theorem infoV : (Tryz.prog.info? 29).map (·.size) = some 3 := by kernel_rfl
theorem infoP : (Tryz.prog.info? 31).map (·.size) = some 7 := by kernel_rfl
def Pr.cs (p : Pr) : List Value := [.string p.key, .int .i64 p.v.k, .int .i64 p.v.n, .string p.v.s, .bool p.w, .bool p.e, .bool p.f]
theorem res_v {fn : Func} {p : Tmp} (h : fn.results = #[.cell p 29]) (tmps : Array Value) (w : World) (g : Nat) (v : Vl) (hp : tmps.getD p undef = pv g) (hg : Blk w g 29 v.cs) : (results fn tmps).run Tryz.prog w = .ok v.v w :=
 results_cell_row h tmps w g 29 v.cs.toArray (0, 0) _ hp hg Tryz.underlying29 rfl infoV
theorem res_p {fn : Func} {p : Tmp} (h : fn.results = #[.cell p 31]) (tmps : Array Value) (w : World) (g : Nat) (v : Pr) (hp : tmps.getD p undef = pv g) (hg : Blk w g 31 v.cs) : (results fn tmps).run Tryz.prog w = .ok v.v' w :=
 results_cell_row h tmps w g 31 v.cs.toArray (0, 0) _ hp hg Tryz.underlying31 rfl infoP
theorem res_vt {fn : Func} {p u : Tmp} (h : fn.results = #[.cell p 29, .tmp u]) (tmps : Array Value) (w : World) (g : Nat) (v : Vl) (b : Value) (hp : tmps.getD p undef = pv g) (hb : tmps.getD u undef = b) (hg : Blk w g 29 v.cs) : (results fn tmps).run Tryz.prog w = .ok (.tuple #[v.v, b]) w := by
 rw [results_cell_tmp h, hp, hb]
 simp only [asAddr, Sem.run_pure, Result.andThen_ok]
 rw [run_loadVar_row w g 29 29 v.cs.toArray (0, 0) _ hg Tryz.underlying29 rfl infoV]
 rfl
theorem res_pt {fn : Func} {p u : Tmp} (h : fn.results = #[.cell p 31, .tmp u]) (tmps : Array Value) (w : World) (g : Nat) (v : Pr) (b : Value) (hp : tmps.getD p undef = pv g) (hb : tmps.getD u undef = b) (hg : Blk w g 31 v.cs) : (results fn tmps).run Tryz.prog w = .ok (.tuple #[v.v', b]) w := by
 rw [results_cell_tmp h, hp, hb]
 simp only [asAddr, Sem.run_pure, Result.andThen_ok]
 rw [run_loadVar_row w g 31 31 v.cs.toArray (0, 0) _ hg Tryz.underlying31 rfl infoP]
 rfl
theorem ar_eq (s : ByteArray) : (s.toList == [65, 114, 114, 97, 121]) = decide (s = AR) := by
 rw [show ([65, 114, 114, 97, 121] : List UInt8) = AR.toList by rw [ByteArray.toList_eq]; rfl, Bool.eq_iff_iff]
 simp only [beq_iff_eq, decide_eq_true_eq, ByteArray.toList_eq]
 exact ⟨fun h => ByteArray.ext (Array.toList_inj.1 h), fun h => by rw [h]⟩
theorem lk_eq' (s : ByteArray) : (s.toList == [0, 108, 0, 101, 0, 110, 0, 103, 0, 116, 0, 104]) = decide (s = LK) := by
 rw [show ([0, 108, 0, 101, 0, 110, 0, 103, 0, 116, 0, 104] : List UInt8) = LK.toList by rw [ByteArray.toList_eq]; rfl, Bool.eq_iff_iff]
 simp only [beq_iff_eq, decide_eq_true_eq, ByteArray.toList_eq]
 exact ⟨fun h => ByteArray.ext (Array.toList_inj.1 h), fun h => by rw [h]⟩
section
variable {w : World} {ow : Nat → Option Nat} {i n A : Nat} {pp : Value} {x : OL} {o : Ob} {H : Hs} {L : List OL}
theorem left_any (h : PH w A H ow L) (h1 : H.n ≤ H.most) (h2 : H.most ≤ 100000) :
  Calls Tryz.prog 63 #[pv A] w fun e w' => e = .returned (.int .i64 ((H.most : Int) - (H.n : Int))) ∧ Below w.heap.size w w' := by
 obtain ⟨⟨ov, hb, -, -⟩, -, -, -, -⟩ := h
 have c0 := hb.cell (k := 0) rfl
 have c1 := hb.cell (k := 1) rfl
 have h3 : (H.n : Int) ≤ (H.most : Int) := by omega
 have h4 : (H.most : Int) ≤ 100000 := by omega
 have h5 : (0 : Int) ≤ (H.n : Int) := by omega
 have e1 : IntKind.i64.wrap ((H.most : Int) - (H.n : Int)) = (H.most : Int) - (H.n : Int) := IntWalk.i64_in _ (by omega)
 clear h1 h2 hb
 go_enter Tryz.func63, Tryz.ntmps63
 go_wp2_with fail
 go_quiet (fail)
 go_wp2_with fail
 go_ret
 exact ⟨rfl, below_drewN _ _ _⟩
theorem isArray_cell {b : Nat} {cls : ByteArray} (c1 : w.cell? ⟨b, 1, none⟩ = some (.string cls)) :
  Calls Tryz.prog 68 #[pv b] w fun e w' => e = .returned (.bool (decide (cls = AR))) ∧ w = w' := by
 have HC := Lib.hid (ar_eq cls)
 go_enter Tryz.func68, Tryz.ntmps68
 go_wp2_with fail
 go_ret
 exact ⟨ret_bool HC.out, rfl⟩
theorem isArray_any (h : ObjAt w ow i n pp x o) :
  Calls Tryz.prog 68 #[pv x.b] w fun e w' => e = .returned (.bool (decide (o.cls = AR))) ∧ w = w' := isArray_cell (h.ob.cell (k := 1) rfl)
theorem isLength_any (h : ObjAt w ow i n pp x o) (key : ByteArray) :
  Calls Tryz.prog 54 #[pv x.b, .string key] w fun e w' => e = .returned (.bool (o.isLen LK AR key)) ∧ w = w' := by
 have HI := Lib.hid (isArray_any h)
 have HK := Lib.hid (lk_eq' key)
 clear h
 unfold Ob.isLen
 by_cases hc : o.cls = AR
 ·rw [decide_eq_true hc] at HI ⊢
  rw [Bool.true_and]
  clear hc
  go_enter Tryz.func54, Tryz.ntmps54
  go_wp2_with fail
  refine HI.out.mono ?_
  rintro e w' ⟨rfl, rfl⟩
  go_wp2_with fail
  go_ret
  exact ⟨ret_bool HK.out, rfl⟩
 ·rw [decide_eq_false hc] at HI ⊢
  rw [Bool.false_and]
  clear hc
  go_enter Tryz.func54, Tryz.ntmps54
  go_wp2_with fail
  refine HI.out.mono ?_
  rintro e w' ⟨rfl, rfl⟩
  go_wp2_with fail
  go_ret
  exact ⟨rfl, rfl⟩
theorem value_any (h : ObjAt w ow i n pp x o) :
  Calls Tryz.prog 62 #[pv x.b] w fun e w' => e = .returned (ref i).v ∧ Below w.heap.size w w' := by
 have c0 := h.ob.cell (k := 0) rfl
 have hl := h.blt
 clear h
 have HB := Lib.hid (below_new w)
 go_enter Tryz.func62, Tryz.ntmps62
 go_wp2_with fail
 refine bodyPost_ret (res_v rfl _ _ w.heap.size (ref i) (by rfl) ?_) rfl ⟨rfl, ?_⟩
 ·exact Blk.new w _ _
 ·exact HB.out _
theorem lengthValue_any (h : ObjAt w ow i n pp x o) :
  Calls Tryz.prog 83 #[pv x.b] w fun e w' => e = .returned (num o.len).v ∧ Below w.heap.size w w' := by
 have c0 := h.ob.cell (k := 14) rfl
 have hl := h.blt
 clear h
 have HB := Lib.hid (below_new w)
 go_enter Tryz.func83, Tryz.ntmps83
 go_wp2_with fail
 refine bodyPost_ret (res_v rfl _ _ w.heap.size (num o.len) (by rfl) ?_) rfl ⟨rfl, ?_⟩
 ·exact Blk.new w _ _
 ·exact HB.out _
theorem index_cell {b : Nat} (o : Ob) (c1 : w.cell? ⟨b, 1, none⟩ = some (.string o.cls)) (key : ByteArray) (hs : key.size ≤ maxLen) :
  Calls Tryz.prog 85 #[pv b, .string key] w fun e w' => e = .returned (idxRes (o.ixA ix AR key)) ∧ Below w.heap.size w w' := by
 have HI := Lib.hid (isArray_cell c1)
 have HX := Lib.hid (fun w => index_any key w hs)
 clear hs c1
 unfold Ob.ixA
 by_cases hc : o.cls = AR
 ·rw [decide_eq_true hc] at HI
  rw [if_pos hc]
  unfold ix
  cases hx : idx (us key.data.toList) with
  | none =>
   rw [hx] at HX
   unfold idxRes at HX ⊢
   dsimp only at HX ⊢
   clear hc hx
   go_enter Tryz.func85, Tryz.ntmps85
   go_wp2_with fail
   refine HI.out.mono ?_
   rintro e w' ⟨rfl, rfl⟩
   go_wp2_with fail
   refine (HX.out _).mono ?_
   rintro e w' ⟨rfl, hb⟩
   go_wp2_with fail
   go_ret2
   exact ⟨rfl, hb⟩
  | some y =>
   rw [hx] at HX
   unfold idxRes at HX ⊢
   dsimp only at HX ⊢
   clear hc hx
   go_enter Tryz.func85, Tryz.ntmps85
   go_wp2_with fail
   refine HI.out.mono ?_
   rintro e w' ⟨rfl, rfl⟩
   go_wp2_with fail
   refine (HX.out _).mono ?_
   rintro e w' ⟨rfl, hb⟩
   go_wp2_with fail
   go_ret2
   exact ⟨rfl, hb⟩
 ·rw [decide_eq_false hc] at HI
  rw [if_neg hc]
  clear hc
  go_enter Tryz.func85, Tryz.ntmps85
  go_wp2_with fail
  refine HI.out.mono ?_
  rintro e w' ⟨rfl, rfl⟩
  go_wp2_with fail
  go_ret2
  exact ⟨rfl, Below.refl _ _⟩
theorem new_any (m : Int) (w : World) :
  Calls Tryz.prog 9 #[.int .i64 m] w fun e w' => ∃ b ow, e = .returned (pv b) ∧ PH w' b (Hs.new m) ow [] ∧ (∀ k, ow k ≠ none → w.heap.size ≤ k) ∧ Below w.heap.size w w' := by
 have HB := Lib.hid (below_new w)
 have HM : Hid (min (max m 0) 100000 = ((Hs.new m).most : Int)) := by
  show min (max m 0) 100000 = (((min (max m 0) 100000).toNat : Nat) : Int)
  omega
 go_enter Tryz.func9, Tryz.ntmps9
 go_wp2_with fail
 go_ret
 refine ⟨w.heap.size, fun k => if k = w.heap.size then some 0 else none, rfl, ?_, fun k hk => ?_, HB.out _⟩
 ·refine ⟨⟨.slice none 0 0, ?_, row_nil _ _ _ _, fun g e => by cases e⟩, if_pos rfl, rfl, fun i h => absurd h (Nat.not_lt_zero _), fun k hk => ?_⟩
  ·rw [← HM.out]
   exact Blk.new w _ _
  ·rw [World.size_alloc]
   split at hk
   ·omega
   ·exact absurd rfl hk
 ·dsimp only at hk
  split at hk
  ·omega
  ·exact absurd rfl hk
end
theorem str_em {s : ByteArray} (h : s ≠ nil) : s.toList.isEmpty = false ∧ ¬ s.toList = [] := by
 have h2 : ¬ s.toList = [] := fun e => h (by
  rw [ByteArray.toList_eq] at e
  exact ByteArray.ext (Array.toList_inj.1 e))
 exact ⟨by rw [Bool.eq_false_iff]; intro e; exact h2 (List.isEmpty_iff.1 e), h2⟩
theorem at_none {h : Hs} {v : Vl} (e : ¬ (v.k = 7 ∧ v.s = nil ∧ 1 ≤ v.n ∧ v.n ≤ h.os.length)) : h.at v = none := by
 unfold Hs.at
 rw [if_neg e]
theorem at_some' {h : Hs} {v : Vl} (e : v.k = 7 ∧ v.s = nil ∧ 1 ≤ v.n ∧ v.n ≤ h.os.length) : h.at v = some (v.n - 1).toNat := by
 unfold Hs.at
 rw [if_pos e]
set_option maxRecDepth 8000 in
theorem find_any {w : World} {ow : Nat → Option Nat} {A : Nat} {H : Hs} {L : List OL} (h : PH w A H ow L) (v : Vl) (hl : H.os.length ≤ 100000) :
  Calls Tryz.prog 51 #[pv A, v.v] w fun e w' => e = .returned (ppv L (H.at v)) ∧ Below w.heap.size w w' := by
 have hlen := h.len
 obtain ⟨⟨ov, hb, hrow, -⟩, -, -, -, -⟩ := h
 have c2 := hb.cell (k := 2) rfl
 have hA := hb.lt
 have HB := Lib.hid (below_new w)
 obtain ⟨vk, vn, vs⟩ := v
 simp only [Vl.v]
 clear hb
 by_cases h1 : vk = 7
 ·subst h1
  by_cases h2 : vs = nil
  ·subst h2
   by_cases h3 : vn < 1
   ·have HN := Lib.hid (at_none (h := H) (v := ⟨7, vn, nil⟩) (fun e => by have := e.2.2.1; simp only at this; omega))
    unfold nil at *
    go_enter Tryz.func51, Tryz.ntmps51
    go_wp2_with fail
    go_quiet (fail)
    go_wp2_with fail
    go_ret
    exact ⟨by rw [HN.out]; rfl, (HB.out _).trans (below_drewN _ _ _)⟩
   ·by_cases h4 : (H.os.length : Int) < vn
    ·have HN := Lib.hid (at_none (h := H) (v := ⟨7, vn, nil⟩) (fun e => by have := e.2.2.2; simp only at this; omega))
     have HL := Lib.hid hlen
     obtain ⟨cp, A', rfl⟩ : ∃ cp, ∃ A', ov = .slice A' L.length cp := by
      rcases hrow.2 with ⟨rfl, e⟩ | ⟨g, cap, cur, rfl, _⟩
      ·exact ⟨0, none, by rw [e]⟩
      ·exact ⟨cap, _, rfl⟩
     rw [← hlen] at h4
     unfold nil at *
     clear hrow hlen
     go_enter Tryz.func51, Tryz.ntmps51
     go_wp2_with fail
     go_quiet (fail)
     go_wp2_with fail
     go_ret
     exact ⟨by rw [HN.out]; rfl, (HB.out _).trans (below_drewN _ _ _)⟩
    ·obtain ⟨k, hkn⟩ : ∃ k : Nat, vn = (k : Int) + 1 := ⟨(vn - 1).toNat, by omega⟩
     have hk : k < L.length := by omega
     have HN := Lib.hid (at_some' (h := H) (v := ⟨7, vn, nil⟩) ⟨rfl, rfl, by show (1 : Int) ≤ vn; omega, by show vn ≤ _; omega⟩)
     obtain ⟨g, cap, rfl, hcell⟩ : ∃ g cap, ov = .slice (some ⟨g, 0, none⟩) L.length cap ∧ w.cell? ⟨g, k, none⟩ = some (pv L[k].b) := by
      have hcs := fun g hg => World.ownsRow.cells hrow (g := g) hg
      rcases hrow.2 with ⟨rfl, e⟩ | ⟨g, cap, cur, rfl, _⟩
      ·omega
      ·refine ⟨g, cap, rfl, ?_⟩
       have := hcs g rfl k (pv L[k].b) (by rw [List.getElem?_map, List.getElem?_eq_getElem hk]; rfl)
       rw [add_lit, Nat.zero_add] at this
       exact this
     have hg : g < w.heap.size := (hrow.lt g rfl).2
     have HL := Lib.hid hlen
     have hk1 : vn ≤ (L.length : Int) := by omega
     have hk2 : (L.length : Int) ≤ 100000 := by omega
     have hk3 : 1 ≤ vn := by omega
     have e1 : IntKind.i64.wrap (vn - 1) = vn - 1 := IntWalk.i64_in _ (by omega)
     have e2 : (vn - 1).toNat = k := by omega
     have e3 : (0 : Int) ≤ vn - 1 := by omega
     have e4 : vn - 1 < (L.length : Int) := by omega
     have HKN := Lib.hid hkn
     have HP : Hid (ppv L (some k) = pv L[k].b) := by
      show ppv L (some k) = pv L[k].b
      simp only [ppv, List.getElem?_eq_getElem hk]
     obtain ⟨tb, htb⟩ : ∃ tb, tb = L[k].b := ⟨_, rfl⟩
     rw [← htb] at hcell HP
     clear htb
     unfold nil at *
     clear hrow hlen h3 h4 hk hkn hl
     go_enter Tryz.func51, Tryz.ntmps51
     go_wp2_with fail
     go_quiet (fail)
     go_wp2_with fail
     go_quiet (fail)
     go_wp2_with fail
     go_ret
     refine ⟨?_, ?_⟩
     ·rw [HN.out, show ((⟨7, vn, ⟨#[]⟩⟩ : Vl).n - 1).toNat = k from e2, HP.out]
      rfl
     ·exact ((HB.out _).trans (below_drewN _ _ _)).trans (below_drewN _ _ _)
  ·have HN := Lib.hid (at_none (h := H) (v := ⟨7, vn, vs⟩) (fun e => h2 e.2.1))
   obtain ⟨g1, g2⟩ := str_em h2
   clear h2
   go_enter Tryz.func51, Tryz.ntmps51
   go_wp2_with fail
   go_quiet (fail)
   go_wp2_with fail
   go_ret
   exact ⟨by rw [HN.out]; rfl, (HB.out _).trans (below_drewN _ _ _)⟩
 ·have HN := Lib.hid (at_none (h := H) (v := ⟨vk, vn, vs⟩) (fun e => h1 e.1))
  have g1 : (vk == 7) = false := by rw [beq_eq_false_iff_ne]; exact h1
  have g2 : (vk != 7) = true := by rw [bne_iff_ne]; exact h1
  clear h1
  go_enter Tryz.func51, Tryz.ntmps51
  go_wp2_with fail
  go_quiet (fail)
  go_wp2_with fail
  go_ret
  exact ⟨by rw [HN.out]; rfl, (HB.out _).trans (below_drewN _ _ _)⟩
theorem Blk.three {w : World} {b : Nat} {T : TypeId} {v : Vl} (h : Blk w b T v.cs) : w.cell? ⟨b, 0, none⟩ = some (.int .i64 v.k) ∧ w.cell? ⟨b, 1, none⟩ = some (.int .i64 v.n) ∧ w.cell? ⟨b, 2, none⟩ = some (.string v.s) := ⟨h.cell rfl, h.cell rfl, h.cell rfl⟩
theorem Blk.seven {w : World} {b : Nat} {T : TypeId} {p : Pr} (h : Blk w b T p.cs) : w.cell? ⟨b, 0, none⟩ = some (.string p.key) ∧ w.cell? ⟨b, 1, none⟩ = some (.int .i64 p.v.k) ∧ w.cell? ⟨b, 2, none⟩ = some (.int .i64 p.v.n) ∧ w.cell? ⟨b, 3, none⟩ = some (.string p.v.s) ∧ w.cell? ⟨b, 4, none⟩ = some (.bool p.w) ∧ w.cell? ⟨b, 5, none⟩ = some (.bool p.e) ∧ w.cell? ⟨b, 6, none⟩ = some (.bool p.f) :=
 ⟨h.cell rfl, h.cell rfl, h.cell rfl, h.cell rfl, h.cell rfl, h.cell rfl, h.cell rfl⟩
def pr0 : Pr := ⟨⟨#[]⟩, ⟨0, 0, ⟨#[]⟩⟩, false, false, false⟩
def vl0 : Vl := ⟨0, 0, ⟨#[]⟩⟩
theorem two_new (w : World) (T T' : TypeId) (xs ys : List Value) : ∃ W0, (w.alloc (.cells xs.toArray T)).alloc (.cells ys.toArray T') = W0 ∧ Blk W0 w.heap.size T xs ∧ Blk W0 (w.heap.size + 1) T' ys ∧ Below w.heap.size w W0 := by
 refine ⟨_, rfl, (Blk.new w _ _).low (below_new _ _), ?_, (below_new w _).trans ((below_new _ _).mono (by simp))⟩
 have := Blk.new (w.alloc (.cells xs.toArray T)) T' ys
 rw [World.size_alloc] at this
 exact this
theorem copyVal_any (v : Vl) (w : World) (hs : v.s.size ≤ 281474976710656) :
  Calls Tryz.prog 61 #[v.v] w fun e w' => e = .returned v.v ∧ Below w.heap.size w w' := by
 have HC := Lib.hid (fun w => clone_any v.s w hs)
 have HST := Lib.hid (two_new w 29 29 v.cs vl0.cs)
 clear hs
 obtain ⟨vk, vn, vs⟩ := v
 simp only [Vl.v, Vl.cs, vl0] at HST ⊢
 go_enter Tryz.func61, Tryz.ntmps61
 go_wp2_with fail
 obtain ⟨W0, hW0, h1, h2, h3⟩ := HST.out
 refine (HC.out _).mono ?_
 rintro e w1 ⟨rfl, hb⟩
 rw [hW0] at hb
 have H1 := Lib.hid (h1.low hb)
 have H2 := Lib.hid (h2.low hb)
 have H3 := Lib.hid (h3.trans (hb.mono h3.size))
 clear hb h1 h2 h3 hW0 HST W0
 obtain ⟨c0, c1, c2⟩ := Blk.three (v := ⟨vk, vn, vs⟩) H1.out
 obtain ⟨d0, d1, d2⟩ := Blk.three (v := ⟨0, 0, ⟨#[]⟩⟩) H2.out
 have z1 := H1.out.fz
 have z2 := H2.out.fz
 dsimp only at c0 c1 c2 d0 d1 d2
 go_wp2_with fail
 refine bodyPost_ret (res_v rfl _ _ (w.heap.size + 1) ⟨vk, vn, vs⟩ (by rfl) ?_) rfl ⟨rfl, ?_⟩
 ·exact (((H2.out.other (by simp) _).set 0 _).set 1 _).set 2 _
 ·exact (((H3.out.setCell (p := ⟨w.heap.size, 2, none⟩) (Nat.le_refl _) _).setCell (p := ⟨w.heap.size + 1, 0, none⟩) (Nat.le_succ _) _).setCell (p := ⟨w.heap.size + 1, 1, none⟩) (Nat.le_succ _) _).setCell (p := ⟨w.heap.size + 1, 2, none⟩) (Nat.le_succ _) _
theorem plain_any (key : ByteArray) (v : Vl) (w : World) :
  Calls Tryz.prog 64 #[.string key, v.v] w fun e w' => e = .returned (Pr.v' ⟨key, v, true, true, true⟩) ∧ Below w.heap.size w w' := by
 have HST := Lib.hid (two_new w 29 31 v.cs (Pr.cs ⟨key, v, true, true, true⟩))
 obtain ⟨vk, vn, vs⟩ := v
 simp only [Vl.v, Vl.cs, Pr.cs, Pr.v'] at HST ⊢
 go_enter Tryz.func64, Tryz.ntmps64
 go_wp2_with fail
 obtain ⟨W0, hW0, h1, h2, h3⟩ := HST.out
 refine bodyPost_ret (res_p rfl _ _ (w.heap.size + 1) ⟨key, ⟨vk, vn, vs⟩, true, true, true⟩ (by rfl) ?_) rfl ⟨rfl, ?_⟩
 ·rw [← hW0] at h2
  exact h2
 ·rw [← hW0] at h3
  exact h3
set_option maxRecDepth 4000 in
theorem copyProp_any (p : Pr) (w : World) (hs : p.key.size ≤ 281474976710656) (hv : p.v.s.size ≤ 281474976710656) :
  Calls Tryz.prog 59 #[p.v'] w fun e w' => e = .returned p.v' ∧ Below w.heap.size w w' := by
 have HC := Lib.hid (fun w => clone_any p.key w hs)
 have HV := Lib.hid (fun w => copyVal_any p.v w hv)
 have HST := Lib.hid (two_new w 31 31 p.cs pr0.cs)
 clear hs hv
 obtain ⟨key, ⟨vk, vn, vs⟩, pw, pe, pf⟩ := p
 simp only [Vl.v, Pr.cs, Pr.v', pr0] at HST HV HC ⊢
 go_enter Tryz.func59, Tryz.ntmps59
 go_wp2_with fail
 obtain ⟨W0, hW0, h1, h2, h3⟩ := HST.out
 rw [hW0]
 clear hW0 HST
 have hx : Blk W0.drew w.heap.size 31 (Pr.cs ⟨key, ⟨vk, vn, vs⟩, pw, pe, pf⟩) ∧ Blk W0.drew (w.heap.size + 1) 31 pr0.cs ∧ Below w.heap.size w W0.drew := ⟨h1.low (below_draw _), h2.low (below_draw _), h3.trans ((below_draw _).mono h3.size)⟩
 clear h1 h2 h3
 refine wp_region_held_drew (S := fun w' => Blk w' w.heap.size 31 (Pr.cs ⟨key, ⟨vk, vn, vs⟩, pw, pe, pf⟩) ∧ Blk w' (w.heap.size + 1) 31 pr0.cs ∧ Below w.heap.size w w') (by kernel_rfl) (by exact hx) (fun hHeld0 => ?_)
 generalize W0.drew = v0 at *
 refine tk 0 ?_ ‹_› ?_ ?_; rotate_left; focus (intro w0 hSw; obtain ⟨c0, c1, c2, c3, c4, c5, c6⟩ := Blk.seven hSw.1; dsimp only at c0 c1 c2 c3; go_simp; try with_reducible rfl)
 refine tk 1 ?_ ‹_› ?_ ?_; rotate_left; focus (intro w0 hSw; obtain ⟨c0, c1, c2, c3, c4, c5, c6⟩ := Blk.seven hSw.1; dsimp only at c0 c1 c2 c3; go_simp; try with_reducible rfl)
 refine tk 3 ?_ ‹_› ?_ ?_; rotate_left; focus (intro w0 hSw; obtain ⟨c0, c1, c2, c3, c4, c5, c6⟩ := Blk.seven hSw.1; dsimp only at c0 c1 c2 c3; go_simp; try with_reducible rfl)
 refine tk 4 ?_ ‹_› ?_ ?_; rotate_left; focus (intro w0 hSw; obtain ⟨c0, c1, c2, c3, c4, c5, c6⟩ := Blk.seven hSw.1; dsimp only at c0 c1 c2 c3; go_simp; try with_reducible rfl)
 try simp only [PT]
 refine wpAnyH_ready (rs := [2]) (by decide +kernel) (by simp) (AllReadyH.cons rfl (fun K hK => ?_) AllReadyH.nil)
 go_simp
 refine (HC.out _).mono ?_
 rintro e v1 ⟨rfl, hb⟩
 have hy := hx
 clear hx
 have hx : Blk v1 w.heap.size 31 (Pr.cs ⟨key, ⟨vk, vn, vs⟩, pw, pe, pf⟩) ∧ Blk v1 (w.heap.size + 1) 31 pr0.cs ∧ Below w.heap.size w v1 := ⟨hy.1.low hb, hy.2.1.low hb, hy.2.2.trans (hb.mono hy.2.2.size)⟩
 clear hy hb
 refine hK.out _ _ hx (fun hHeld1 => ?_)
 clear hK K hHeld0 
 try simp only [PT]
 refine tk 6 ?_ ‹_› ?_ ?_; rotate_left; focus (intro w0 hSw; go_simp; try with_reducible rfl)
 try simp only [PT]
 refine wpAnyH_ready (rs := [5]) (by decide +kernel) (by simp) (AllReadyH.cons rfl (fun K hK => ?_) AllReadyH.nil)
 go_simp
 refine (HV.out _).mono ?_
 rintro e v2 ⟨rfl, hb⟩
 have hy := hx
 clear hx
 have hx : Blk v2 w.heap.size 31 (Pr.cs ⟨key, ⟨vk, vn, vs⟩, pw, pe, pf⟩) ∧ Blk v2 (w.heap.size + 1) 31 pr0.cs ∧ Below w.heap.size w v2 := ⟨hy.1.low hb, hy.2.1.low hb, hy.2.2.trans (hb.mono hy.2.2.size)⟩
 clear hy hb
 refine hK.out _ _ hx (fun hHeld2 => ?_)
 clear hK K hHeld1 
 try simp only [PT]
 refine wpAnyH_ready (rs := [7]) (by decide +kernel) (by simp) (AllReadyH.cons rfl (fun K hK => ?_) AllReadyH.nil)
 obtain ⟨c0, c1, c2, c3, c4, c5, c6⟩ := Blk.seven hx.1; dsimp only at c0 c1 c2 c3
 have z := hx.1.fz
 go_simp
 have hx2 : Blk (v2.setCell ⟨w.heap.size, 0, none⟩ (.string key)) w.heap.size 31 (Pr.cs ⟨key, ⟨vk, vn, vs⟩, pw, pe, pf⟩) ∧ Blk (v2.setCell ⟨w.heap.size, 0, none⟩ (.string key)) (w.heap.size + 1) 31 pr0.cs ∧ Below w.heap.size w (v2.setCell ⟨w.heap.size, 0, none⟩ (.string key)) := ⟨hx.1.set 0 _, hx.2.1.other (by simp) _, hx.2.2.setCell (Nat.le_refl _) _⟩
 clear c0 c1 c2 c3 c4 c5 c6 z
 refine hK.out _ _ hx2 (fun hHeld3 => ?_)
 clear hK K hHeld2 
 try simp only [PT]
 refine tk 8 ?_ ‹_› ?_ ?_; rotate_left; focus (intro w0 hSw; go_simp; try with_reducible rfl)
 try simp only [PT]
 generalize v2.setCell ⟨w.heap.size, 0, none⟩ (.string key) = v3 at *
 refine wpAnyH_ready (rs := [9]) (by decide +kernel) (by simp) (AllReadyH.cons rfl (fun K hK => ?_) AllReadyH.nil)
 obtain ⟨c0, c1, c2, c3, c4, c5, c6⟩ := Blk.seven hx2.1; dsimp only at c0 c1 c2 c3
 have z := hx2.1.fz
 go_simp
 have hx3 : Blk (((v3.setCell ⟨w.heap.size, 1, none⟩ (.int .i64 vk)).setCell ⟨w.heap.size, 2, none⟩ (.int .i64 vn)).setCell ⟨w.heap.size, 3, none⟩ (.string vs)) w.heap.size 31 (Pr.cs ⟨key, ⟨vk, vn, vs⟩, pw, pe, pf⟩) ∧ Blk (((v3.setCell ⟨w.heap.size, 1, none⟩ (.int .i64 vk)).setCell ⟨w.heap.size, 2, none⟩ (.int .i64 vn)).setCell ⟨w.heap.size, 3, none⟩ (.string vs)) (w.heap.size + 1) 31 pr0.cs ∧ Below w.heap.size w (((v3.setCell ⟨w.heap.size, 1, none⟩ (.int .i64 vk)).setCell ⟨w.heap.size, 2, none⟩ (.int .i64 vn)).setCell ⟨w.heap.size, 3, none⟩ (.string vs)) := ⟨((hx2.1.set 1 _).set 2 _).set 3 _, ((hx2.2.1.other (by simp) _).other (by simp) _).other (by simp) _, ((hx2.2.2.setCell (p := ⟨w.heap.size, 1, none⟩) (Nat.le_refl _) _).setCell (p := ⟨w.heap.size, 2, none⟩) (Nat.le_refl _) _).setCell (p := ⟨w.heap.size, 3, none⟩) (Nat.le_refl _) _⟩
 clear c0 c1 c2 c3 c4 c5 c6 z
 refine hK.out _ _ hx3 (fun hHeld4 => ?_)
 clear hK K hHeld3 
 try simp only [PT]
 refine wpAnyH_done (by kernel_rfl) ?_ _
 generalize ((v3.setCell ⟨w.heap.size, 1, none⟩ (.int .i64 vk)).setCell ⟨w.heap.size, 2, none⟩ (.int .i64 vn)).setCell ⟨w.heap.size, 3, none⟩ (.string vs) = v4 at *
 clear hx hx2
 have H1 := Lib.hid hx3.1
 have H2 := Lib.hid hx3.2.1
 have H3 := Lib.hid hx3.2.2
 obtain ⟨c0, c1, c2, c3, c4, c5, c6⟩ := Blk.seven hx3.1
 dsimp only at c0 c1 c2 c3 c4 c5 c6
 obtain ⟨d0, d1, d2, d3, d4, d5, d6⟩ := Blk.seven hx3.2.1
 have z2 := hx3.2.1.fz
 clear hx3
 dsimp only [pr0] at d0 d1 d2 d3 d4 d5 d6 z2
 go_wp2_with fail
 refine bodyPost_ret (res_p rfl _ _ (w.heap.size + 1) ⟨key, ⟨vk, vn, vs⟩, pw, pe, pf⟩ (by rfl) ?_) rfl ⟨rfl, ?_⟩
 ·exact ((((((H2.out.set 0 _).set 1 _).set 2 _).set 3 _).set 4 _).set 5 _).set 6 _
 ·exact ((((((H3.out.setCell (p := ⟨w.heap.size + 1, 0, none⟩) (Nat.le_succ _) _).setCell (p := ⟨w.heap.size + 1, 1, none⟩) (Nat.le_succ _) _).setCell (p := ⟨w.heap.size + 1, 2, none⟩) (Nat.le_succ _) _).setCell (p := ⟨w.heap.size + 1, 3, none⟩) (Nat.le_succ _) _).setCell (p := ⟨w.heap.size + 1, 4, none⟩) (Nat.le_succ _) _).setCell (p := ⟨w.heap.size + 1, 5, none⟩) (Nat.le_succ _) _).setCell (p := ⟨w.heap.size + 1, 6, none⟩) (Nat.le_succ _) _
end Go.Proofs.YtcahijpbkjplmaaGreatDoor.G
