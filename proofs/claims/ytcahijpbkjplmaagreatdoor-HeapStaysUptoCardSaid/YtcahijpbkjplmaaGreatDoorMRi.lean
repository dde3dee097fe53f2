/-
  slices.Clone of properties, removeIndex, setLength, by contract. (gen_ri.py)
-/
import Derived.Test.YtcahijpbkjplmaaGreatDoorMRf
import Derived.Test.YtcahijpbkjplmaaGreatDoorMRh
import Derived.Shelf.SlicesE.Clone
namespace Go.Proofs.YtcahijpbkjplmaaGreatDoor.G
open Go.RowKit Go.Shelf Go.Maps Go.Lib Go.Proofs.YtcahijpbkjplmaaGreatDoor

def cloRen : Go.Shelf.Ren := ⟨fun | 41 => 101 | n => n, fun | 4 => 4 | 22 => 121 | 23 => 79 | n => n, fun | n => n⟩
theorem cloLays : SlLaysE0.n41 Tryz.prog cloRen := {
  mixed := by kernel_rfl
  f41 := ⟨Tryz.f101.name, by kernel_rfl, Tryz.func101.trans (congrArg some (by kernel_rfl))⟩
  t4 := Tryz.underlying4
  a4 := Tryz.isAgg4
  z4 := Tryz.sizeOf4
  v4 := Tryz.zeroValue4
  t22 := Tryz.underlying121
  a22 := Tryz.isAgg121
  z22 := Tryz.sizeOf121
  v22 := Tryz.zeroValue121 }
/-- a row's cells -/
theorem row_cell {w : World} {B n : Nat} {T : TypeId} {g cap : Nat} {v : Value} {xs : List Value} (h : w.ownsRow B T 1 v n xs) (e : v = .slice (some ⟨g, 0, none⟩) n cap) {j : Nat} {u : Value} (hj : xs[j]? = some u) : w.cell? ⟨g, j, none⟩ = some u := by
  obtain ⟨hx, h2⟩ := h
  have hlt : j < n := by
    have := (List.getElem?_eq_some_iff.1 hj).1
    rw [hx] at this
    omega
  rcases h2 with ⟨e2, h0⟩ | ⟨g', cap', cur, e2, -, hg, -, -, -, htk⟩
  · omega
  · rw [e] at e2
    injection e2 with e3 _ _
    injection e3 with e3
    injection e3 with e3 _ _
    subst e3
    rw [Nat.mul_one] at htk
    rw [← htk, List.getElem?_take_of_lt hlt, Array.getElem?_toList] at hj
    unfold World.cell?
    rw [hg]
    simpa using hj
theorem row_form {w : World} {B n : Nat} {T : TypeId} {v : Value} {xs : List Value} (h : w.ownsRow B T 1 v n xs) (hn : 0 < n) : ∃ g cap, v = .slice (some ⟨g, 0, none⟩) n cap ∧ n ≤ cap := by
  rcases h.2 with ⟨-, h0⟩ | ⟨g, cap, cur, e, -, -, hc, -⟩
  · omega
  · exact ⟨g, cap, e, hc⟩
theorem row_len {w : World} {B n : Nat} {T : TypeId} {v : Value} {xs : List Value} (h : w.ownsRow B T 1 v n xs) : ∃ A cap, v = .slice A n cap := by
  rcases h.2 with ⟨e, h0⟩ | ⟨g, cap, cur, e, -⟩
  · exact ⟨none, 0, by rw [e, h0]⟩
  · exact ⟨_, cap, e⟩
/-- a copy of a row of properties -/
theorem clo_any {w : World} {nv : Value} {n : Nat} {bs : List Nat} (h : w.ownsRow 0 79 1 nv n (bs.map pv)) (hn : n ≤ 100000) :
    Calls Tryz.prog 101 #[nv] w fun e w' => ∃ nv', e = .returned nv' ∧ w'.ownsRow w.heap.size 79 1 nv' n (bs.map pv) ∧ Below w.heap.size w w' := by
  obtain ⟨i0, hi, hz0, hz1, hz2⟩ := info_parts infoPp
  rcases h.2 with ⟨rfl, rfl⟩ | ⟨g, cap, cur, rfl, -, -, -, -⟩
  · refine (AnyE.slices_Clone_nil cloLays 0 0 w).mono ?_
    rintro e w' ⟨rfl, rfl⟩
    have : bs.map pv = [] := List.eq_nil_of_length_eq_zero (by have := h.1; omega)
    rw [this]
    exact ⟨_, rfl, row_nil _ _ _ _, Below.refl _ _⟩
  · refine (AnyE.slices_Clone cloLays i0 (.pointer none) 1 8 hi hz0 hz1 hz2 rfl (by decide) Tryz.sizeOf79 g 0 n cap (bs.map pv) w h.1 (by unfold maxLen; omega) (by omega) (fun j u hj => ?_) (fun u hu => ?_)).mono ?_
    · rw [Nat.zero_add]
      exact row_cell h rfl hj
    · obtain ⟨b, -, rfl⟩ := List.mem_map.1 hu
      rfl
    · rintro e w' ⟨v', rfl, h1, -, h2⟩
      exact ⟨v', rfl, h1, h2⟩
/-- the first of those that are told -/
theorem selG_first (f : ByteArray → Bool) : ∀ (pb : List Nat) (ps : List Pr), pb.length = ps.length → (ps.findIdx? (fun p => f p.key) = none ∧ selG f pb ps = []) ∨ ∃ k b p, ps.findIdx? (fun p => f p.key) = some k ∧ pb[k]? = some b ∧ ps[k]? = some p ∧ f p.key = true ∧ selG f pb ps = b :: selG f (pb.eraseIdx k) (ps.eraseIdx k)
  | [], [], _ => .inl ⟨rfl, rfl⟩
  | b :: pb, p :: ps, h => by
    rw [List.findIdx?_cons, selG_cons]
    cases hp : f p.key with
    | true => exact .inr ⟨0, b, p, rfl, rfl, rfl, hp, rfl⟩
    | false =>
      rw [if_neg Bool.false_ne_true, if_neg Bool.false_ne_true]
      rcases selG_first f pb ps (by simpa using h) with ⟨h1, h2⟩ | ⟨k, b', p', h1, h2, h3, h4, h5⟩
      · exact .inl ⟨by rw [h1]; rfl, h2⟩
      · refine .inr ⟨k + 1, b', p', by rw [h1]; rfl, by simpa using h2, by simpa using h3, h4, ?_⟩
        rw [List.eraseIdx_cons_succ, List.eraseIdx_cons_succ, selG_cons, hp, if_neg Bool.false_ne_true]
        exact h5
section
variable {w w1 w2 : World} {ow ow1 ow2 : Nat → Option Nat} {i n n1 : Nat} {pp : Value} {b : Nat} {o o1 o2 : Ob} {x x1 x2 : OL}
theorem Chg.low (h : Chg w1 ow i n pp b o1 w2 ow1 x1) (hb : Below w.heap.size w w1) : Chg w ow i n pp b o1 w2 ow1 x1 :=
  ⟨h.b, h.at', h.old, fun k hk => (h.new k hk).imp id fun e => Nat.le_trans hb.size e, h.lt, h.only, ⟨h.fr.os.trans hb.os, h.fr.tape.trans hb.tape, h.fr.output.trans hb.output, Nat.le_trans hb.size h.fr.size, fun k hk => (h.fr.block k ⟨Nat.lt_of_lt_of_le hk.1 hb.size, hk.2⟩).trans (hb.block k hk.1)⟩⟩
theorem Chg.trans (h : Chg w ow i n pp b o1 w1 ow1 x1) (k : Chg w1 ow1 i n1 pp b o2 w2 ow2 x2) : Chg w ow i n1 pp b o2 w2 ow2 x2 := by
  refine ⟨k.b, k.at', fun j r e => k.old j r (h.old j r e), fun j hj => ?_, k.lt, fun j r e hr => h.only j r (k.only j r e hr) hr, ?_⟩
  · rcases k.new j hj with e | e
    · exact h.new j e
    · exact .inr (Nat.le_trans h.fr.size e)
  · refine h.fr.trans ⟨k.fr.os, k.fr.tape, k.fr.output, k.fr.size, fun j hj => k.fr.block j ⟨Nat.lt_of_lt_of_le hj.1 h.fr.size, fun e => ?_⟩⟩
    rcases h.new j (by rw [e]; simp) with e2 | e2
    · cases e3 : ow j with
      | none => exact e2 e3
      | some r =>
        have := h.old j r e3
        rw [e] at this
        exact hj.2 (by rw [e3, this])
    · omega
theorem Chg.self (h : ObjAt w ow i n pp x o) (hl : ∀ k, ow k ≠ none → k < w.heap.size) : Chg w ow i n pp x.b o w ow x := ⟨rfl, h, fun _ _ e => e, fun _ e => .inl e, hl, fun _ _ e _ => e, Fr.refl _ _⟩
theorem ixA_arr {o : Ob} (h : o.cls = AR) (key : ByteArray) : o.ixA ix AR key = ix key := if_pos h
theorem sel_arr {o : Ob} (h : o.cls = AR) (pb : List Nat) (y : Nat) : sel o pb y = selG (fun key => decide (ix key = some y)) pb o.ps := by
  rw [sel_eq]
  congr 1
  funext key
  rw [ixA_arr h]
/-- where a round of removeIndex begins -/
structure Rmi (w : World) (ow : Nat → Option Nat) (i n : Nat) (pp : Value) (b : Nat) (o : Ob) (y : Nat) (l : List Nat) (wr : World) (ow' : Nat → Option Nat) (x' : OL) (oj : Ob) (f : Nat) : Prop where
  chg : Chg w ow i n pp b oj wr ow' x'
  sub : oj.ps.Sublist o.ps
  cls : oj.cls = AR
  sel : sel oj x'.pb y = l
  rm : rmI ix y (o.ps.length + 1) o = rmI ix y f oj
  fl : oj.ps.length < f
set_option maxRecDepth 8000 in
theorem rmIndex_any (h : ObjAt w ow i n pp x o) (hl : ∀ k, ow k ≠ none → k < w.heap.size) (y : Nat) (hy : y < 1000) (hcls : o.cls = AR) (hsp : ∀ p ∈ o.ps, p.key.size ≤ 16777216) (hnd : (o.ps.map (·.key)).Nodup) (hn : n ≤ 100000) (hps : o.ps.length ≤ 100000) (hix : ∀ p ∈ o.ps, ∀ z, ix p.key = some z → z < 1000) :
    Calls Tryz.prog 95 #[pv x.b, .int .i64 (y : Int)] w fun e w' => e = .returned (.bool (rmI ix y (o.ps.length + 1) o).2) ∧ ∃ ow' x', Chg w ow i n pp x.b (rmI ix y (o.ps.length + 1) o).1 w' ow' x' := by
  have c16 := h.ob.cell (k := 16) rfl
  have hlk : (Instr.lookup 82 (.map (some x.im)) (.int .i64 (y : Int)) false).run Tryz.prog w = .ok (x.fi y) w := by
    obtain ⟨ni, -, hmi⟩ := h.mi
    exact hmi.look Tryz.underlying82 (zeroR _) (y := y) (by omega)
  have hlen : (sel o x.pb y).length ≤ 100000 := Nat.le_trans (sel_len o x.pb y) (by rw [h.pl]; exact hps)
  have HC := Lib.hid (clo_any (h.rw y) hlen)
  have HH := Lib.hid h
  have HL := Lib.hid hl
  have HY := Lib.hid hy
  have HCLS := Lib.hid hcls
  have HSP := Lib.hid hsp
  have HND := Lib.hid hnd
  have HN := Lib.hid hn
  have HPS := Lib.hid hps
  have HIX := Lib.hid hix
  clear h hl hy hcls hsp hnd hn hps hix
  obtain ⟨bs, HBS⟩ : ∃ bs, Hid (sel o x.pb y = bs) := ⟨_, rfl⟩
  rw [HBS.out] at HC hlen
  go_enter Tryz.func95, Tryz.ntmps95
  go_wp2_with fail
  refine HC.out.mono ?_
  rintro e w1 ⟨nv, rfl, hrow, hb⟩
  obtain ⟨A0, cap0, env⟩ := row_len hrow
  have HRW := Lib.hid hrow
  have HB := Lib.hid hb
  have HENV := Lib.hid env
  clear hrow hb hlk c16 HC
  rw [env]
  go_wp2_with fail
  go_loopw [15] (fun v wr => ∃ (j f : Nat) (oj : Ob) (ow' : Nat → Option Nat) (x' : OL), v = .int .i64 (j : Int) ∧ j ≤ bs.length ∧ Hid (Rmi w1 ow i n pp x.b o y (bs.drop j) wr ow' x' oj f)) (fun v _ => bs.length - (intOf v).toNat)
  case atStart => 
    refine ⟨0, o.ps.length + 1, o, ow, x, rfl, Nat.zero_le _, Lib.hid ⟨Chg.self (HH.out.low HL.out HB.out) fun k hk => Nat.lt_of_lt_of_le (HL.out k hk) HB.out.size, List.Sublist.refl _, HCLS.out, HBS.out, rfl, Nat.lt_succ_self _⟩⟩
  case round =>
    obtain ⟨j, f, oj, ow', x', rfl, hj, HR⟩ := hrel
    have HR0 := HR.out
    have hrow : wr.ownsRow w.heap.size 79 1 nv bs.length (bs.map pv) := row_same HRW.out fun k e => HR0.chg.fr.block k ⟨(HRW.out.lt k e).2, fun e2 => by
      have h1 := (HRW.out.lt k e).1
      have h2 := HL.out k (by rw [e2]; simp)
      omega⟩
    have hfst := selG_first (fun key => decide (ix key = some y)) x'.pb oj.ps HR0.chg.at'.pl
    rw [← sel_arr HR0.cls, HR0.sel] at hfst
    by_cases hlt : j < bs.length
    · rw [List.drop_eq_getElem_cons hlt] at hfst
      rcases hfst with ⟨-, h0⟩ | ⟨k, b, p, hk, hb1, hp, hpy, hd⟩
      · cases h0
      · injection hd with hd1 hd2
        obtain ⟨g0, cp, hform, hcp⟩ := row_form hrow (by omega)
        have hcell : wr.cell? ⟨g0, j, none⟩ = some (pv b) := row_cell hrow hform (by rw [List.getElem?_map, List.getElem?_eq_getElem hlt, hd1]; rfl)
        have hA : A0 = some ⟨g0, 0, none⟩ ∧ cap0 = cp := by
          have := HENV.out.symm.trans hform
          injection this with e1 _ e3
          exact ⟨e1, e3⟩
        obtain ⟨rfl, rfl⟩ := hA
        have hk1 : k < x'.pb.length := (List.getElem?_eq_some_iff.1 hb1).1
        have hk2 : k < oj.ps.length := (List.getElem?_eq_some_iff.1 hp).1
        have hblk := HR0.chg.at'.pr k hk1 hk2
        rw [(List.getElem?_eq_some_iff.1 hb1).2, (List.getElem?_eq_some_iff.1 hp).2] at hblk
        have c6 : wr.cell? ⟨b, 6, none⟩ = some (.bool p.f) := hblk.cell (k := 6) rfl
        have hmem : p ∈ o.ps := HR0.sub.subset (List.mem_of_getElem? hp)
        have hjlt : (j : Int) < (bs.length : Int) := by omega
        have hj0 : (0 : Int) ≤ (j : Int) := by omega
        cases hf : p.f with
        | false =>
          have HE := Lib.hid hf
          rw [hf] at c6
          clear hf hk1 hk2 hblk hd1 hd2 hpy hrow hform
          have HK := Lib.hid hk
          have HPP := Lib.hid hp
          clear hk hp hb1 hmem HR0
          go_wp2_with fail
          refine bodyPost_ret (results_tmp rfl _ _ _) rfl ?_
          obtain ⟨f', rfl⟩ : ∃ f', f = f' + 1 := ⟨f - 1, by have := HR.out.fl; omega⟩
          have hrm := HR.out.rm.trans (rmI_bar ix (f := f') HK.out HPP.out HE.out)
          rw [hrm]
          exact ⟨rfl, ow', x', HR.out.chg.low HB.out⟩
        | true =>
          have hl' : ∀ k, ow' k ≠ none → k < wr.heap.size := HR0.chg.lt
          have HREM := Lib.hid (remove_any HR0.chg.at' hl' hp hb1 (HSP.out p hmem) ((HR0.sub.map _).nodup HND.out) HN.out (Nat.le_trans HR0.sub.length_le HPS.out) (fun z hz => HIX.out p hmem z (by rw [← ixA_arr HR0.cls]; exact hz)))
          rw [HR0.chg.b] at HREM
          have HNEW : Hid (∀ ow'' x'' w'', x''.pb = x'.pb.eraseIdx k → Chg wr ow' i n pp x.b { oj with ps := oj.ps.eraseIdx k } w'' ow'' x'' → Rmi w1 ow i n pp x.b o y (bs.drop (j + 1)) w'' ow'' x'' { oj with ps := oj.ps.eraseIdx k } (f - 1)) := fun ow'' x'' w'' he hc => by
            obtain ⟨f', rfl⟩ : ∃ f', f = f' + 1 := ⟨f - 1, by have := HR0.fl; omega⟩
            refine ⟨HR0.chg.trans hc, (List.eraseIdx_sublist _ _).trans HR0.sub, HR0.cls, ?_, HR0.rm.trans (rmI_go ix hk hp hf), ?_⟩
            · rw [he, sel_arr (o := { oj with ps := oj.ps.eraseIdx k }) HR0.cls]
              exact hd2.symm
            · show (oj.ps.eraseIdx k).length < f' + 1 - 1
              rw [List.length_eraseIdx_of_lt hk2]
              have := HR0.fl
              omega
          rw [hf] at c6
          clear hf hk1 hk2 hblk hd1 hd2 hpy hrow hform hk hp hb1 hmem HR0 hl'
          go_wp2_with fail
          refine HREM.out.mono ?_
          rintro e w2 ⟨rfl, ow'', x'', he, hc⟩
          have HNX := Lib.hid (HNEW.out _ _ _ he hc)
          clear he hc HREM HNEW HR hcell c6
          go_wp2_with fail
          go_roundw
          case rel => exact ⟨j + 1, f - 1, _, ow'', x'', by go_num, by omega, HNX⟩
          case measure => simp [intOf]; omega
    · have hje : bs.length = j := by omega
      rw [List.drop_eq_nil_of_le (by omega)] at hfst
      rcases hfst with ⟨h0, -⟩ | ⟨k, b, p, hk, hb1, hp, hpy, hd⟩
      · have H0 := Lib.hid h0
        have hjlt : ¬ (j : Int) < (bs.length : Int) := by omega
        clear h0 hrow HR0
        go_wp2_with fail
        refine bodyPost_ret (results_tmp rfl _ _ _) rfl ?_
        obtain ⟨f', rfl⟩ : ∃ f', f = f' + 1 := ⟨f - 1, by have := HR.out.fl; omega⟩
        have hrm := HR.out.rm.trans (rmI_end ix (f := f') H0.out)
        rw [hrm]
        exact ⟨rfl, ow', x', HR.out.chg.low HB.out⟩
      · cases hd
end
end Go.Proofs.YtcahijpbkjplmaaGreatDoor.G
