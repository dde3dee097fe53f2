/-
 AN ARRAY IS CUT INDEX BY INDEX, from the greatest on: the same as property by property. No Go in sight.
 slices.Clone of properties, removeIndex, setLength, by contract.
 setLength, putLength, by contract; a cell of an object is written.
-/
import Derived.Test.YtcahijpbkjplmaaGreatDoorMHe
import Derived.Test.YtcahijpbkjplmaaGreatDoorMRf
import Derived.Test.YtcahijpbkjplmaaGreatDoorMHf
import Derived.Shelf.SlicesE.Clone
set_option linter.unusedSimpArgs false
namespace Go.Proofs.YtcahijpbkjplmaaGreatDoor.G
section
variable (ix : ByteArray → Option Nat)
def isI (y : Nat) (p : Pr) : Bool := decide (ix p.key = some y)
def rmI (y : Nat) : Nat → Ob → Ob × Bool
 | 0, o => (o, true)
 | f + 1, o => match o.ps.findIdx? (isI ix y) with
  | none => (o, true)
  | some k => if ((o.ps[k]?).map (·.f)).getD true then rmI y f { o with ps := o.ps.eraseIdx k } else (o, false)
def setGo (n : Nat) : Nat → Ob → Ob × Int
 | 0, o => ({ o with len := n }, 0)
 | d + 1, o => if (rmI ix (n + d) (o.ps.length + 1) o).2 then setGo n d (rmI ix (n + d) (o.ps.length + 1) o).1 else ({ (rmI ix (n + d) (o.ps.length + 1) o).1 with len := n + d + 1 }, 110)
theorem worst_stay {n y : Nat} {k0 : Nat} : ∀ {ps : List Pr} {k : Nat}, (∀ p ∈ ps, ∀ x, ix p.key = some x → x ≤ y) → worst ix n ps k (some (k0, y)) = some (k0, y)
 | [], _, _ => rfl
 | p :: r, k, h => by
  rw [worst]
  have ih := worst_stay (n := n) (k0 := k0) (ps := r) (k := k + 1) (fun q hq => h q (List.mem_cons_of_mem _ hq))
  cases hx : ix p.key with
  | none => exact ih
  | some x =>
   have hle := h p (List.mem_cons_self ..) x hx
   dsimp only
   rw [if_neg]
   ·exact ih
   ·simp only [Option.all_some, decide_eq_true_eq, not_and]
    omega
theorem worst_is {n y : Nat} (hn : n ≤ y) : ∀ {ps : List Pr} {k j : Nat} {b : Option (Nat × Nat)}, (∀ p ∈ ps, ∀ x, ix p.key = some x → x ≤ y) → b.all (fun z => decide (z.2 < y)) = true → ps.findIdx? (isI ix y) = some j → worst ix n ps k b = some (k + j, y)
 | [], _, _, _, _, _, h => by simp at h
 | p :: r, k, j, b, h, hb, hj => by
  rw [worst]
  rw [List.findIdx?_cons] at hj
  have hr : ∀ q ∈ r, ∀ x, ix q.key = some x → x ≤ y := fun q hq => h q (List.mem_cons_of_mem _ hq)
  by_cases hp : ix p.key = some y
  ·rw [isI, decide_eq_true hp, if_pos rfl] at hj
   cases hj
   rw [hp]
   dsimp only
   rw [if_pos ⟨hn, hb⟩]
   exact worst_stay ix hr
  ·rw [isI, decide_eq_false hp, if_neg Bool.false_ne_true] at hj
   obtain ⟨j', hj', rfl⟩ := Option.map_eq_some_iff.1 hj
   rw [show k + (j' + 1) = k + 1 + j' by omega]
   refine worst_is hn hr ?_ hj'
   cases hx : ix p.key with
   | none => exact hb
   | some x =>
    have hle := h p (List.mem_cons_self ..) x hx
    have hne : x ≠ y := fun e => hp (by rw [hx, e])
    dsimp only
    split
    ·simp only [Option.all_some, decide_eq_true_eq]
     omega
    ·exact hb
theorem rmI_sub (y : Nat) : ∀ (f : Nat) (o : Ob), ∀ p ∈ (rmI ix y f o).1.ps, p ∈ o.ps
 | 0, _, _, h => h
 | f + 1, o, p, h => by
  rw [rmI] at h
  split at h
  ·exact h
  ·split at h
   ·exact List.mem_of_mem_eraseIdx (rmI_sub y f _ p h)
   ·exact h
theorem rmI_none (y : Nat) : ∀ (f : Nat) (o : Ob), o.ps.length < f → (rmI ix y f o).2 = true → ∀ p ∈ (rmI ix y f o).1.ps, ix p.key ≠ some y
 | 0, _, h, _ => by omega
 | f + 1, o, hf, ht => by
  rw [rmI] at ht ⊢
  cases hk : o.ps.findIdx? (isI ix y) with
  | none =>
   intro p hp e
   have := List.findIdx?_eq_none_iff.1 hk p hp
   rw [isI, decide_eq_true e] at this
   cases this
  | some k =>
   rw [hk] at ht
   dsimp only at ht ⊢
   have hk' : k < o.ps.length := (List.findIdx?_eq_some_iff_getElem.1 hk).1
   split
   ·rename_i hc
    rw [if_pos hc] at ht
    refine rmI_none y f _ ?_ ht
    show (o.ps.eraseIdx k).length < f
    rw [List.length_eraseIdx_of_lt hk']
    omega
   ·rename_i hc
    rw [if_neg hc] at ht
    cases ht
theorem rmI_end {y f : Nat} {o : Ob} (h : o.ps.findIdx? (isI ix y) = none) : rmI ix y (f + 1) o = (o, true) := by
 rw [rmI, h]
theorem rmI_go {y f k : Nat} {o : Ob} {p : Pr} (h : o.ps.findIdx? (isI ix y) = some k) (hp : o.ps[k]? = some p) (hf : p.f = true) : rmI ix y (f + 1) o = rmI ix y f { o with ps := o.ps.eraseIdx k } := by
 rw [rmI, h]
 dsimp only
 rw [if_pos (by rw [hp]; exact hf)]
theorem rmI_bar {y f k : Nat} {o : Ob} {p : Pr} (h : o.ps.findIdx? (isI ix y) = some k) (hp : o.ps[k]? = some p) (hf : p.f = false) : rmI ix y (f + 1) o = (o, false) := by
 rw [rmI, h]
 dsimp only
 rw [if_neg (by rw [hp]; show ¬ p.f = true; rw [hf]; exact Bool.false_ne_true)]
theorem rmI_cut {n y : Nat} (hn : n ≤ y) : ∀ (f : Nat) (o : Ob), o.ps.length < f → (∀ p ∈ o.ps, ∀ x, ix p.key = some x → x ≤ y) → o.cut ix n = if (rmI ix y f o).2 then (rmI ix y f o).1.cut ix n else ({ (rmI ix y f o).1 with len := y + 1 }, 110)
 | 0, _, h, _ => by omega
 | f + 1, o, hf, hm => by
  cases hk : o.ps.findIdx? (isI ix y) with
  | none => rw [rmI_end ix hk]; rfl
  | some k =>
   have hk' : k < o.ps.length := (List.findIdx?_eq_some_iff_getElem.1 hk).1
   have hw := worst_is ix hn (ps := o.ps) (k := 0) (b := none) hm rfl hk
   rw [Nat.zero_add] at hw
   have hp : o.ps[k]? = some o.ps[k] := List.getElem?_eq_getElem hk'
   cases hf' : o.ps[k].f with
   | true =>
    rw [rmI_go ix hk hp hf', cut_go ix hw hp hf']
    refine rmI_cut hn f _ ?_ fun p h => hm p (List.mem_of_mem_eraseIdx h)
    show (o.ps.eraseIdx k).length < f
    rw [List.length_eraseIdx_of_lt hk']
    omega
   | false =>
    rw [rmI_bar ix hk hp hf', cut_bar ix hw hp hf']
    rfl
theorem setGo_cut (n : Nat) : ∀ (d : Nat) (o : Ob), (∀ p ∈ o.ps, ∀ x, ix p.key = some x → x < n + d) → setGo ix n d o = o.cut ix n
 | 0, o, h => by
  rw [setGo, cut_none]
  cases hw : worst ix n o.ps 0 none with
  | none => rfl
  | some z =>
   obtain ⟨k, x⟩ := z
   obtain ⟨p, hp, e1, e2, -⟩ := worst_some ix hw
   have := h p (List.mem_of_getElem? hp) x e1
   omega
 | d + 1, o, h => by
  have hr := rmI_cut ix (n := n) (y := n + d) (by omega) (o.ps.length + 1) o (by omega) (fun p hp x hx => by have := h p hp x hx; omega)
  rw [setGo, hr]
  split
  ·rename_i ht
   refine setGo_cut n d _ fun p hp x hx => ?_
   have h1 := h p (rmI_sub ix _ _ _ p hp) x hx
   have h2 := rmI_none ix (n + d) _ o (by omega) ht p hp
   rw [hx] at h2
   have : x ≠ n + d := fun e => h2 (by rw [e])
   omega
  ·rfl
theorem length_is (o : Ob) (x : Vl) (h1 : x.k = 3) (h2 : 0 ≤ x.n) (h3 : x.n ≤ 1000) (h : ∀ p ∈ o.ps, ∀ y, ix p.key = some y → y < o.len) : o.length ix x = setGo ix x.n.toNat (o.len - x.n.toNat) o := by
 unfold Ob.length
 rw [if_neg (by omega)]
 split
 ·exact (setGo_cut ix _ _ _ fun p hp y hy => by have := h p hp y hy; omega).symm
 ·rw [show o.len - x.n.toNat = 0 by omega]
  rfl
end
end Go.Proofs.YtcahijpbkjplmaaGreatDoor.G
namespace Go.Proofs.YtcahijpbkjplmaaGreatDoor.G
open Go.RowKit Go.Shelf Go.Maps Go.Lib Go.Proofs.YtcahijpbkjplmaaGreatDoor
def cloRen : Go.Shelf.Ren := ⟨fun | 41 => 101 | n => n, fun | 4 => 4 | 22 => 121 | 23 => 79 | n => n, fun | n => n⟩
theorem cloLays : SlLaysE0.n41 Tryz.prog cloRen := {
 mixed := by kernel_rfl
 f41 := ⟨Tryz.f101.name, by kernel_rfl, Tryz.func101.trans (congrArg some (by kernel_rfl))⟩
 t4 := Tryz.underlying4
 a4 := Tryz.isAgg4
 z4 := Tryz.sizeOf4
 v4 := Tryz.zeroValue4
 t22 := Tryz.underlying121
 a22 := Tryz.isAgg121
 z22 := Tryz.sizeOf121
 v22 := Tryz.zeroValue121 }
theorem row_cell {w : World} {B n : Nat} {T : TypeId} {g cap : Nat} {v : Value} {xs : List Value} (h : w.ownsRow B T 1 v n xs) (e : v = .slice (some ⟨g, 0, none⟩) n cap) {j : Nat} {u : Value} (hj : xs[j]? = some u) : w.cell? ⟨g, j, none⟩ = some u := by
 obtain ⟨hx, h2⟩ := h
 have hlt : j < n := by
  have := (List.getElem?_eq_some_iff.1 hj).1
  rw [hx] at this
  omega
 rcases h2 with ⟨e2, h0⟩ | ⟨g', cap', cur, e2, -, hg, -, -, -, htk⟩
 ·omega
 ·rw [e] at e2
  injection e2 with e3 _ _
  injection e3 with e3
  injection e3 with e3 _ _
  subst e3
  rw [Nat.mul_one] at htk
  rw [← htk, List.getElem?_take_of_lt hlt, Array.getElem?_toList] at hj
  unfold World.cell?
  rw [hg]
  simpa using hj
theorem row_form {w : World} {B n : Nat} {T : TypeId} {v : Value} {xs : List Value} (h : w.ownsRow B T 1 v n xs) (hn : 0 < n) : ∃ g cap, v = .slice (some ⟨g, 0, none⟩) n cap ∧ n ≤ cap := by
 rcases h.2 with ⟨-, h0⟩ | ⟨g, cap, cur, e, -, -, hc, -⟩
 ·omega
 ·exact ⟨g, cap, e, hc⟩
theorem row_len {w : World} {B n : Nat} {T : TypeId} {v : Value} {xs : List Value} (h : w.ownsRow B T 1 v n xs) : ∃ A cap, v = .slice A n cap := by
 rcases h.2 with ⟨e, h0⟩ | ⟨g, cap, cur, e, -⟩
 ·exact ⟨none, 0, by rw [e, h0]⟩
 ·exact ⟨_, cap, e⟩
theorem clo_any {w : World} {nv : Value} {n : Nat} {bs : List Nat} (h : w.ownsRow 0 79 1 nv n (bs.map pv)) (hn : n ≤ 100000) :
  Calls Tryz.prog 101 #[nv] w fun e w' => ∃ nv', e = .returned nv' ∧ w'.ownsRow w.heap.size 79 1 nv' n (bs.map pv) ∧ Below w.heap.size w w' := by
 obtain ⟨i0, hi, hz0, hz1, hz2⟩ := info_parts infoPp
 rcases h.2 with ⟨rfl, rfl⟩ | ⟨g, cap, cur, rfl, -, -, -, -⟩
 ·refine (AnyE.slices_Clone_nil cloLays 0 0 w).mono ?_
  rintro e w' ⟨rfl, rfl⟩
  have : bs.map pv = [] := List.eq_nil_of_length_eq_zero (by have := h.1; omega)
  rw [this]
  exact ⟨_, rfl, row_nil _ _ _ _, Below.refl _ _⟩
 ·refine (AnyE.slices_Clone cloLays i0 (.pointer none) 1 8 hi hz0 hz1 hz2 rfl (by decide) Tryz.sizeOf79 g 0 n cap (bs.map pv) w h.1 (by unfold maxLen; omega) (by omega) (fun j u hj => ?_) (fun u hu => ?_)).mono ?_
  ·rw [Nat.zero_add]
   exact row_cell h rfl hj
  ·obtain ⟨b, -, rfl⟩ := List.mem_map.1 hu
   rfl
  ·rintro e w' ⟨v', rfl, h1, -, h2⟩
   exact ⟨v', rfl, h1, h2⟩
theorem selG_first (f : ByteArray → Bool) : ∀ (pb : List Nat) (ps : List Pr), pb.length = ps.length → (ps.findIdx? (fun p => f p.key) = none ∧ selG f pb ps = []) ∨ ∃ k b p, ps.findIdx? (fun p => f p.key) = some k ∧ pb[k]? = some b ∧ ps[k]? = some p ∧ f p.key = true ∧ selG f pb ps = b :: selG f (pb.eraseIdx k) (ps.eraseIdx k)
 | [], [], _ => .inl ⟨rfl, rfl⟩
 | b :: pb, p :: ps, h => by
  rw [List.findIdx?_cons, selG_cons]
  cases hp : f p.key with
  | true => exact .inr ⟨0, b, p, rfl, rfl, rfl, hp, rfl⟩
  | false =>
   rw [if_neg Bool.false_ne_true, if_neg Bool.false_ne_true]
   rcases selG_first f pb ps (by simpa using h) with ⟨h1, h2⟩ | ⟨k, b', p', h1, h2, h3, h4, h5⟩
   ·exact .inl ⟨by rw [h1]; rfl, h2⟩
   ·refine .inr ⟨k + 1, b', p', by rw [h1]; rfl, by simpa using h2, by simpa using h3, h4, ?_⟩
    rw [List.eraseIdx_cons_succ, List.eraseIdx_cons_succ, selG_cons, hp, if_neg Bool.false_ne_true]
    exact h5
section
variable {w w1 w2 : World} {ow ow1 ow2 : Nat → Option Nat} {i n n1 : Nat} {pp : Value} {b : Nat} {o o1 o2 : Ob} {x x1 x2 : OL}
theorem Chg.low (h : Chg w1 ow i n pp b o1 w2 ow1 x1) (hb : Below w.heap.size w w1) : Chg w ow i n pp b o1 w2 ow1 x1 :=
 ⟨h.b, h.at', h.old, fun k hk => (h.new k hk).imp id fun e => Nat.le_trans hb.size e, h.lt, h.only, ⟨h.fr.os.trans hb.os, h.fr.tape.trans hb.tape, h.fr.output.trans hb.output, Nat.le_trans hb.size h.fr.size, fun k hk => (h.fr.block k ⟨Nat.lt_of_lt_of_le hk.1 hb.size, hk.2⟩).trans (hb.block k hk.1)⟩⟩
theorem Chg.trans (h : Chg w ow i n pp b o1 w1 ow1 x1) (k : Chg w1 ow1 i n1 pp b o2 w2 ow2 x2) : Chg w ow i n1 pp b o2 w2 ow2 x2 := by
 refine ⟨k.b, k.at', fun j r e => k.old j r (h.old j r e), fun j hj => ?_, k.lt, fun j r e hr => h.only j r (k.only j r e hr) hr, ?_⟩
 ·rcases k.new j hj with e | e
  ·exact h.new j e
  ·exact .inr (Nat.le_trans h.fr.size e)
 ·refine h.fr.trans ⟨k.fr.os, k.fr.tape, k.fr.output, k.fr.size, fun j hj => k.fr.block j ⟨Nat.lt_of_lt_of_le hj.1 h.fr.size, fun e => ?_⟩⟩
  rcases h.new j (by rw [e]; simp) with e2 | e2
  ·cases e3 : ow j with
   | none => exact e2 e3
   | some r =>
    have := h.old j r e3
    rw [e] at this
    exact hj.2 (by rw [e3, this])
  ·omega
theorem Chg.self (h : ObjAt w ow i n pp x o) (hl : ∀ k, ow k ≠ none → k < w.heap.size) : Chg w ow i n pp x.b o w ow x := ⟨rfl, h, fun _ _ e => e, fun _ e => .inl e, hl, fun _ _ e _ => e, Fr.refl _ _⟩
theorem ixA_arr {o : Ob} (h : o.cls = AR) (key : ByteArray) : o.ixA ix AR key = ix key := if_pos h
theorem sel_arr {o : Ob} (h : o.cls = AR) (pb : List Nat) (y : Nat) : sel o pb y = selG (fun key => decide (ix key = some y)) pb o.ps := by
 rw [sel_eq]
 congr 1
 funext key
 rw [ixA_arr h]
structure Rmi (w : World) (ow : Nat → Option Nat) (i n : Nat) (pp : Value) (b : Nat) (o : Ob) (y : Nat) (l : List Nat) (wr : World) (ow' : Nat → Option Nat) (x' : OL) (oj : Ob) (f : Nat) : Prop where
 chg : Chg w ow i n pp b oj wr ow' x'
 sub : oj.ps.Sublist o.ps
 cls : oj.cls = AR
 sel : sel oj x'.pb y = l
 rm : rmI ix y (o.ps.length + 1) o = rmI ix y f oj
 fl : oj.ps.length < f
set_option maxRecDepth 8000 in
theorem rmIndex_any (h : ObjAt w ow i n pp x o) (hl : ∀ k, ow k ≠ none → k < w.heap.size) (y : Nat) (hy : y < 1000) (hcls : o.cls = AR) (hsp : ∀ p ∈ o.ps, p.key.size ≤ 16777216) (hnd : (o.ps.map (·.key)).Nodup) (hn : n ≤ 100000) (hps : o.ps.length ≤ 100000) (hix : ∀ p ∈ o.ps, ∀ z, ix p.key = some z → z < 1000) :
  Calls Tryz.prog 95 #[pv x.b, .int .i64 (y : Int)] w fun e w' => e = .returned (.bool (rmI ix y (o.ps.length + 1) o).2) ∧ ∃ ow' x', Chg w ow i n pp x.b (rmI ix y (o.ps.length + 1) o).1 w' ow' x' := by
 have c16 := h.ob.cell (k := 16) rfl
 have hlk : (Instr.lookup 82 (.map (some x.im)) (.int .i64 (y : Int)) false).run Tryz.prog w = .ok (x.fi y) w := by
  obtain ⟨ni, -, hmi⟩ := h.mi
  exact hmi.look Tryz.underlying82 (zeroR _) (y := y) (by omega)
 have hlen : (sel o x.pb y).length ≤ 100000 := Nat.le_trans (sel_len o x.pb y) (by rw [h.pl]; exact hps)
 have HC := Lib.hid (clo_any (h.rw y) hlen)
 have HH := Lib.hid h
 have HL := Lib.hid hl
 have HY := Lib.hid hy
 have HCLS := Lib.hid hcls
 have HSP := Lib.hid hsp
 have HND := Lib.hid hnd
 have HN := Lib.hid hn
 have HPS := Lib.hid hps
 have HIX := Lib.hid hix
 clear h hl hy hcls hsp hnd hn hps hix
 obtain ⟨bs, HBS⟩ : ∃ bs, Hid (sel o x.pb y = bs) := ⟨_, rfl⟩
 rw [HBS.out] at HC hlen
 go_enter Tryz.func95, Tryz.ntmps95
 go_wp2_with fail
 refine HC.out.mono ?_
 rintro e w1 ⟨nv, rfl, hrow, hb⟩
 obtain ⟨A0, cap0, env⟩ := row_len hrow
 have HRW := Lib.hid hrow
 have HB := Lib.hid hb
 have HENV := Lib.hid env
 clear hrow hb hlk c16 HC
 rw [env]
 go_wp2_with fail
 go_loopw [15] (fun v wr => ∃ (j f : Nat) (oj : Ob) (ow' : Nat → Option Nat) (x' : OL), v = .int .i64 (j : Int) ∧ j ≤ bs.length ∧ Hid (Rmi w1 ow i n pp x.b o y (bs.drop j) wr ow' x' oj f)) (fun v _ => bs.length - (intOf v).toNat)
 case atStart => 
  refine ⟨0, o.ps.length + 1, o, ow, x, rfl, Nat.zero_le _, Lib.hid ⟨Chg.self (HH.out.low HL.out HB.out) fun k hk => Nat.lt_of_lt_of_le (HL.out k hk) HB.out.size, List.Sublist.refl _, HCLS.out, HBS.out, rfl, Nat.lt_succ_self _⟩⟩
 case round =>
  obtain ⟨j, f, oj, ow', x', rfl, hj, HR⟩ := hrel
  have HR0 := HR.out
  have hrow : wr.ownsRow w.heap.size 79 1 nv bs.length (bs.map pv) := row_same HRW.out fun k e => HR0.chg.fr.block k ⟨(HRW.out.lt k e).2, fun e2 => by
   have h1 := (HRW.out.lt k e).1
   have h2 := HL.out k (by rw [e2]; simp)
   omega⟩
  have hfst := selG_first (fun key => decide (ix key = some y)) x'.pb oj.ps HR0.chg.at'.pl
  rw [← sel_arr HR0.cls, HR0.sel] at hfst
  by_cases hlt : j < bs.length
  ·rw [List.drop_eq_getElem_cons hlt] at hfst
   rcases hfst with ⟨-, h0⟩ | ⟨k, b, p, hk, hb1, hp, hpy, hd⟩
   ·cases h0
   ·injection hd with hd1 hd2
    obtain ⟨g0, cp, hform, hcp⟩ := row_form hrow (by omega)
    have hcell : wr.cell? ⟨g0, j, none⟩ = some (pv b) := row_cell hrow hform (by rw [List.getElem?_map, List.getElem?_eq_getElem hlt, hd1]; rfl)
    have hA : A0 = some ⟨g0, 0, none⟩ ∧ cap0 = cp := by
     have := HENV.out.symm.trans hform
     injection this with e1 _ e3
     exact ⟨e1, e3⟩
    obtain ⟨rfl, rfl⟩ := hA
    have hk1 : k < x'.pb.length := (List.getElem?_eq_some_iff.1 hb1).1
    have hk2 : k < oj.ps.length := (List.getElem?_eq_some_iff.1 hp).1
    have hblk := HR0.chg.at'.pr k hk1 hk2
    rw [(List.getElem?_eq_some_iff.1 hb1).2, (List.getElem?_eq_some_iff.1 hp).2] at hblk
    have c6 : wr.cell? ⟨b, 6, none⟩ = some (.bool p.f) := hblk.cell (k := 6) rfl
    have hmem : p ∈ o.ps := HR0.sub.subset (List.mem_of_getElem? hp)
    have hjlt : (j : Int) < (bs.length : Int) := by omega
    have hj0 : (0 : Int) ≤ (j : Int) := by omega
    cases hf : p.f with
    | false =>
     have HE := Lib.hid hf
     rw [hf] at c6
     clear hf hk1 hk2 hblk hd1 hd2 hpy hrow hform
     have HK := Lib.hid hk
     have HPP := Lib.hid hp
     clear hk hp hb1 hmem HR0
     go_wp2_with fail
     refine bodyPost_ret (results_tmp rfl _ _ _) rfl ?_
     obtain ⟨f', rfl⟩ : ∃ f', f = f' + 1 := ⟨f - 1, by have := HR.out.fl; omega⟩
     have hrm := HR.out.rm.trans (rmI_bar ix (f := f') HK.out HPP.out HE.out)
     rw [hrm]
     exact ⟨rfl, ow', x', HR.out.chg.low HB.out⟩
    | true =>
     have hl' : ∀ k, ow' k ≠ none → k < wr.heap.size := HR0.chg.lt
     have HREM := Lib.hid (remove_any HR0.chg.at' hl' hp hb1 (HSP.out p hmem) ((HR0.sub.map _).nodup HND.out) HN.out (Nat.le_trans HR0.sub.length_le HPS.out) (fun z hz => HIX.out p hmem z (by rw [← ixA_arr HR0.cls]; exact hz)))
     rw [HR0.chg.b] at HREM
     have HNEW : Hid (∀ ow'' x'' w'', x''.pb = x'.pb.eraseIdx k → Chg wr ow' i n pp x.b { oj with ps := oj.ps.eraseIdx k } w'' ow'' x'' → Rmi w1 ow i n pp x.b o y (bs.drop (j + 1)) w'' ow'' x'' { oj with ps := oj.ps.eraseIdx k } (f - 1)) := fun ow'' x'' w'' he hc => by
      obtain ⟨f', rfl⟩ : ∃ f', f = f' + 1 := ⟨f - 1, by have := HR0.fl; omega⟩
      refine ⟨HR0.chg.trans hc, (List.eraseIdx_sublist _ _).trans HR0.sub, HR0.cls, ?_, HR0.rm.trans (rmI_go ix hk hp hf), ?_⟩
      ·rw [he, sel_arr (o := { oj with ps := oj.ps.eraseIdx k }) HR0.cls]
       exact hd2.symm
      ·show (oj.ps.eraseIdx k).length < f' + 1 - 1
       rw [List.length_eraseIdx_of_lt hk2]
       have := HR0.fl
       omega
     rw [hf] at c6
     clear hf hk1 hk2 hblk hd1 hd2 hpy hrow hform hk hp hb1 hmem HR0 hl'
     go_wp2_with fail
     refine HREM.out.mono ?_
     rintro e w2 ⟨rfl, ow'', x'', he, hc⟩
     have HNX := Lib.hid (HNEW.out _ _ _ he hc)
     clear he hc HREM HNEW HR hcell c6
     go_wp2_with fail
     go_roundw
     case rel => exact ⟨j + 1, f - 1, _, ow'', x'', by go_num, by omega, HNX⟩
     case measure => simp [intOf]; omega
  ·have hje : bs.length = j := by omega
   rw [List.drop_eq_nil_of_le (by omega)] at hfst
   rcases hfst with ⟨h0, -⟩ | ⟨k, b, p, hk, hb1, hp, hpy, hd⟩
   ·have H0 := Lib.hid h0
    have hjlt : ¬ (j : Int) < (bs.length : Int) := by omega
    clear h0 hrow HR0
    go_wp2_with fail
    refine bodyPost_ret (results_tmp rfl _ _ _) rfl ?_
    obtain ⟨f', rfl⟩ : ∃ f', f = f' + 1 := ⟨f - 1, by have := HR.out.fl; omega⟩
    have hrm := HR.out.rm.trans (rmI_end ix (f := f') H0.out)
    rw [hrm]
    exact ⟨rfl, ow', x', HR.out.chg.low HB.out⟩
   ·cases hd
end
end Go.Proofs.YtcahijpbkjplmaaGreatDoor.G
namespace Go.Proofs.YtcahijpbkjplmaaGreatDoor.G
open Go.RowKit Go.Shelf Go.Maps Go.Lib Go.Proofs.YtcahijpbkjplmaaGreatDoor
theorem rmI_subl (y : Nat) : ∀ (f : Nat) (o : Ob), (rmI ix y f o).1.ps.Sublist o.ps ∧ (rmI ix y f o).1.cls = o.cls
 | 0, _ => ⟨List.Sublist.refl _, rfl⟩
 | f + 1, o => by
  rw [rmI]
  split
  ·exact ⟨List.Sublist.refl _, rfl⟩
  ·split
   ·obtain ⟨h1, h2⟩ := rmI_subl y f { o with ps := o.ps.eraseIdx _ }
    exact ⟨h1.trans (List.eraseIdx_sublist _ _), h2⟩
   ·exact ⟨List.Sublist.refl _, rfl⟩
section
variable {w w1 w2 : World} {ow ow1 ow2 : Nat → Option Nat} {i n : Nat} {pp : Value} {b : Nat} {o o1 : Ob} {x x1 : OL}
theorem ObjAt.put (h : ObjAt w ow i n pp x o) {j : Nat} {u : Value} {o' : Ob} (he : objC i o' pp x = (objC i o pp x).set j u) (hps : o'.ps = o.ps) (hcls : o'.cls = o.cls) : ObjAt (w.setCell ⟨x.b, j, none⟩ u) ow i n pp x o' := by
 obtain ⟨cls, proto, ps, closed, len, lw⟩ := o'
 dsimp only at hps hcls
 subst hps hcls
 have hk : ∀ k, k ≠ x.b → (w.setCell ⟨x.b, j, none⟩ u).heap[k]? = w.heap[k]? := fun k hk => Below.heap_setCell _ _ _ _ hk
 obtain ⟨es, c, hes⟩ := h.mp.isMap
 obtain ⟨ni, hn1, hn2⟩ := h.mi
 obtain ⟨es2, c2, hes2⟩ := hn2.isMap
 refine ⟨?_, h.pl, fun k a e => (h.pr k a e).fr (hk _ (h.ring.ne (List.getElem_mem a))), h.nod, h.mp.fr (hk _ (Ne.symm (h.ob.ne_map hes))), ⟨ni, hn1, hn2.fr (hk _ (Ne.symm (h.ob.ne_map hes2)))⟩, fun y => row_same (h.rw y) fun k e => hk k (Ne.symm (h.ob.ne_row (h.rw y) (by decide) k e)), h.ra, h.wb, h.wm, h.wi, h.wp, h.mne⟩
 rw [he]
 exact h.ob.set j u
theorem Chg.put (h : Chg w ow i n pp b o w1 ow1 x1) {j : Nat} {u : Value} {o' : Ob} (he : objC i o' pp x1 = (objC i o pp x1).set j u) (hps : o'.ps = o.ps) (hcls : o'.cls = o.cls) : Chg w ow i n pp b o' (w1.setCell ⟨b, j, none⟩ u) ow1 x1 := by
 have hb := h.b
 refine ⟨h.b, ?_, h.old, h.new, fun k hk => ?_, h.only, h.fr.setCell (p := ⟨b, j, none⟩) (fun hk => ?_) u⟩
 ·rw [← hb]
  exact h.at'.put he hps hcls
 ·have := h.lt k hk
  simpa [World.setCell] using this
 ·have hwb := h.at'.wb
  rw [hb] at hwb
  rcases h.new b (by rw [hwb]; simp) with e | e
  ·cases e3 : ow b with
   | none => exact e e3
   | some r =>
    have := h.old b r e3
    rw [hwb] at this
    exact hk.2 (by show ow b = _; rw [e3, this])
  ·exact Nat.lt_irrefl _ (Nat.lt_of_lt_of_le hk.1 e)
structure Sln (w : World) (ow : Nat → Option Nat) (i n : Nat) (pp : Value) (b : Nat) (o : Ob) (L d : Nat) (wr : World) (ow' : Nat → Option Nat) (x' : OL) (oj : Ob) : Prop where
 chg : Chg w ow i n pp b oj wr ow' x'
 sub : oj.ps.Sublist o.ps
 cls : oj.cls = AR
 rm : setGo ix L (o.len - L) o = setGo ix L d oj
def LenR (w : World) (ow : Nat → Option Nat) (i n : Nat) (pp : Value) (b : Nat) (r : Ob × Int) (e : Ending) (w' : World) : Prop := e = .returned (.int .i64 r.2) ∧ ∃ ow' x', Chg w ow i n pp b r.1 w' ow' x'
set_option maxRecDepth 8000 in
theorem setLength_any (h : ObjAt w ow i n pp x o) (hl : ∀ k, ow k ≠ none → k < w.heap.size) (v : Vl) (hcls : o.cls = AR) (hsp : ∀ p ∈ o.ps, p.key.size ≤ 16777216) (hnd : (o.ps.map (·.key)).Nodup) (hn : n ≤ 100000) (hps : o.ps.length ≤ 100000) (hlen : o.len ≤ 1000) (hix : ∀ p ∈ o.ps, ∀ z, ix p.key = some z → z < o.len) :
  Calls Tryz.prog 84 #[pv x.b, v.v] w (LenR w ow i n pp x.b (o.length ix v)) := by
 have hb0 := below_new w (.cells v.cs.toArray 29)
 have hW := Blk.new w 29 v.cs
 have HH := Lib.hid (h.low hl hb0)
 have HL : Hid (∀ k, ow k ≠ none → k < (w.alloc (.cells v.cs.toArray 29)).heap.size) := fun k hk => Nat.lt_of_lt_of_le (hl k hk) hb0.size
 have HB := Lib.hid hb0
 have HCLS := Lib.hid hcls
 have HSP := Lib.hid hsp
 have HND := Lib.hid hnd
 have HN := Lib.hid hn
 have HPS := Lib.hid hps
 have HLEN := Lib.hid hlen
 have HIX := Lib.hid hix
 obtain ⟨d0, d1, d2⟩ := Blk.three hW
 have z := hW.fz
 have c14 := HH.out.ob.cell (k := 14) rfl
 obtain ⟨vk, vn, vs⟩ := v
 simp only [Vl.v, Vl.cs] at HH HL HB d0 d1 d2 z c14 ⊢
 clear h hl hcls hsp hnd hn hps hlen hix hb0 hW
 by_cases hk : vk = 3
 ·subst hk
  by_cases hn0 : vn < 0
  ·have HR : Hid (o.length ix ⟨3, vn, vs⟩ = (o, 100)) := by
    show Ob.length ix o ⟨3, vn, vs⟩ = _
    unfold Ob.length
    rw [if_pos (by simp; omega)]
   go_enter Tryz.func84, Tryz.ntmps84
   go_wp2_with fail
   refine bodyPost_ret (results_tmp rfl _ _ _) rfl ?_
   rw [HR.out]
   exact ⟨rfl, ow, x, (Chg.self HH.out HL.out).low HB.out⟩
  ·by_cases hn1 : 1000 < vn
   ·have HR : Hid (o.length ix ⟨3, vn, vs⟩ = (o, 100)) := by
     show Ob.length ix o ⟨3, vn, vs⟩ = _
     unfold Ob.length
     rw [if_pos (by simp; omega)]
    go_enter Tryz.func84, Tryz.ntmps84
    go_wp2_with fail
    refine bodyPost_ret (results_tmp rfl _ _ _) rfl ?_
    rw [HR.out]
    exact ⟨rfl, ow, x, (Chg.self HH.out HL.out).low HB.out⟩
   ·obtain ⟨L, rfl⟩ : ∃ L : Nat, vn = (L : Int) := ⟨vn.toNat, by omega⟩
    have HR : Hid (o.length ix ⟨3, (L : Int), vs⟩ = setGo ix L (o.len - L) o) := length_is ix o ⟨3, (L : Int), vs⟩ rfl (by show (0 : Int) ≤ L; omega) (by show (L : Int) ≤ 1000; omega) HIX.out
    rw [HR.out]
    clear HR
    have hL : L ≤ 1000 := by omega
    have hw1 : IntKind.i64.wrap ((o.len : Int) - 1) = (o.len : Int) - 1 := IntWalk.i64_in _ (by have := HLEN.out; omega)
    go_enter Tryz.func84, Tryz.ntmps84
    go_wp2_with fail
    generalize w.alloc (.cells #[.int .i64 3, .int .i64 (L : Int), .string vs] 29) = w1 at *
    clear d0 d1 d2 z c14
    go_loopw [6] (fun v wr => ∃ (m : Int) (oj : Ob) (ow' : Nat → Option Nat) (x' : OL), v = .int .i64 m ∧ -1 ≤ m ∧ m < 1000 ∧ Hid (Sln w1 ow i n pp x.b o L (m + 1 - L).toNat wr ow' x' oj)) (fun v _ => (intOf v + 1).toNat)
    case atStart =>
     refine ⟨_, o, ow, x, rfl, by have := HLEN.out; omega, by have := HLEN.out; omega, Lib.hid ⟨Chg.self HH.out HL.out, List.Sublist.refl _, HCLS.out, ?_⟩⟩
     rw [show ((o.len : Int) - 1 + 1 - (L : Int)).toNat = o.len - L by omega]
    case round =>
     obtain ⟨m, oj, ow', x', rfl, hm0, hm1, HR⟩ := hrel
     by_cases hge : (L : Int) ≤ m
     ·obtain ⟨y, rfl⟩ : ∃ y : Nat, m = (y : Int) := ⟨m.toNat, by omega⟩
      have hy : y < 1000 := by omega
      have HS := Lib.hid HR.out
      have hd : ((y : Int) + 1 - (L : Int)).toNat = (y - L) + 1 := by omega
      rw [hd] at HS
      clear HR
      have HC := Lib.hid (rmIndex_any HS.out.chg.at' HS.out.chg.lt y hy HS.out.cls (fun p hp => HSP.out p (HS.out.sub.subset hp)) ((HS.out.sub.map _).nodup HND.out) HN.out (Nat.le_trans HS.out.sub.length_le HPS.out) (fun p hp z hz => by have := HIX.out p (HS.out.sub.subset hp) z hz; have := HLEN.out; omega))
      rw [HS.out.chg.b] at HC
      go_wp2_with fail
      refine HC.out.mono ?_
      rintro e w2 ⟨rfl, ow'', x'', hc⟩
      have HC2 := Lib.hid (HS.out.chg.trans hc)
      clear hc HC
      have hyL : L + (y - L) = y := by omega
      cases hb : (rmI ix y (oj.ps.length + 1) oj).2 with
      | true =>
       have HRM := Lib.hid (HS.out.rm.trans (show setGo ix L (y - L + 1) oj = setGo ix L (y - L) (rmI ix y (oj.ps.length + 1) oj).1 by rw [setGo, hyL, if_pos hb]))
       have HSB := Lib.hid (rmI_subl y (oj.ps.length + 1) oj)
       go_wp2_with fail
       go_roundw
       case rel => exact ⟨(y : Int) - 1, _, ow'', x'', by go_num, by omega, by omega, Lib.hid ⟨HC2.out, HSB.out.1.trans HS.out.sub, HSB.out.2.trans HS.out.cls, by rw [show ((y : Int) - 1 + 1 - (L : Int)).toNat = y - L by omega]; exact HRM.out⟩⟩
       case measure => (simp [intOf] <;> omega)
      | false =>
       have HRM := Lib.hid (HS.out.rm.trans (show setGo ix L (y - L + 1) oj = ({ (rmI ix y (oj.ps.length + 1) oj).1 with len := y + 1 }, 110) by rw [setGo, hyL, if_neg (by rw [hb]; exact Bool.false_ne_true)]))
       have c14 : w2.cell? ⟨x.b, 14, none⟩ = some (.int .i64 ((rmI ix y (oj.ps.length + 1) oj).1.len : Int)) := by
        have := HC2.out.at'.ob.cell (k := 14) rfl
        rw [HC2.out.b] at this
        exact this
       have z14 : w2.frozen? ⟨x.b, 14, none⟩ = false := by
        have := HC2.out.at'.ob.fz 14
        rw [HC2.out.b] at this
        exact this
       have hw2 : IntKind.i64.wrap ((y : Int) + 1) = ((y + 1 : Nat) : Int) := by
        rw [IntWalk.i64_in _ (by omega)]
        omega
       go_wp2_with fail
       refine bodyPost_ret (results_tmp rfl _ _ _) rfl ?_
       rw [HRM.out]
       exact ⟨rfl, ow'', x'', (HC2.out.put (j := 14) (u := .int .i64 ((y : Int) + 1)) (o' := { (rmI ix y (oj.ps.length + 1) oj).1 with len := y + 1 }) rfl rfl rfl).low HB.out⟩
     ·have HRM : Hid (setGo ix L (o.len - L) o = ({ oj with len := L }, 0)) := by
       have := HR.out.rm
       rw [show (m + 1 - (L : Int)).toNat = 0 by omega] at this
       exact this
      have c14 : wr.cell? ⟨x.b, 14, none⟩ = some (.int .i64 (oj.len : Int)) := by
       have := HR.out.chg.at'.ob.cell (k := 14) rfl
       rw [HR.out.chg.b] at this
       exact this
      have z14 : wr.frozen? ⟨x.b, 14, none⟩ = false := by
       have := HR.out.chg.at'.ob.fz 14
       rw [HR.out.chg.b] at this
       exact this
      go_wp2_with fail
      refine bodyPost_ret (results_tmp rfl _ _ _) rfl ?_
      rw [HRM.out]
      exact ⟨rfl, ow', x', (HR.out.chg.put (j := 14) (u := .int .i64 (L : Int)) (o' := { oj with len := L }) rfl rfl rfl).low HB.out⟩
 ·have HR : Hid (o.length ix ⟨vk, vn, vs⟩ = (o, 100)) := by
   show Ob.length ix o ⟨vk, vn, vs⟩ = _
   unfold Ob.length
   rw [if_pos (.inl hk)]
  go_enter Tryz.func84, Tryz.ntmps84
  go_wp2_with fail
  refine bodyPost_ret (results_tmp rfl _ _ _) rfl ?_
  rw [HR.out]
  exact ⟨rfl, ow, x, (Chg.self HH.out HL.out).low HB.out⟩
set_option maxRecDepth 8000 in
theorem putLength_any (h : ObjAt w ow i n pp x o) (hl : ∀ k, ow k ≠ none → k < w.heap.size) (v : Vl) (hcls : o.cls = AR) (hsp : ∀ p ∈ o.ps, p.key.size ≤ 16777216) (hnd : (o.ps.map (·.key)).Nodup) (hn : n ≤ 100000) (hps : o.ps.length ≤ 100000) (hlen : o.len ≤ 1000) (hix : ∀ p ∈ o.ps, ∀ z, ix p.key = some z → z < o.len) :
  Calls Tryz.prog 66 #[pv x.b, v.v] w (LenR w ow i n pp x.b (if o.lw = false then (o, 110) else o.length ix v)) := by
 have hb0 := below_new w (.cells v.cs.toArray 29)
 have h0 := h.low hl hb0
 have HL : Hid (∀ k, ow k ≠ none → k < (w.alloc (.cells v.cs.toArray 29)).heap.size) := fun k hk => Nat.lt_of_lt_of_le (hl k hk) hb0.size
 have HS := Lib.hid (setLength_any h0 HL.out v hcls hsp hnd hn hps hlen hix)
 have HH := Lib.hid h0
 have HB := Lib.hid hb0
 have c15 := h0.ob.cell (k := 15) rfl
 have z := (Blk.new w 29 v.cs).fz
 obtain ⟨d0, d1, d2⟩ := Blk.three (Blk.new w 29 v.cs)
 obtain ⟨vk, vn, vs⟩ := v
 simp only [Vl.v, Vl.cs] at HS HH HL HB c15 z d0 d1 d2 ⊢
 clear h hl hcls hsp hnd hn hps hlen hix h0 hb0
 cases hw : o.lw with
 | false =>
  rw [hw] at c15
  simp only [if_true]
  go_enter Tryz.func66, Tryz.ntmps66
  go_wp2_with fail
  refine bodyPost_ret (results_tmp rfl _ _ _) rfl ⟨rfl, ow, x, (Chg.self HH.out HL.out).low HB.out⟩
 | true =>
  rw [hw] at c15
  rw [if_neg (by simp)]
  go_enter Tryz.func66, Tryz.ntmps66
  go_wp2_with fail
  refine HS.out.mono ?_
  rintro e w1 ⟨rfl, ow', x', hc⟩
  go_wp2_with fail
  refine bodyPost_ret (results_tmp rfl _ _ _) rfl ⟨rfl, ow', x', hc.low HB.out⟩
end
end Go.Proofs.YtcahijpbkjplmaaGreatDoor.G
