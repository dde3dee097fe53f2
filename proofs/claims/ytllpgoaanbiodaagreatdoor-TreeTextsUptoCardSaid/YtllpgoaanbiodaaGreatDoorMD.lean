/-

-/
import Derived.Test.YtllpgoaanbiodaaGreatDoorMQ0
import Derived.Lib.ItoaLen
set_option maxHeartbeats 1000000
set_option maxRecDepth 8000
namespace Go.Proofs.YtllpgoaanbiodaaGreatDoor.R
open Go.RowKit Go.Proofs.YtllpgoaanbiodaaGreatDoor Go.Proofs.YtllpgoaanbiodaaGreatDoor.T
def Tab (w : World) : Prop := Lib.TabIs Tryz.prog w "internal/strconv.uint64pow10" .u64 Lib.pow10Tab
theorem globPow : Tryz.prog.globalNamed "internal/strconv.uint64pow10" = some 1 := by kernel_rfl
theorem Tab.of {w w' : World} (h : Tab w) (hb : w'.heap[(1 : Nat)]? = w.heap[(1 : Nat)]?) : Tab w' := by
 unfold Tab Lib.TabIs World.var? at *
 rw [globPow] at *
 simp only [Option.bind_some] at *
 rw [hb]
 exact h
theorem Tab.lt {w : World} (h : Tab w) : 1 < w.heap.size := by
 unfold Tab Lib.TabIs World.var? at h
 rw [globPow] at h
 simp only [Option.bind_some] at h
 rcases Nat.lt_or_ge 1 w.heap.size with h' | h'
 ·exact h'
 ·rw [Array.getElem?_eq_none h'] at h; simp at h
theorem Tab.below {w w' : World} (h : Tab w) (hb : Below w.heap.size w w') : Tab w' := h.of (hb.block _ h.lt)
structure Env (w : World) (F : Nat → Prop) (n0 : Nat) : Prop where
 hF : ∀ k, F k → k < w.heap.size
 sub : ∀ k, k < n0 → F k
 tab : Tab w
 tlt : 1 < n0
theorem Env.le {w : World} {F : Nat → Prop} {n0 : Nat} (h : Env w F n0) : n0 ≤ w.heap.size := by
 rcases Nat.lt_or_ge w.heap.size n0 with hlt | hge
 ·exact absurd (h.hF _ (h.sub _ hlt)) (Nat.lt_irrefl _)
 ·exact hge
theorem Env.to {w w' : World} {F : Nat → Prop} {n0 : Nat} (h : Env w F n0) (hf : Fr F w w') : Env w' F n0 :=
 ⟨fun k hk => Nat.lt_of_lt_of_le (h.hF k hk) hf.size, h.sub, h.tab.of (hf.block _ (h.sub _ h.tlt)), h.tlt⟩
theorem Env.is {w w' : World} {F : Nat → Prop} {n0 : Nat} (h : Env w F n0) (hf : Fr F w w') {v : V} {x : X} (hx : IsB w n0 v x) : IsB w' n0 v x := IsB.to (hf.mono h.sub).below (Nat.le_refl _) v x hx
theorem Env.row {w w' : World} {F : Nat → Prop} {n0 : Nat} (h : Env w F n0) (hf : Fr F w w') {A : Option Addr} {l : List V} (hx : RowB w n0 A l) : RowB w' n0 A l := hx.to (hf.mono h.sub).below (Nat.le_refl _)
def Ex (F : Nat → Prop) (a n : Nat) (k : Nat) : Prop := F k ∨ (a ≤ k ∧ k < a + n)
theorem Env.ex {w w' : World} {F : Nat → Prop} {n0 : Nat} (h : Env w F n0) (hb : Below w.heap.size w w') (n : Nat) (hs : w.heap.size + n ≤ w'.heap.size) : Env w' (Ex F w.heap.size n) n0 := by
 refine ⟨fun k hk => ?_, fun k hk => .inl (h.sub k hk), h.tab.below hb, h.tlt⟩
 rcases hk with hk | hk
 ·exact Nat.lt_of_lt_of_le (h.hF k hk) hb.size
 ·omega
theorem Wr.ex {w w' : World} {F : Nat → Prop} {B : Nat} {T : Ts} {b : Bool} {v : Value} (h : Wr w F B T b v) (hb : Below w.heap.size w w') (n : Nat) : Wr w' (Ex F w.heap.size n) B T b v :=
 h.more hb fun k hk => by
  rcases hk with hk | hk
  ·exact .inl hk
  ·exact .inr hk.1
theorem Adds.ex {w w2 w' : World} {F : Nat → Prop} {B : Nat} {T : Ts} {b : Bool} {e : Ending} {n : Nat} (hF : ∀ k, F k → k < w.heap.size) (hb : Below w.heap.size w w2) (h : Adds w2 (Ex F w.heap.size n) B T b e w') : Adds w F B T b e w' := by
 obtain ⟨h1, ⟨v, h2⟩, h3⟩ := h
 exact ⟨h1, ⟨v, h2.less fun k hk => .inl hk⟩, (Fr.of hb hF).trans (h3.mono fun k hk => .inl hk)⟩
structure Box (w : World) (F : Nat → Prop) (p : Nat) (cs : Array Value) (t : TypeId) : Prop where
 blk : w.heap[p]? = some (.cells cs t (0, 0))
 inF : F p
theorem Box.to {w w' : World} {F : Nat → Prop} {p : Nat} {cs : Array Value} {t : TypeId} (h : Box w F p cs t) (hf : Fr F w w') : Box w' F p cs t := ⟨(hf.block p h.inF).trans h.blk, h.inF⟩
theorem Box.below {w w' : World} {F : Nat → Prop} {p : Nat} {cs : Array Value} {t : TypeId} (h : Box w F p cs t) (hb : Below w.heap.size w w') : Box w' F p cs t := ⟨(hb.block p (Array.getElem?_eq_some_iff.1 h.blk).1).trans h.blk, h.inF⟩
theorem Box.cell {w : World} {F : Nat → Prop} {p : Nat} {c : Value} {t : TypeId} (h : Box w F p #[c] t) : w.cell? ⟨p, 0, none⟩ = some c := by rw [cell_of_row w p 0 #[c] _ _ h.blk]; rfl
theorem Box.at_ {w : World} {F : Nat → Prop} {p : Nat} {x : X} {t : TypeId} (h : Box w F p x.cells t) : At w p 0 x :=
 ⟨by rw [cell_of_row w p 0 x.cells _ _ h.blk]; rfl, by rw [cell_of_row w p 1 x.cells _ _ h.blk]; rfl, by rw [cell_of_row w p 2 x.cells _ _ h.blk]; rfl, by rw [cell_of_row w p 3 x.cells _ _ h.blk]; rfl, by rw [cell_of_row w p 4 x.cells _ _ h.blk]; rfl, by rw [cell_of_row w p 5 x.cells _ _ h.blk]; rfl⟩
theorem two_new (w : World) (a b : Obj) : ((w.alloc a).alloc b).heap[w.heap.size]? = some a ∧ ((w.alloc a).alloc b).heap[w.heap.size + 1]? = some b := by
 constructor
 ·show ((w.heap.push a).push b)[w.heap.size]? = some a
  rw [Array.getElem?_push, if_neg (by simp), Array.getElem?_push, if_pos rfl]
 ·show ((w.heap.push a).push b)[w.heap.size + 1]? = some b
  rw [Array.getElem?_push, if_pos (by simp)]
theorem below_two (w : World) (a b : Obj) : Below w.heap.size w ((w.alloc a).alloc b) := ((Below.refl _ _).alloc (Nat.le_refl _) _).alloc (by simp) _
theorem box_two (w : World) (F : Nat → Prop) (a b : Array Value) (t u : TypeId) : Box ((w.alloc (.cells a t)).alloc (.cells b u)) (Ex F w.heap.size 2) w.heap.size a t ∧ Box ((w.alloc (.cells a t)).alloc (.cells b u)) (Ex F w.heap.size 2) (w.heap.size + 1) b u :=
 ⟨⟨(two_new w _ _).1, .inr ⟨Nat.le_refl _, by omega⟩⟩, ⟨(two_new w _ _).2, .inr ⟨by omega, by omega⟩⟩⟩
def Writes (f : Nat) (v : V) (out : Bool → Ts) : Prop := ∀ (x : X) (F : Nat → Prop) (B : Nat) (T : Ts) (b : Bool) (vs : Value) (n0 : Nat) (w : World), Env w F n0 → IsB w n0 v x → Wr w F B T b vs → T.length + (out b).length ≤ 8796093020000 →
 Calls Tryz.prog f #[.pointer (some ⟨B, 0, none⟩), x.v] w (Adds w F B (T ++ out b) b)
def WExpr (v : V) : Prop := ∀ (m : Nat) (x : X) (F : Nat → Prop) (B : Nat) (T : Ts) (b : Bool) (vs : Value) (n0 : Nat) (w : World), Env w F n0 → IsB w n0 v x → Wr w F B T b vs → T.length + (v.o.at m b).length ≤ 8796093020000 →
 Calls Tryz.prog 115 #[.pointer (some ⟨B, 0, none⟩), x.v, .int .i64 (m : Nat)] w (Adds w F B (T ++ v.o.at m b) b)
theorem at_in {v : V} {m : Nat} {b : Bool} (h : v.o.lvl < m ∨ (b = true ∧ v.k = 17 ∧ bl v.nm = [105, 110])) : v.o.at m b = brack ⟨#[40]⟩ ⟨#[41]⟩ (v.o.raw false) := by
 unfold O.at
 rw [o_k, o_nm, if_pos h]
theorem at_out {v : V} {m : Nat} {b : Bool} (h : ¬ (v.o.lvl < m ∨ (b = true ∧ v.k = 17 ∧ bl v.nm = [105, 110]))) : v.o.at m b = v.o.raw b := by
 unfold O.at
 rw [o_k, o_nm, if_neg h]
theorem of_bl {s : ByteArray} {l : Bs} (h : bl s = l) : s = ⟨l.toArray⟩ := by subst h; rfl
theorem ent132 : Ent 132 := enters_of Tryz.func132 (by kernel_rfl) rfl
theorem cExpr (v : V) (hb : Writes 133 v fun b => v.o.raw b) (x : X) (F : Nat → Prop) (B : Nat) (T : Ts) (b : Bool) (vs : Value) (n0 : Nat) (w : World) (p q : Nat) (hE : Env w F n0) (hx : IsB w n0 v x) (hW : Wr w F B T b vs)
  (hp : Box w F p #[.pointer (some ⟨B, 0, none⟩)] 57) (hq : Box w F q x.cells 25) (hlim : T.length + (v.o.raw b).length ≤ 8796093020000) :
  Calls Tryz.prog 132 #[.pointer (some ⟨p, 0, none⟩), .pointer (some ⟨q, 0, none⟩)] w (AddsF w F B (T ++ v.o.raw b)) := by
 have HB := Lib.hid (hb x F B T b vs n0 w hE hx hW hlim)
 have hp' := hp.cell
 obtain ⟨c0, c1, c2, c3, c4, c5⟩ := hq.at_
 obtain ⟨k, nm, n, s, ka, kn, kc, la, ln, lc⟩ := x
 simp only [X.v] at *
 clear hp hq hE hx hW hb
 go_enter Tryz.func132, Tryz.ntmps132
 go_wp2_with fail
 refine HB.out.mono ?_
 rintro e w1 h1
 obtain ⟨rfl, h2, h3⟩ := h1
 have H2 := Lib.hid h2
 have H3 := Lib.hid h3
 clear h2 h3
 go_wp2_with fail
 go_end0
 exact ⟨rfl, ⟨b, H2.out⟩, H3.out⟩
theorem expr_of (v : V) (hf : Fine v) (he : isE v = true) (hb : Writes 133 v fun b => v.o.raw b) : WExpr v := by
 intro m x F B T b vs n0 w hE hx hW hlim
 have HLv := Lib.hid fun w' (h : Below w.heap.size w w') => level_any v x w' hf he (hx.up (h.mono hE.le) (Nat.le_trans hE.le h.size))
 have HHF := Lib.hid hE.hF
 obtain ⟨HX1, HX2⟩ := box_two w F #[.pointer (some ⟨B, 0, none⟩)] x.cells 57 25
 have HX1 := Lib.hid HX1
 have HX2 := Lib.hid HX2
 have HBl := Lib.hid (below_two w (.cells #[.pointer (some ⟨B, 0, none⟩)] 57) (.cells x.cells 25))
 have HE := Lib.hid fun w' (h : Below w.heap.size w w') (hs : w.heap.size + 2 ≤ w'.heap.size) => hE.ex h 2 hs
 have HW := Lib.hid fun w' (h : Below w.heap.size w w') => hW.ex h 2
 have HXX := Lib.hid fun w' (h : Below w.heap.size w w') => IsB.to (h.mono hE.le) (Nat.le_refl _) v x hx
 have HB := Lib.hid hb
 have hK : x.k = v.k ∧ x.nm = v.nm := by rw [isB_iff] at hx; exact ⟨hx.1.1, hx.1.2.1⟩
 have hlm : v.o.lvl ≤ 13 := lvl_le v
 have HC := Lib.hid fun b F T vs w p q => cExpr v hb x F B T b vs n0 w p q
 have hai := fun hc => at_in (v := v) (m := m) (b := b) hc
 have hao := fun hc => at_out (v := v) (m := m) (b := b) hc
 obtain ⟨k, nm, n, s, ka, kn, kc, la, ln, lc⟩ := x
 simp only [X.v, X.cells] at *
 rw [← hK.1, ← hK.2] at hai hao
 clear hK hE hx hW hb
 obtain ⟨L, hL⟩ : ∃ L, v.o.lvl = L := ⟨_, rfl⟩
 rw [hL] at hlm HLv hai hao
 generalize hO : v.o = o at *
 clear hL
 by_cases h1 : L < m
 ·rw [hai (.inl h1)] at hlim ⊢
  have h1' : (L : Int) < (m : Int) := by omega
  have hl2 : T.length + (o.raw false).length + 2 ≤ 8796093020000 := by simp at hlim; omega
  clear hai hao hO hlim
  go_enter Tryz.func115, Tryz.ntmps115
  go_wp2_with fail
  refine (HLv.out _ HBl.out).mono ?_
  rintro e w3 ⟨rfl, hb3⟩
  have hB3 : Below w.heap.size w w3 := HBl.out.trans (hb3.mono HBl.out.size)
  have hs3 : w.heap.size + 2 ≤ w3.heap.size := by have := hb3.size; simp at this; omega
  have hX1 := HX1.out.below hb3
  have hX2 := HX2.out.below hb3
  have hc1 := hX1.cell
  obtain ⟨c0, c1, c2, c3, c4, c5⟩ := Box.at_ (x := ⟨k, _, n, s, ka, kn, kc, la, ln, lc⟩) hX2
  have cb := (HW.out _ hB3).c1
  have HX1' := Lib.hid hX1
  have HX2' := Lib.hid hX2
  have HB3 := Lib.hid hB3
  clear hX1 hX2 hb3 hB3
  go_wp2_with fail
  refine (enclose_any (Ex F w.heap.size 2) B T _ vs ⟨#[40]⟩ ⟨#[41]⟩ 132 _ (o.raw false) w3 ?ca (HW.out _ HB3.out) (by omega) (by decide) (by decide) ent132 ?cc).mono ?_
  case ca => exact (HE.out _ HB3.out hs3).hF
  case cc =>
   intro w4 v4 hw4 hf4
   exact HC.out false (Ex F w.heap.size 2) _ v4 w4 _ _ ((HE.out _ HB3.out hs3).to hf4) ((HE.out _ HB3.out hs3).is hf4 (HXX.out _ HB3.out)) hw4 (HX1'.out.to hf4) (HX2'.out.to hf4) (by simp; omega)
  rintro e w5 h5
  obtain ⟨rfl, h52, h53⟩ := h5
  have H5 := Lib.hid (Adds.ex HHF.out HB3.out ⟨rfl, h52, h53⟩)
  clear h52 h53 hc1 c0 c1 c2 c3 c4 c5 cb
  go_wp2_with fail
  go_end0
  exact H5.out
 ·have h1' : (m : Int) ≤ (L : Int) := by omega
  cases b with
  | false =>
   rw [hao (fun h => by rcases h with h | h; exact h1 h; cases h.1)] at hlim ⊢
   clear hai hao hO h1
   go_enter Tryz.func115, Tryz.ntmps115
   go_wp2_with fail
   refine (HLv.out _ HBl.out).mono ?_
   rintro e w3 ⟨rfl, hb3⟩
   have hB3 : Below w.heap.size w w3 := HBl.out.trans (hb3.mono HBl.out.size)
   have hs3 : w.heap.size + 2 ≤ w3.heap.size := by have := hb3.size; simp at this; omega
   have hX1 := HX1.out.below hb3
   have hX2 := HX2.out.below hb3
   have hc1 := hX1.cell
   obtain ⟨c0, c1, c2, c3, c4, c5⟩ := Box.at_ (x := ⟨k, _, n, s, ka, kn, kc, la, ln, lc⟩) hX2
   have cb := (HW.out _ hB3).c1
   have HX1' := Lib.hid hX1
   have HX2' := Lib.hid hX2
   have HB3 := Lib.hid hB3
   clear hX1 hX2 hb3 hB3
   go_wp2_with fail
   refine (HB.out ⟨k, _, n, s, ka, kn, kc, la, ln, lc⟩ (Ex F w.heap.size 2) B T _ vs n0 w3 (HE.out _ HB3.out hs3) (HXX.out _ HB3.out) (HW.out _ HB3.out) hlim).mono ?_
   rintro e w5 h5
   obtain ⟨rfl, h52, h53⟩ := h5
   have H5 := Lib.hid (Adds.ex HHF.out HB3.out ⟨rfl, h52, h53⟩)
   clear h52 h53 hc1 c0 c1 c2 c3 c4 c5 cb
   go_wp2_with fail
   go_end0
   exact H5.out
  | true =>
   by_cases h2 : k = 17
   ·by_cases h3 : bl nm = [105, 110]
    ·rw [hai (.inr ⟨rfl, h2, h3⟩)] at hlim ⊢
     have hl2 : T.length + (o.raw false).length + 2 ≤ 8796093020000 := by simp at hlim; omega
     have h3' := of_bl h3
     subst h3'
     have h2' : (k == 17) = true := by rw [h2]; rfl
     clear hai hao hO hlim h1 h2 h3
     go_enter Tryz.func115, Tryz.ntmps115
     go_wp2_with fail
     refine (HLv.out _ HBl.out).mono ?_
     rintro e w3 ⟨rfl, hb3⟩
     have hB3 : Below w.heap.size w w3 := HBl.out.trans (hb3.mono HBl.out.size)
     have hs3 : w.heap.size + 2 ≤ w3.heap.size := by have := hb3.size; simp at this; omega
     have hX1 := HX1.out.below hb3
     have hX2 := HX2.out.below hb3
     have hc1 := hX1.cell
     obtain ⟨c0, c1, c2, c3, c4, c5⟩ := Box.at_ (x := ⟨k, _, n, s, ka, kn, kc, la, ln, lc⟩) hX2
     have cb := (HW.out _ hB3).c1
     have HX1' := Lib.hid hX1
     have HX2' := Lib.hid hX2
     have HB3 := Lib.hid hB3
     clear hX1 hX2 hb3 hB3
     go_wp2_with fail
     refine (enclose_any (Ex F w.heap.size 2) B T _ vs ⟨#[40]⟩ ⟨#[41]⟩ 132 _ (o.raw false) w3 ?ca (HW.out _ HB3.out) (by omega) (by decide) (by decide) ent132 ?cc).mono ?_
     case ca => exact (HE.out _ HB3.out hs3).hF
     case cc =>
      intro w4 v4 hw4 hf4
      exact HC.out false (Ex F w.heap.size 2) _ v4 w4 _ _ ((HE.out _ HB3.out hs3).to hf4) ((HE.out _ HB3.out hs3).is hf4 (HXX.out _ HB3.out)) hw4 (HX1'.out.to hf4) (HX2'.out.to hf4) (by simp; omega)
     rintro e w5 h5
     obtain ⟨rfl, h52, h53⟩ := h5
     have H5 := Lib.hid (Adds.ex HHF.out HB3.out ⟨rfl, h52, h53⟩)
     clear h52 h53 hc1 c0 c1 c2 c3 c4 c5 cb
     go_wp2_with fail
     go_end0
     exact H5.out
    ·rw [hao (fun h => by rcases h with h | h; exact h1 h; exact h3 h.2.2)] at hlim ⊢
     have h3' : (nm.toList == [105, 110]) = false := by
      rw [Lib.toList_data, beq_eq_false_iff_ne]
      exact h3
     have h2' : (k == 17) = true := by rw [h2]; rfl
     clear hai hao hO h1 h2 h3
     go_enter Tryz.func115, Tryz.ntmps115
     go_wp2_with fail
     refine (HLv.out _ HBl.out).mono ?_
     rintro e w3 ⟨rfl, hb3⟩
     have hB3 : Below w.heap.size w w3 := HBl.out.trans (hb3.mono HBl.out.size)
     have hs3 : w.heap.size + 2 ≤ w3.heap.size := by have := hb3.size; simp at this; omega
     have hX1 := HX1.out.below hb3
     have hX2 := HX2.out.below hb3
     have hc1 := hX1.cell
     obtain ⟨c0, c1, c2, c3, c4, c5⟩ := Box.at_ (x := ⟨k, _, n, s, ka, kn, kc, la, ln, lc⟩) hX2
     have cb := (HW.out _ hB3).c1
     have HX1' := Lib.hid hX1
     have HX2' := Lib.hid hX2
     have HB3 := Lib.hid hB3
     clear hX1 hX2 hb3 hB3
     go_wp2_with fail
     refine (HB.out ⟨k, _, n, s, ka, kn, kc, la, ln, lc⟩ (Ex F w.heap.size 2) B T _ vs n0 w3 (HE.out _ HB3.out hs3) (HXX.out _ HB3.out) (HW.out _ HB3.out) hlim).mono ?_
     rintro e w5 h5
     obtain ⟨rfl, h52, h53⟩ := h5
     have H5 := Lib.hid (Adds.ex HHF.out HB3.out ⟨rfl, h52, h53⟩)
     clear h52 h53 hc1 c0 c1 c2 c3 c4 c5 cb
     go_wp2_with fail
     go_end0
     exact H5.out
   ·rw [hao (fun h => by rcases h with h | h; exact h1 h; exact h2 h.2.1)] at hlim ⊢
    have h2' : (k == 17) = false := by rw [beq_eq_false_iff_ne]; exact h2
    clear hai hao hO h1 h2
    go_enter Tryz.func115, Tryz.ntmps115
    go_wp2_with fail
    refine (HLv.out _ HBl.out).mono ?_
    rintro e w3 ⟨rfl, hb3⟩
    have hB3 : Below w.heap.size w w3 := HBl.out.trans (hb3.mono HBl.out.size)
    have hs3 : w.heap.size + 2 ≤ w3.heap.size := by have := hb3.size; simp at this; omega
    have hX1 := HX1.out.below hb3
    have hX2 := HX2.out.below hb3
    have hc1 := hX1.cell
    obtain ⟨c0, c1, c2, c3, c4, c5⟩ := Box.at_ (x := ⟨k, _, n, s, ka, kn, kc, la, ln, lc⟩) hX2
    have cb := (HW.out _ hB3).c1
    have HX1' := Lib.hid hX1
    have HX2' := Lib.hid hX2
    have HB3 := Lib.hid hB3
    clear hX1 hX2 hb3 hB3
    go_wp2_with fail
    refine (HB.out ⟨k, _, n, s, ka, kn, kc, la, ln, lc⟩ (Ex F w.heap.size 2) B T _ vs n0 w3 (HE.out _ HB3.out hs3) (HXX.out _ HB3.out) (HW.out _ HB3.out) hlim).mono ?_
    rintro e w5 h5
    obtain ⟨rfl, h52, h53⟩ := h5
    have H5 := Lib.hid (Adds.ex HHF.out HB3.out ⟨rfl, h52, h53⟩)
    clear h52 h53 hc1 c0 c1 c2 c3 c4 c5 cb
    go_wp2_with fail
    go_end0
    exact H5.out
end Go.Proofs.YtllpgoaanbiodaaGreatDoor.R
