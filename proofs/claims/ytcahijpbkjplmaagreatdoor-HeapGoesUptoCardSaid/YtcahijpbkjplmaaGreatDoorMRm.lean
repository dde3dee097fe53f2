/-
 defineLength, by contract; a property is replaced.
 What a change of one object is to a heap; add, Close, by contract.
 Close, Delete, Define, Put, by contract.
-/
import Derived.Test.YtcahijpbkjplmaaGreatDoorMRg
import Derived.Test.YtcahijpbkjplmaaGreatDoorMRj
import Derived.Test.YtcahijpbkjplmaaGreatDoorMZ0
import Derived.Test.YtcahijpbkjplmaaGreatDoorMPf
import Derived.Test.YtcahijpbkjplmaaGreatDoorMQd
set_option linter.unusedSimpArgs false
namespace Go.Proofs.YtcahijpbkjplmaaGreatDoor.G
open Go.RowKit Go.Shelf Go.Maps Go.Lib Go.Proofs.YtcahijpbkjplmaaGreatDoor
section
variable {w w1 w2 : World} {ow ow1 ow2 : Nat → Option Nat} {i n k : Nat} {pp : Value} {b : Nat} {o o1 : Ob} {x x1 : OL} {p q : Pr}
theorem ObjAt.setp (h : ObjAt w ow i n pp x o) (hl : ∀ k, ow k ≠ none → k < w.heap.size) (hb : x.pb[k]? = some b) (hp : o.ps[k]? = some p) (hq : q.key = p.key) (hblk : Blk w1 b 81 (propC q (av (nd x.b x.pb k)) (av (nd x.b x.pb (k + 2))))) (hf : Fr (fun k => k < w.heap.size ∧ k ≠ b) w w1) :
  Chg w ow i n pp x.b { o with ps := o.ps.set k q } w1 ow x := by
 have hk1 : k < x.pb.length := (List.getElem?_eq_some_iff.1 hb).1
 have hbm : b ∈ x.pb := List.mem_of_getElem? hb
 have hbb : x.pb[k] = b := (List.getElem?_eq_some_iff.1 hb).2
 have hold : ∃ xs, Blk w b 81 xs := ⟨_, by have := h.pr k hk1 (by rw [← h.pl]; exact hk1); rw [hbb] at this; exact this⟩
 obtain ⟨xs, hxs⟩ := hold
 obtain ⟨es, c, hes⟩ := h.mp.isMap
 obtain ⟨ni, hn1, hn2⟩ := h.mi
 obtain ⟨es2, c2, hes2⟩ := hn2.isMap
 have hs : ∀ y, sel { o with ps := o.ps.set k q } x.pb y = sel o x.pb y := fun y => by
  rw [sel_eq, sel_eq]
  exact selG_set _ o.ps x.pb k p h.pl hp hq
 refine ⟨rfl, ⟨h.ob.fr (hf.block _ ⟨h.ob.lt, Ne.symm (h.ring.ne hbm)⟩), by rw [h.pl]; exact List.length_set.symm, fun j a e => ?_, h.nod, ?_, ⟨ni, by show ni + (o.ps.set k q).length ≤ _; rw [List.length_set]; exact hn1, hn2.fr (hf.block _ ⟨hn2.lt, Ne.symm (hxs.ne_map hes2)⟩)⟩, fun y => ?_, h.ra, h.wb, h.wm, h.wi, h.wp, h.mne⟩, fun _ _ e => e, fun _ e => .inl e, fun k e => Nat.lt_of_lt_of_le (hl k e) hf.size, fun _ _ e _ => e, hf.mono fun j hj => ⟨hj.1, fun e => hj.2 (by rw [e]; exact h.wp b hbm)⟩⟩
 ·have ej : j < o.ps.length := by rw [← h.pl]; exact a
  by_cases hjk : j = k
  ·subst hjk
   rw [show ({ o with ps := o.ps.set j q } : Ob).ps[j] = q from List.getElem_set_self _, hbb]
   exact hblk
  ·rw [show ({ o with ps := o.ps.set k q } : Ob).ps[j] = o.ps[j] from List.getElem_set_ne (Ne.symm hjk) _]
   exact (h.pr j a ej).fr (hf.block _ ⟨(h.pr j a ej).lt, fun e => hjk ((List.getElem_inj h.nod).1 (e.trans hbb.symm))⟩)
 ·have e : fnd x.pb (o.ps.set k q) = fnd x.pb o.ps := funext fun s => fnd_set s o.ps x.pb k p h.pl hp hq
  show MapS w1 x.pm n _ (fnd x.pb (o.ps.set k q))
  rw [e]
  exact h.mp.fr (hf.block _ ⟨h.mp.lt, Ne.symm (hxs.ne_map hes)⟩)
 ·rw [hs y]
  exact row_same (h.rw y) fun k e => hf.block k ⟨((h.rw y).lt k e).2, Ne.symm (hxs.ne_row (h.rw y) (by decide) k e)⟩
def Ob.dlen (o : Ob) (p : Pr) : Ob × Int := if p.e = true ∨ p.f = true ∨ (o.lw = false ∧ (p.w = true ∨ p.v ≠ num o.len)) then (o, 110) else (if (o.length ix p.v).2 = 0 then { (o.length ix p.v).1 with lw := p.w } else (o.length ix p.v).1, (o.length ix p.v).2)
set_option maxRecDepth 8000 in
set_option maxHeartbeats 2000000 in
theorem defineLength_any (h : ObjAt w ow i n pp x o) (hl : ∀ k, ow k ≠ none → k < w.heap.size) (p : Pr) (hcls : o.cls = AR) (hsp : ∀ p ∈ o.ps, p.key.size ≤ 16777216) (hnd : (o.ps.map (·.key)).Nodup) (hn : n ≤ 100000) (hps : o.ps.length ≤ 100000) (hlen : o.len ≤ 1000) (hix : ∀ p ∈ o.ps, ∀ z, ix p.key = some z → z < o.len) :
  Calls Tryz.prog 55 #[pv x.b, p.v'] w (LenR w ow i n pp x.b (o.dlen p)) := by
 have hb0 := below_new w (.cells p.cs.toArray 31)
 have HH := Lib.hid (h.low hl hb0)
 have HB := Lib.hid hb0
 have HW := Lib.hid (Blk.new w 31 p.cs)
 have HL := Lib.hid hl
 have HS : Hid (∀ w' : World, ObjAt w' ow i n pp x o → Below w.heap.size w w' → Calls Tryz.prog 84 #[pv x.b, p.v.v] w' (LenR w' ow i n pp x.b (o.length ix p.v))) := fun w' h' hb' => setLength_any h' (fun k hk => Nat.lt_of_lt_of_le (hl k hk) hb'.size) p.v hcls hsp hnd hn hps hlen hix
 clear h hl hcls hsp hnd hn hps hlen hix hb0
 obtain ⟨pk, ⟨pvk, pvn, pvs⟩, pw, pe, pf⟩ := p
 obtain ⟨d0, d1, d2, d3, d4, d5, d6⟩ := Blk.seven (p := ⟨pk, ⟨pvk, pvn, pvs⟩, pw, pe, pf⟩) HW.out
 simp only [Pr.v', Pr.cs, Vl.v] at HH HB HW HS d0 d1 d2 d3 d4 d5 d6 ⊢
 cases pe with
 | true =>
  have HR : Hid (o.dlen ⟨pk, ⟨pvk, pvn, pvs⟩, pw, true, pf⟩ = (o, 110)) := by
   show Ob.dlen o _ = _
   unfold Ob.dlen
   exact if_pos (by simp)
  go_enter Tryz.func55, Tryz.ntmps55
  go_wp2_with fail
  refine bodyPost_ret (results_tmp rfl _ _ _) rfl ?_
  rw [HR.out]
  exact ⟨rfl, ow, x, (Chg.self HH.out (fun k hk => Nat.lt_of_lt_of_le (HL.out k hk) HB.out.size)).low HB.out⟩
 | false =>
  cases pf with
  | true =>
   have HR : Hid (o.dlen ⟨pk, ⟨pvk, pvn, pvs⟩, pw, false, true⟩ = (o, 110)) := by
    show Ob.dlen o _ = _
    unfold Ob.dlen
    exact if_pos (by simp)
   go_enter Tryz.func55, Tryz.ntmps55
   go_wp2_with fail
   refine bodyPost_ret (results_tmp rfl _ _ _) rfl ?_
   rw [HR.out]
   exact ⟨rfl, ow, x, (Chg.self HH.out (fun k hk => Nat.lt_of_lt_of_le (HL.out k hk) HB.out.size)).low HB.out⟩
  | false =>
   cases hlw : o.lw with
   | true =>
    obtain ⟨⟨q1, q2⟩, HQ⟩ : ∃ q, Hid (o.length ix ⟨pvk, pvn, pvs⟩ = q) := ⟨_, rfl⟩
    have HR : Hid (o.dlen ⟨pk, ⟨pvk, pvn, pvs⟩, pw, false, false⟩ = (if q2 = 0 then { q1 with lw := pw } else q1, q2)) := by
     show Ob.dlen o _ = _
     unfold Ob.dlen
     dsimp only
     rw [HQ.out]
     exact if_neg (by simp [hlw])
    simp only [HQ.out] at HS
    go_enter Tryz.func55, Tryz.ntmps55
    go_wp2_with fail
    have HH3 := Lib.hid (HH.out.low (fun k hk => Nat.lt_of_lt_of_le (HL.out k hk) HB.out.size) (below_draw _))
    have HB3 : Hid (Below w.heap.size w (w.alloc (.cells #[.string pk, .int .i64 pvk, .int .i64 pvn, .string pvs, .bool pw, .bool false, .bool false] 31)).drew) := HB.out.drew
    have HW3 := Lib.hid (HW.out.fr (w' := (w.alloc (.cells #[.string pk, .int .i64 pvk, .int .i64 pvn, .string pvs, .bool pw, .bool false, .bool false] 31)).drew) rfl)
    have c15 : (w.alloc (.cells #[.string pk, .int .i64 pvk, .int .i64 pvn, .string pvs, .bool pw, .bool false, .bool false] 31)).drew.cell? ⟨x.b, 15, none⟩ = some (.bool false) := by have := HH3.out.ob.cell (k := 15) rfl; rw [hlw] at this; exact this
    have hs3 : (fun w' => w'.cell? ⟨x.b, 15, none⟩ = some (.bool false) ∧ w'.cell? ⟨w.heap.size, 4, none⟩ = some (.bool pw) ∧ w'.cell? ⟨w.heap.size, 1, none⟩ = some (.int .i64 pvk) ∧ w'.cell? ⟨w.heap.size, 2, none⟩ = some (.int .i64 pvn) ∧ w'.cell? ⟨w.heap.size, 3, none⟩ = some (.string pvs)) (w.alloc (.cells #[.string pk, .int .i64 pvk, .int .i64 pvn, .string pvs, .bool pw, .bool false, .bool false] 31)).drew := ⟨c15, HW3.out.cell (k := 4) rfl, HW3.out.cell (k := 1) rfl, HW3.out.cell (k := 2) rfl, HW3.out.cell (k := 3) rfl⟩
    clear HH HB HW c15 d0 d1 d2 d3 d4 d5 d6
    refine wp_region_held_drew (S := fun w' => w'.cell? ⟨x.b, 15, none⟩ = some (.bool false) ∧ w'.cell? ⟨w.heap.size, 4, none⟩ = some (.bool pw) ∧ w'.cell? ⟨w.heap.size, 1, none⟩ = some (.int .i64 pvk) ∧ w'.cell? ⟨w.heap.size, 2, none⟩ = some (.int .i64 pvn) ∧ w'.cell? ⟨w.heap.size, 3, none⟩ = some (.string pvs)) (by kernel_rfl) (hs3) (fun hHeld0 => ?_)
    generalize (w.alloc (.cells #[.string pk, .int .i64 pvk, .int .i64 pvn, .string pvs, .bool pw, .bool false, .bool false] 31)).drew = u3 at *
    refine tk 0 ?_ ‹_› ?_ ?_; rotate_left; focus (intro w0 hSw; obtain ⟨e1, e2, e3, e4, e5⟩ := hSw; go_simp; try with_reducible rfl)
    try simp only [PT]
    refine tk 1 ?_ ‹_› ?_ ?_; rotate_left; focus (intro w0 hSw; obtain ⟨e1, e2, e3, e4, e5⟩ := hSw; go_simp; try with_reducible rfl)
    try simp only [PT]
    refine tk 2 ?_ ‹_› ?_ ?_; rotate_left; focus (intro w0 hSw; obtain ⟨e1, e2, e3, e4, e5⟩ := hSw; go_simp; try with_reducible rfl)
    try simp only [PT]
    refine tk 3 ?_ ‹_› ?_ ?_; rotate_left; focus (intro w0 hSw; obtain ⟨e1, e2, e3, e4, e5⟩ := hSw; go_simp; try with_reducible rfl)
    try simp only [PT]
    refine tk 4 ?_ ‹_› ?_ ?_; rotate_left; focus (intro w0 hSw; obtain ⟨e1, e2, e3, e4, e5⟩ := hSw; go_simp; try with_reducible rfl)
    try simp only [PT]
    refine sk 5 ‹_› ?_
    try simp only [PT]
    refine sk 6 ‹_› ?_
    try simp only [PT]
    refine sk 7 ‹_› ?_
    try simp only [PT]
    refine sk 8 ‹_› ?_
    try simp only [PT]
    refine sk 9 ‹_› ?_
    try simp only [PT]
    refine sk 10 ‹_› ?_
    try simp only [PT]
    refine sk 11 ‹_› ?_
    try simp only [PT]
    refine sk 12 ‹_› ?_
    try simp only [PT]
    refine sk 13 ‹_› ?_
    try simp only [PT]
    refine tk 14 ?_ ‹_› ?_ ?_; rotate_left; focus (intro w0 hSw; obtain ⟨e1, e2, e3, e4, e5⟩ := hSw; go_simp; try with_reducible rfl)
    try simp only [PT]
    refine wpAnyH_done (by kernel_rfl) ?_ _
    clear hs3
    have HH := HH3
    have HB := HB3
    have HW := HW3
    clear HH3 HB3 HW3
    have HSL := Lib.hid (HS.out _ HH.out HB.out)
    clear HS
    obtain ⟨d0, d1, d2, d3, d4, d5, d6⟩ := Blk.seven (p := ⟨pk, ⟨pvk, pvn, pvs⟩, pw, false, false⟩) HW.out
    dsimp only at d0 d1 d2 d3 d4 d5 d6
    go_wp2_with fail
    refine HSL.out.mono ?_
    rintro e v9 ⟨rfl, ow9, x9, hc⟩
    have HC9 := Lib.hid hc
    have hpk : ow w.heap.size ≠ some (i + 1) := fun e => Nat.lt_irrefl _ (HL.out w.heap.size (by rw [e]; simp))
    have HW9 := Lib.hid (HW.out.fr (hc.fr.block _ ⟨HW.out.lt, hpk⟩))
    clear hc HSL HW d0 d1 d2 d3 d4 d5 d6 hpk
    have d4 : v9.cell? ⟨w.heap.size, 4, none⟩ = some (.bool pw) := HW9.out.cell (k := 4) rfl
    have c15 : v9.cell? ⟨x.b, 15, none⟩ = some (.bool (!q1.lw)) := by
     have := HC9.out.at'.ob.cell (k := 15) rfl
     rw [HC9.out.b] at this
     exact this
    have z15 : v9.frozen? ⟨x.b, 15, none⟩ = false := by
     have := HC9.out.at'.ob.fz 15
     rw [HC9.out.b] at this
     exact this
    go_wp2_with fail
    all_goals
     refine bodyPost_ret (results_tmp rfl _ _ _) rfl ?_
     rw [HR.out]
     by_cases h0 : q2 = 0
     ·subst h0
      rw [if_pos rfl]
      first
      | exact ⟨rfl, ow9, x9, (HC9.out.put (j := 15) (u := .bool (!pw)) (o' := { q1 with lw := pw }) rfl rfl rfl).low HB.out⟩
      | (rename_i h; simp at h; done)
     ·first
      | (rw [if_neg h0]; exact ⟨rfl, ow9, x9, HC9.out.low HB.out⟩)
      | (rename_i h; exact absurd (by simpa using h) h0)
   | false =>
    cases pw with
    | true =>
     have HR : Hid (o.dlen ⟨pk, ⟨pvk, pvn, pvs⟩, true, false, false⟩ = (o, 110)) := by
      show Ob.dlen o _ = _
      unfold Ob.dlen
      exact if_pos (by simp [hlw])
     go_enter Tryz.func55, Tryz.ntmps55
     go_wp2_with fail
     have HH3 := Lib.hid (HH.out.low (fun k hk => Nat.lt_of_lt_of_le (HL.out k hk) HB.out.size) (below_draw _))
     have HB3 : Hid (Below w.heap.size w (w.alloc (.cells #[.string pk, .int .i64 pvk, .int .i64 pvn, .string pvs, .bool true, .bool false, .bool false] 31)).drew) := HB.out.drew
     have HW3 := Lib.hid (HW.out.fr (w' := (w.alloc (.cells #[.string pk, .int .i64 pvk, .int .i64 pvn, .string pvs, .bool true, .bool false, .bool false] 31)).drew) rfl)
     have c15 : (w.alloc (.cells #[.string pk, .int .i64 pvk, .int .i64 pvn, .string pvs, .bool true, .bool false, .bool false] 31)).drew.cell? ⟨x.b, 15, none⟩ = some (.bool true) := by have := HH3.out.ob.cell (k := 15) rfl; rw [hlw] at this; exact this
     have hs3 : (fun w' => w'.cell? ⟨x.b, 15, none⟩ = some (.bool true) ∧ w'.cell? ⟨w.heap.size, 4, none⟩ = some (.bool true) ∧ w'.cell? ⟨w.heap.size, 1, none⟩ = some (.int .i64 pvk) ∧ w'.cell? ⟨w.heap.size, 2, none⟩ = some (.int .i64 pvn) ∧ w'.cell? ⟨w.heap.size, 3, none⟩ = some (.string pvs)) (w.alloc (.cells #[.string pk, .int .i64 pvk, .int .i64 pvn, .string pvs, .bool true, .bool false, .bool false] 31)).drew := ⟨c15, HW3.out.cell (k := 4) rfl, HW3.out.cell (k := 1) rfl, HW3.out.cell (k := 2) rfl, HW3.out.cell (k := 3) rfl⟩
     clear HH HB HW c15 d0 d1 d2 d3 d4 d5 d6
     refine wp_region_held_drew (S := fun w' => w'.cell? ⟨x.b, 15, none⟩ = some (.bool true) ∧ w'.cell? ⟨w.heap.size, 4, none⟩ = some (.bool true) ∧ w'.cell? ⟨w.heap.size, 1, none⟩ = some (.int .i64 pvk) ∧ w'.cell? ⟨w.heap.size, 2, none⟩ = some (.int .i64 pvn) ∧ w'.cell? ⟨w.heap.size, 3, none⟩ = some (.string pvs)) (by kernel_rfl) (hs3) (fun hHeld0 => ?_)
     generalize (w.alloc (.cells #[.string pk, .int .i64 pvk, .int .i64 pvn, .string pvs, .bool true, .bool false, .bool false] 31)).drew = u3 at *
     refine tk 0 ?_ ‹_› ?_ ?_; rotate_left; focus (intro w0 hSw; obtain ⟨e1, e2, e3, e4, e5⟩ := hSw; go_simp; try with_reducible rfl)
     try simp only [PT]
     refine tk 1 ?_ ‹_› ?_ ?_; rotate_left; focus (intro w0 hSw; obtain ⟨e1, e2, e3, e4, e5⟩ := hSw; go_simp; try with_reducible rfl)
     try simp only [PT]
     refine tk 2 ?_ ‹_› ?_ ?_; rotate_left; focus (intro w0 hSw; obtain ⟨e1, e2, e3, e4, e5⟩ := hSw; go_simp; try with_reducible rfl)
     try simp only [PT]
     refine tk 3 ?_ ‹_› ?_ ?_; rotate_left; focus (intro w0 hSw; obtain ⟨e1, e2, e3, e4, e5⟩ := hSw; go_simp; try with_reducible rfl)
     try simp only [PT]
     refine tk 4 ?_ ‹_› ?_ ?_; rotate_left; focus (intro w0 hSw; obtain ⟨e1, e2, e3, e4, e5⟩ := hSw; go_simp; try with_reducible rfl)
     try simp only [PT]
     refine tk 5 ?_ ‹_› ?_ ?_; rotate_left; focus (intro w0 hSw; obtain ⟨e1, e2, e3, e4, e5⟩ := hSw; go_simp; try with_reducible rfl)
     try simp only [PT]
     refine tk 6 ?_ ‹_› ?_ ?_; rotate_left; focus (intro w0 hSw; obtain ⟨e1, e2, e3, e4, e5⟩ := hSw; go_simp; try with_reducible rfl)
     try simp only [PT]
     refine tk 7 ?_ ‹_› ?_ ?_; rotate_left; focus (intro w0 hSw; obtain ⟨e1, e2, e3, e4, e5⟩ := hSw; go_simp; try with_reducible rfl)
     try simp only [PT]
     refine sk 8 ‹_› ?_
     try simp only [PT]
     refine sk 9 ‹_› ?_
     try simp only [PT]
     refine sk 10 ‹_› ?_
     try simp only [PT]
     refine sk 11 ‹_› ?_
     try simp only [PT]
     refine sk 12 ‹_› ?_
     try simp only [PT]
     refine tk 13 ?_ ‹_› ?_ ?_; rotate_left; focus (intro w0 hSw; obtain ⟨e1, e2, e3, e4, e5⟩ := hSw; go_simp; try with_reducible rfl)
     try simp only [PT]
     refine tk 14 ?_ ‹_› ?_ ?_; rotate_left; focus (intro w0 hSw; obtain ⟨e1, e2, e3, e4, e5⟩ := hSw; go_simp; try with_reducible rfl)
     try simp only [PT]
     refine wpAnyH_done (by kernel_rfl) ?_ _
     clear hs3
     have HH := HH3
     have HB := HB3
     have HW := HW3
     clear HH3 HB3 HW3
     go_wp2_with fail
     refine bodyPost_ret (results_tmp rfl _ _ _) rfl ?_
     rw [HR.out]
     exact ⟨rfl, ow, x, (Chg.self HH.out (fun k hk => Nat.lt_of_lt_of_le (HL.out k hk) HB.out.size)).low HB.out⟩
    | false =>
     by_cases hv : (⟨pvk, pvn, pvs⟩ : Vl) = num o.len
     ·unfold num at hv
      injection hv with h1 h2 h3
      subst h1 h2 h3
      obtain ⟨⟨q1, q2⟩, HQ⟩ : ∃ q, Hid (o.length ix ⟨3, (o.len : Int), nil⟩ = q) := ⟨_, rfl⟩
      have HR : Hid (o.dlen ⟨pk, ⟨3, (o.len : Int), nil⟩, false, false, false⟩ = (if q2 = 0 then { q1 with lw := false } else q1, q2)) := by
       show Ob.dlen o _ = _
       unfold Ob.dlen
       dsimp only
       rw [HQ.out]
       exact if_neg (by simp [hlw, num])
      simp only [HQ.out] at HS
      go_enter Tryz.func55, Tryz.ntmps55
      go_wp2_with fail
      have HH3 := Lib.hid (HH.out.low (fun k hk => Nat.lt_of_lt_of_le (HL.out k hk) HB.out.size) (below_draw _))
      have HB3 : Hid (Below w.heap.size w (w.alloc (.cells #[.string pk, .int .i64 3, .int .i64 (o.len : Int), .string nil, .bool false, .bool false, .bool false] 31)).drew) := HB.out.drew
      have HW3 := Lib.hid (HW.out.fr (w' := (w.alloc (.cells #[.string pk, .int .i64 3, .int .i64 (o.len : Int), .string nil, .bool false, .bool false, .bool false] 31)).drew) rfl)
      have c15 : (w.alloc (.cells #[.string pk, .int .i64 3, .int .i64 (o.len : Int), .string nil, .bool false, .bool false, .bool false] 31)).drew.cell? ⟨x.b, 15, none⟩ = some (.bool true) := by have := HH3.out.ob.cell (k := 15) rfl; rw [hlw] at this; exact this
      have hs3 : (fun w' => w'.cell? ⟨x.b, 15, none⟩ = some (.bool true) ∧ w'.cell? ⟨w.heap.size, 4, none⟩ = some (.bool false) ∧ w'.cell? ⟨w.heap.size, 1, none⟩ = some (.int .i64 3) ∧ w'.cell? ⟨w.heap.size, 2, none⟩ = some (.int .i64 (o.len : Int)) ∧ w'.cell? ⟨w.heap.size, 3, none⟩ = some (.string nil)) (w.alloc (.cells #[.string pk, .int .i64 3, .int .i64 (o.len : Int), .string nil, .bool false, .bool false, .bool false] 31)).drew := ⟨c15, HW3.out.cell (k := 4) rfl, HW3.out.cell (k := 1) rfl, HW3.out.cell (k := 2) rfl, HW3.out.cell (k := 3) rfl⟩
      clear HH HB HW c15 d0 d1 d2 d3 d4 d5 d6
      refine wp_region_held_drew (S := fun w' => w'.cell? ⟨x.b, 15, none⟩ = some (.bool true) ∧ w'.cell? ⟨w.heap.size, 4, none⟩ = some (.bool false) ∧ w'.cell? ⟨w.heap.size, 1, none⟩ = some (.int .i64 3) ∧ w'.cell? ⟨w.heap.size, 2, none⟩ = some (.int .i64 (o.len : Int)) ∧ w'.cell? ⟨w.heap.size, 3, none⟩ = some (.string nil)) (by kernel_rfl) (hs3) (fun hHeld0 => ?_)
      generalize (w.alloc (.cells #[.string pk, .int .i64 3, .int .i64 (o.len : Int), .string nil, .bool false, .bool false, .bool false] 31)).drew = u3 at *
      refine tk 0 ?_ ‹_› ?_ ?_; rotate_left; focus (intro w0 hSw; obtain ⟨e1, e2, e3, e4, e5⟩ := hSw; go_simp; try with_reducible rfl)
      try simp only [PT]
      refine tk 1 ?_ ‹_› ?_ ?_; rotate_left; focus (intro w0 hSw; obtain ⟨e1, e2, e3, e4, e5⟩ := hSw; go_simp; try with_reducible rfl)
      try simp only [PT]
      refine tk 2 ?_ ‹_› ?_ ?_; rotate_left; focus (intro w0 hSw; obtain ⟨e1, e2, e3, e4, e5⟩ := hSw; go_simp; try with_reducible rfl)
      try simp only [PT]
      refine tk 3 ?_ ‹_› ?_ ?_; rotate_left; focus (intro w0 hSw; obtain ⟨e1, e2, e3, e4, e5⟩ := hSw; go_simp; try with_reducible rfl)
      try simp only [PT]
      refine tk 4 ?_ ‹_› ?_ ?_; rotate_left; focus (intro w0 hSw; obtain ⟨e1, e2, e3, e4, e5⟩ := hSw; go_simp; try with_reducible rfl)
      try simp only [PT]
      refine tk 5 ?_ ‹_› ?_ ?_; rotate_left; focus (intro w0 hSw; obtain ⟨e1, e2, e3, e4, e5⟩ := hSw; go_simp; try with_reducible rfl)
      try simp only [PT]
      refine tk 6 ?_ ‹_› ?_ ?_; rotate_left; focus (intro w0 hSw; obtain ⟨e1, e2, e3, e4, e5⟩ := hSw; go_simp; try with_reducible rfl)
      try simp only [PT]
      refine tk 7 ?_ ‹_› ?_ ?_; rotate_left; focus (intro w0 hSw; obtain ⟨e1, e2, e3, e4, e5⟩ := hSw; go_simp; try with_reducible rfl)
      try simp only [PT]
      refine tk 8 ?_ ‹_› ?_ ?_; rotate_left; focus (intro w0 hSw; obtain ⟨e1, e2, e3, e4, e5⟩ := hSw; go_simp; try with_reducible rfl)
      try simp only [PT]
      refine tk 9 ?_ ‹_› ?_ ?_; rotate_left; focus (intro w0 hSw; obtain ⟨e1, e2, e3, e4, e5⟩ := hSw; go_simp; try with_reducible rfl)
      try simp only [PT]
      refine tk 10 ?_ ‹_› ?_ ?_; rotate_left; focus (intro w0 hSw; obtain ⟨e1, e2, e3, e4, e5⟩ := hSw; go_simp; try with_reducible rfl)
      try simp only [PT]
      refine wpAnyH_ready (rs := [11]) (by decide +kernel) (by simp) (AllReadyH.cons rfl (fun K hK => ?_) AllReadyH.nil)
      have hC := lengthValue_any HH3.out
      simp only [num, Vl.v] at hC
      go_simp
      refine hC.mono ?_
      rintro e u4 ⟨rfl, hb⟩
      have HH4 := Lib.hid (HH3.out.low (fun k hk => Nat.lt_of_lt_of_le (HL.out k hk) HB3.out.size) hb)
      have HW4 := Lib.hid (HW3.out.low hb)
      have HB4 := Lib.hid (HB3.out.trans (hb.mono HB3.out.size))
      have hs4 : (fun w' => w'.cell? ⟨x.b, 15, none⟩ = some (.bool true) ∧ w'.cell? ⟨w.heap.size, 4, none⟩ = some (.bool false) ∧ w'.cell? ⟨w.heap.size, 1, none⟩ = some (.int .i64 3) ∧ w'.cell? ⟨w.heap.size, 2, none⟩ = some (.int .i64 (o.len : Int)) ∧ w'.cell? ⟨w.heap.size, 3, none⟩ = some (.string nil)) u4 := ⟨by have := HH4.out.ob.cell (k := 15) rfl; rw [hlw] at this; exact this, HW4.out.cell (k := 4) rfl, HW4.out.cell (k := 1) rfl, HW4.out.cell (k := 2) rfl, HW4.out.cell (k := 3) rfl⟩
      clear HH3 HW3 HB3 hC
      refine hK.out _ _ hs4 (fun hHeld1 => ?_)
      clear hK K hHeld0 
      try simp only [PT]
      have HH3 := HH4
      have HB3 := HB4
      have HW3 := HW4
      clear HH4 HB4 HW4
      refine tk 12 ?_ ‹_› ?_ ?_; rotate_left; focus (intro w0 hSw; obtain ⟨e1, e2, e3, e4, e5⟩ := hSw; go_simp; try with_reducible rfl)
      try simp only [PT]
      refine tk 13 ?_ ‹_› ?_ ?_; rotate_left; focus (intro w0 hSw; obtain ⟨e1, e2, e3, e4, e5⟩ := hSw; go_simp; try with_reducible rfl)
      try simp only [PT]
      refine tk 14 ?_ ‹_› ?_ ?_; rotate_left; focus (intro w0 hSw; obtain ⟨e1, e2, e3, e4, e5⟩ := hSw; go_simp; try with_reducible rfl)
      try simp only [PT]
      refine wpAnyH_done (by kernel_rfl) ?_ _
      clear hs3
      have HH := HH3
      have HB := HB3
      have HW := HW3
      clear HH3 HB3 HW3
      have HSL := Lib.hid (HS.out _ HH.out HB.out)
      clear HS
      obtain ⟨d0, d1, d2, d3, d4, d5, d6⟩ := Blk.seven (p := ⟨pk, ⟨3, (o.len : Int), nil⟩, false, false, false⟩) HW.out
      dsimp only at d0 d1 d2 d3 d4 d5 d6
      go_wp2_with fail
      refine HSL.out.mono ?_
      rintro e v9 ⟨rfl, ow9, x9, hc⟩
      have HC9 := Lib.hid hc
      have hpk : ow w.heap.size ≠ some (i + 1) := fun e => Nat.lt_irrefl _ (HL.out w.heap.size (by rw [e]; simp))
      have HW9 := Lib.hid (HW.out.fr (hc.fr.block _ ⟨HW.out.lt, hpk⟩))
      clear hc HSL HW d0 d1 d2 d3 d4 d5 d6 hpk
      have d4 : v9.cell? ⟨w.heap.size, 4, none⟩ = some (.bool false) := HW9.out.cell (k := 4) rfl
      have c15 : v9.cell? ⟨x.b, 15, none⟩ = some (.bool (!q1.lw)) := by
       have := HC9.out.at'.ob.cell (k := 15) rfl
       rw [HC9.out.b] at this
       exact this
      have z15 : v9.frozen? ⟨x.b, 15, none⟩ = false := by
       have := HC9.out.at'.ob.fz 15
       rw [HC9.out.b] at this
       exact this
      go_wp2_with fail
      all_goals
       refine bodyPost_ret (results_tmp rfl _ _ _) rfl ?_
       rw [HR.out]
       by_cases h0 : q2 = 0
       ·subst h0
        rw [if_pos rfl]
        first
        | exact ⟨rfl, ow9, x9, (HC9.out.put (j := 15) (u := .bool (!false)) (o' := { q1 with lw := false }) rfl rfl rfl).low HB.out⟩
        | (rename_i h; simp at h; done)
       ·first
        | (rw [if_neg h0]; exact ⟨rfl, ow9, x9, HC9.out.low HB.out⟩)
        | (rename_i h; exact absurd (by simpa using h) h0)
     ·have HR : Hid (o.dlen ⟨pk, ⟨pvk, pvn, pvs⟩, false, false, false⟩ = (o, 110)) := by
       show Ob.dlen o _ = _
       unfold Ob.dlen
       exact if_pos (by simp [hlw, hv])
      have ev : ¬ (pvk = 3 ∧ pvn = (o.len : Int) ∧ pvs.toList = nil.toList) := fun ⟨h1, h2, h3⟩ => hv (by rw [h1, h2, toList_inj h3]; rfl)
      go_enter Tryz.func55, Tryz.ntmps55
      go_wp2_with fail
      have HH3 := Lib.hid (HH.out.low (fun k hk => Nat.lt_of_lt_of_le (HL.out k hk) HB.out.size) (below_draw _))
      have HB3 : Hid (Below w.heap.size w (w.alloc (.cells #[.string pk, .int .i64 pvk, .int .i64 pvn, .string pvs, .bool false, .bool false, .bool false] 31)).drew) := HB.out.drew
      have HW3 := Lib.hid (HW.out.fr (w' := (w.alloc (.cells #[.string pk, .int .i64 pvk, .int .i64 pvn, .string pvs, .bool false, .bool false, .bool false] 31)).drew) rfl)
      have c15 : (w.alloc (.cells #[.string pk, .int .i64 pvk, .int .i64 pvn, .string pvs, .bool false, .bool false, .bool false] 31)).drew.cell? ⟨x.b, 15, none⟩ = some (.bool true) := by have := HH3.out.ob.cell (k := 15) rfl; rw [hlw] at this; exact this
      have hs3 : (fun w' => w'.cell? ⟨x.b, 15, none⟩ = some (.bool true) ∧ w'.cell? ⟨w.heap.size, 4, none⟩ = some (.bool false) ∧ w'.cell? ⟨w.heap.size, 1, none⟩ = some (.int .i64 pvk) ∧ w'.cell? ⟨w.heap.size, 2, none⟩ = some (.int .i64 pvn) ∧ w'.cell? ⟨w.heap.size, 3, none⟩ = some (.string pvs)) (w.alloc (.cells #[.string pk, .int .i64 pvk, .int .i64 pvn, .string pvs, .bool false, .bool false, .bool false] 31)).drew := ⟨c15, HW3.out.cell (k := 4) rfl, HW3.out.cell (k := 1) rfl, HW3.out.cell (k := 2) rfl, HW3.out.cell (k := 3) rfl⟩
      clear HH HB HW c15 d0 d1 d2 d3 d4 d5 d6
      refine wp_region_held_drew (S := fun w' => w'.cell? ⟨x.b, 15, none⟩ = some (.bool true) ∧ w'.cell? ⟨w.heap.size, 4, none⟩ = some (.bool false) ∧ w'.cell? ⟨w.heap.size, 1, none⟩ = some (.int .i64 pvk) ∧ w'.cell? ⟨w.heap.size, 2, none⟩ = some (.int .i64 pvn) ∧ w'.cell? ⟨w.heap.size, 3, none⟩ = some (.string pvs)) (by kernel_rfl) (hs3) (fun hHeld0 => ?_)
      generalize (w.alloc (.cells #[.string pk, .int .i64 pvk, .int .i64 pvn, .string pvs, .bool false, .bool false, .bool false] 31)).drew = u3 at *
      refine tk 0 ?_ ‹_› ?_ ?_; rotate_left; focus (intro w0 hSw; obtain ⟨e1, e2, e3, e4, e5⟩ := hSw; go_simp; try with_reducible rfl)
      try simp only [PT]
      refine tk 1 ?_ ‹_› ?_ ?_; rotate_left; focus (intro w0 hSw; obtain ⟨e1, e2, e3, e4, e5⟩ := hSw; go_simp; try with_reducible rfl)
      try simp only [PT]
      refine tk 2 ?_ ‹_› ?_ ?_; rotate_left; focus (intro w0 hSw; obtain ⟨e1, e2, e3, e4, e5⟩ := hSw; go_simp; try with_reducible rfl)
      try simp only [PT]
      refine tk 3 ?_ ‹_› ?_ ?_; rotate_left; focus (intro w0 hSw; obtain ⟨e1, e2, e3, e4, e5⟩ := hSw; go_simp; try with_reducible rfl)
      try simp only [PT]
      refine tk 4 ?_ ‹_› ?_ ?_; rotate_left; focus (intro w0 hSw; obtain ⟨e1, e2, e3, e4, e5⟩ := hSw; go_simp; try with_reducible rfl)
      try simp only [PT]
      refine tk 5 ?_ ‹_› ?_ ?_; rotate_left; focus (intro w0 hSw; obtain ⟨e1, e2, e3, e4, e5⟩ := hSw; go_simp; try with_reducible rfl)
      try simp only [PT]
      refine tk 6 ?_ ‹_› ?_ ?_; rotate_left; focus (intro w0 hSw; obtain ⟨e1, e2, e3, e4, e5⟩ := hSw; go_simp; try with_reducible rfl)
      try simp only [PT]
      refine tk 7 ?_ ‹_› ?_ ?_; rotate_left; focus (intro w0 hSw; obtain ⟨e1, e2, e3, e4, e5⟩ := hSw; go_simp; try with_reducible rfl)
      try simp only [PT]
      refine tk 8 ?_ ‹_› ?_ ?_; rotate_left; focus (intro w0 hSw; obtain ⟨e1, e2, e3, e4, e5⟩ := hSw; go_simp; try with_reducible rfl)
      try simp only [PT]
      refine tk 9 ?_ ‹_› ?_ ?_; rotate_left; focus (intro w0 hSw; obtain ⟨e1, e2, e3, e4, e5⟩ := hSw; go_simp; try with_reducible rfl)
      try simp only [PT]
      refine tk 10 ?_ ‹_› ?_ ?_; rotate_left; focus (intro w0 hSw; obtain ⟨e1, e2, e3, e4, e5⟩ := hSw; go_simp; try with_reducible rfl)
      try simp only [PT]
      refine wpAnyH_ready (rs := [11]) (by decide +kernel) (by simp) (AllReadyH.cons rfl (fun K hK => ?_) AllReadyH.nil)
      have hC := lengthValue_any HH3.out
      simp only [num, Vl.v] at hC
      go_simp
      refine hC.mono ?_
      rintro e u4 ⟨rfl, hb⟩
      have HH4 := Lib.hid (HH3.out.low (fun k hk => Nat.lt_of_lt_of_le (HL.out k hk) HB3.out.size) hb)
      have HW4 := Lib.hid (HW3.out.low hb)
      have HB4 := Lib.hid (HB3.out.trans (hb.mono HB3.out.size))
      have hs4 : (fun w' => w'.cell? ⟨x.b, 15, none⟩ = some (.bool true) ∧ w'.cell? ⟨w.heap.size, 4, none⟩ = some (.bool false) ∧ w'.cell? ⟨w.heap.size, 1, none⟩ = some (.int .i64 pvk) ∧ w'.cell? ⟨w.heap.size, 2, none⟩ = some (.int .i64 pvn) ∧ w'.cell? ⟨w.heap.size, 3, none⟩ = some (.string pvs)) u4 := ⟨by have := HH4.out.ob.cell (k := 15) rfl; rw [hlw] at this; exact this, HW4.out.cell (k := 4) rfl, HW4.out.cell (k := 1) rfl, HW4.out.cell (k := 2) rfl, HW4.out.cell (k := 3) rfl⟩
      clear HH3 HW3 HB3 hC
      refine hK.out _ _ hs4 (fun hHeld1 => ?_)
      clear hK K hHeld0 
      try simp only [PT]
      have HH3 := HH4
      have HB3 := HB4
      have HW3 := HW4
      clear HH4 HB4 HW4
      refine tk 12 (.bool true) ‹_› ?_ ?_
      ·intro w0 hSw
       obtain ⟨e1, e2, e3, e4, e5⟩ := hSw
       go_simp
       exact fun h1 h2 h3 => ev ⟨h1, h2, h3⟩
      try simp only [PT]
      refine tk 13 ?_ ‹_› ?_ ?_; rotate_left; focus (intro w0 hSw; obtain ⟨e1, e2, e3, e4, e5⟩ := hSw; go_simp; try with_reducible rfl)
      try simp only [PT]
      refine tk 14 ?_ ‹_› ?_ ?_; rotate_left; focus (intro w0 hSw; obtain ⟨e1, e2, e3, e4, e5⟩ := hSw; go_simp; try with_reducible rfl)
      try simp only [PT]
      refine wpAnyH_done (by kernel_rfl) ?_ _
      clear hs3
      have HH := HH3
      have HB := HB3
      have HW := HW3
      clear HH3 HB3 HW3
      go_wp2_with fail
      refine bodyPost_ret (results_tmp rfl _ _ _) rfl ?_
      rw [HR.out]
      exact ⟨rfl, ow, x, (Chg.self HH.out (fun k hk => Nat.lt_of_lt_of_le (HL.out k hk) HB.out.size)).low HB.out⟩
end
structure Hch (w : World) (A : Nat) (ow : Nat → Option Nat) (L : List OL) (H' : Hs) (w' : World) (ow' : Nat → Option Nat) (L' : List OL) : Prop where
 ph : PH w' A H' ow' L'
 new : ∀ k, ow' k ≠ none → ow k ≠ none ∨ w.heap.size ≤ k
 fr : Fr (Aw w ow) w w'
 lb : ∃ l, L'.map (·.b) = L.map (·.b) ++ l
section
variable {w w1 w2 : World} {ow ow1 ow2 : Nat → Option Nat} {i A : Nat} {H H1 H2 : Hs} {L L1 L2 : List OL} {o o1 : Ob} {x : OL} {p : Pr}
theorem Hch.trans (h : Hch w A ow L H1 w1 ow1 L1) (k : Hch w1 A ow1 L1 H2 w2 ow2 L2) : Hch w A ow L H2 w2 ow2 L2 := by
 obtain ⟨l, hl⟩ := h.lb
 obtain ⟨l', hl'⟩ := k.lb
 refine ⟨k.ph, fun j hj => ?_, h.fr.trans ⟨k.fr.os, k.fr.tape, k.fr.output, k.fr.size, fun j hj => k.fr.block j ⟨Nat.lt_of_lt_of_le hj.1 h.fr.size, ?_⟩⟩, l ++ l', by rw [hl', hl, List.append_assoc]⟩
 ·rcases k.new j hj with e | e
  ·exact h.new j e
  ·exact .inr (Nat.le_trans h.fr.size e)
 ·cases e : ow1 j with
  | none => rfl
  | some r =>
   rcases h.new j (by rw [e]; simp) with e2 | e2
   ·exact absurd hj.2 e2
   ·exact absurd hj.1 (by omega)
theorem Hch.self (h : PH w A H ow L) : Hch w A ow L H w ow L := ⟨h, fun _ e => .inl e, Fr.refl _ _, [], by simp⟩
theorem Hch.low (h : Hch w1 A ow L H1 w2 ow1 L1) (hb : Below w.heap.size w w1) : Hch w A ow L H1 w2 ow1 L1 :=
 ⟨h.ph, fun k hk => (h.new k hk).imp id fun e => Nat.le_trans hb.size e, ⟨h.fr.os.trans hb.os, h.fr.tape.trans hb.tape, h.fr.output.trans hb.output, Nat.le_trans hb.size h.fr.size, fun k hk => (h.fr.block k ⟨Nat.lt_of_lt_of_le hk.1 hb.size, hk.2⟩).trans (hb.block k hk.1)⟩, h.lb⟩
theorem Hch.below (h : PH w A H ow L) (hb : Below w.heap.size w w1) : Hch w A ow L H w1 ow L := ⟨h.low hb, fun _ e => .inl e, Fr.of hb fun _ hk => hk.1, [], by simp⟩
theorem PH.chg (h : PH w A H ow L) {b : Nat} (hi : i < L.length) (hb : b = L[i].b) (ho : H.os[i]? = some o) (hc : Chg w ow i H.n (ppv L o.proto) b o1 w1 ow1 x) (hp : o1.proto = o.proto) : Hch w A ow L (H.set i o1) w1 ow1 (L.set i x) := by
 subst hb
 refine ⟨h.upd hi hc.b ho hp hc.at' (fun k r e hr => ⟨hc.old k r e, hc.fr.block k ⟨h.lt k (by rw [e]; simp), fun e2 => hr (by rw [e] at e2; exact Option.some.inj e2)⟩⟩) hc.lt, hc.new, hc.fr.mono fun k hk => ⟨hk.1, by rw [hk.2]; simp⟩, [], ?_⟩
 rw [List.map_set, List.append_nil]
 exact set_id (by rw [List.getElem?_map, List.getElem?_eq_getElem hi, Option.map_some, hc.b])
theorem take_two (h : PH w A H ow L) (g : Gd H) (hm : H.n < H.most) :
  Calls Tryz.prog 43 #[pv A] w fun e w' => e = .returned (.bool true) ∧ PH w' A { H with n := H.n + 1 } ow L ∧ Fr (fun k => k < w.heap.size ∧ k ≠ A) w w' := by
 have HL := Lib.hid (left_any h g.ok.le g.mx)
 have hmx := g.mx
 have e1 : (((H.most : Int) - (H.n : Int)) == 0) = false := by rw [beq_eq_false_iff_ne]; omega
 have hn : (H.n : Int) ≤ 100000 := by omega
 have HH := Lib.hid h
 clear h g hm hmx
 go_enter Tryz.func43, Tryz.ntmps43
 go_wp2_with fail
 refine HL.out.mono ?_
 rintro e w1 ⟨rfl, hb⟩
 have h1 := HH.out.low hb
 obtain ⟨⟨ov, hbk, -, -⟩, -, -, -, -⟩ := id h1
 have c1 := hbk.cell (k := 1) rfl
 have z1 := hbk.fz 1
 have H1 := Lib.hid h1
 have HBL := Lib.hid hb
 clear hbk h1 hb
 go_wp2_with fail
 go_ret
 exact ⟨rfl, H1.out.took, (Fr.of HBL.out fun k hk => hk.1).setCell (fun hk => hk.2 rfl) _⟩
def AddR (w : World) (A : Nat) (ow : Nat → Option Nat) (L : List OL) (r : Hs × Int) (e : Ending) (w' : World) : Prop := e = .returned (.int .i64 r.2) ∧ ∃ ow' L', Hch w A ow L r.1 w' ow' L'
set_option maxRecDepth 8000 in
set_option maxHeartbeats 1000000 in
theorem add_any (h : PH w A H ow L) (g : Gd H) (hx : L[i]? = some x) (ho : H.os[i]? = some o) (p : Pr) (hs : Sp p) (hk : o.ps.findIdx? (has p.key) = none) :
  Calls Tryz.prog 57 #[pv A, pv x.b, p.v'] w (AddR w A ow L (H.add ix AR i o p)) := by
 have hb0 := below_new w (.cells p.cs.toArray 31)
 have HPH := Lib.hid (h.low hb0)
 have HB := Lib.hid hb0
 have HW := Lib.hid (Blk.new w 31 p.cs)
 have hw0 := HW.out
 have hi : i < L.length := (List.getElem?_eq_some_iff.1 hx).1
 have hxi : L[i] = x := (List.getElem?_eq_some_iff.1 hx).2
 have hio : i < H.os.length := by rw [← h.len]; exact hi
 have hoi : H.os[i] = o := by rw [List.getElem?_eq_getElem hio] at ho; exact Option.some.inj ho
 have hob := HPH.out.ob i hi hio
 rw [hoi, hxi] at hob
 have HOB := Lib.hid hob
 have HG := Lib.hid g
 have HX0 := Lib.hid hx
 have HO := Lib.hid ho
 have HS := Lib.hid hs
 have HK := Lib.hid hk
 have HX := Lib.hid (index_cell (w := w.alloc (.cells p.cs.toArray 31)) (b := x.b) o (hob.ob.cell (k := 1) rfl) p.key (by have := hs.1; unfold maxLen; omega))
 have c3 : (w.alloc (.cells p.cs.toArray 31)).cell? ⟨x.b, 3, none⟩ = some (.bool o.closed) := hob.ob.cell (k := 3) rfl
 obtain ⟨r, HR⟩ : ∃ r, Hid (H.add ix AR i o p = r) := ⟨_, rfl⟩
 rw [HR.out]
 have HPH0 := Lib.hid h
 clear hxi hoi hob hw0 hio hi h g hx ho hs hk hb0
 obtain ⟨pk, ⟨pvk, pvn, pvs⟩, pw, pe, pf⟩ := p
 obtain ⟨d0, d1, d2, d3, d4, d5, d6⟩ := Blk.seven (p := ⟨pk, ⟨pvk, pvn, pvs⟩, pw, pe, pf⟩) HW.out
 simp only [Pr.v', Pr.cs, Vl.v] at HPH HB HW HX HOB c3 d0 d1 d2 d3 d4 d5 d6 ⊢
 cases hcl : o.closed with
 | true =>
  rw [hcl] at c3
  have HV : Hid (H.add ix AR i o ⟨pk, ⟨pvk, pvn, pvs⟩, pw, pe, pf⟩ = (H, 110)) := by
   have hb : o.bar ix AR pk = 110 := by
    unfold Ob.bar
    rw [hcl]
    rfl
   show Hs.add ix AR H i o ⟨pk, ⟨pvk, pvn, pvs⟩, pw, pe, pf⟩ = _
   unfold Hs.add
   rw [show Pr.key ⟨pk, ⟨pvk, pvn, pvs⟩, pw, pe, pf⟩ = pk from rfl, hb]
   exact if_pos (by decide)
  go_enter Tryz.func57, Tryz.ntmps57
  go_wp2_with fail
  refine bodyPost_ret (results_tmp rfl _ _ _) rfl ?_
  rw [← HR.out, HV.out]
  exact ⟨rfl, ow, L, (Hch.self HPH.out).low HB.out⟩
 | false =>
  rw [hcl] at c3
  have HCL := Lib.hid hcl
  go_enter Tryz.func57, Tryz.ntmps57
  go_wp2_with fail
  refine HX.out.mono ?_
  rintro e w1 ⟨rfl, hb1⟩
  clear d0 d1 d2 d3 d4 d5 d6 c3
  replace HPH := Lib.hid (HPH.out.low hb1)
  replace HOB := Lib.hid (HOB.out.low (fun k hk => Nat.lt_of_lt_of_le (HPH0.out.lt k hk) HB.out.size) hb1)
  replace HW := Lib.hid (HW.out.low hb1)
  replace HB := Lib.hid (HB.out.trans (hb1.mono HB.out.size))
  clear HX hb1
  have c14 : w1.cell? ⟨x.b, 14, none⟩ = some (.int .i64 (o.len : Int)) := HOB.out.ob.cell (k := 14) rfl
  have c15 : w1.cell? ⟨x.b, 15, none⟩ = some (.bool (!o.lw)) := HOB.out.ob.cell (k := 15) rfl
  cases hq : o.ixA ix AR pk with
  | none =>
   have HYX : Hid (∀ y, o.ixA ix AR pk = some y → y < 1000) := fun y e => by rw [hq] at e; cases e
   have HB0 : Hid (o.bar ix AR pk = 0) := by
    show Ob.bar ix AR o pk = 0
    unfold Ob.bar
    rw [HCL.out, hq]
    rfl
   simp only [idxRes] at *
   have hb0 : o.bar ix AR pk = 0 := HB0.out
   by_cases hm : H.most ≤ H.n
   ·have HV : Hid (H.add ix AR i o ⟨pk, ⟨pvk, pvn, pvs⟩, pw, pe, pf⟩ = (H, 111)) := by
     show Hs.add ix AR H i o ⟨pk, ⟨pvk, pvn, pvs⟩, pw, pe, pf⟩ = _
     unfold Hs.add
     rw [show Pr.key ⟨pk, ⟨pvk, pvn, pvs⟩, pw, pe, pf⟩ = pk from rfl, hb0, if_neg (by decide), if_pos hm]
    have HT := Lib.hid (take_none HPH.out HG.out hm)
    clear hb0
    go_wp2_with fail
    refine HT.out.mono ?_
    rintro e w2 ⟨rfl, hb2⟩
    go_wp2_with fail
    refine bodyPost_ret (results_tmp rfl _ _ _) rfl ?_
    rw [← HR.out, HV.out]
    exact ⟨rfl, ow, L, (Hch.self (HPH.out.low hb2)).low (HB.out.trans (hb2.mono HB.out.size))⟩
   ·have HV : Hid (H.add ix AR i o ⟨pk, ⟨pvk, pvn, pvs⟩, pw, pe, pf⟩ = ({ (H.set i (o.more ix AR ⟨pk, ⟨pvk, pvn, pvs⟩, pw, pe, pf⟩)) with n := H.n + 1 }, 0)) := by
     show Hs.add ix AR H i o ⟨pk, ⟨pvk, pvn, pvs⟩, pw, pe, pf⟩ = _
     unfold Hs.add
     rw [show Pr.key ⟨pk, ⟨pvk, pvn, pvs⟩, pw, pe, pf⟩ = pk from rfl, hb0, if_neg (by decide), if_neg hm]
    have HT := Lib.hid (take_two HPH.out HG.out (by omega))
    clear hb0
    go_wp2_with fail
    refine HT.out.mono ?_
    rintro e w2 ⟨rfl, hp2, hf2⟩
    have hA : ow A = some 0 := HPH0.out.wA
    have HW2 := Lib.hid (HW.out.fr (hf2.block _ ⟨HW.out.lt, fun e => Nat.lt_irrefl _ (by have := HPH0.out.lt A (by rw [hA]; simp); rw [← e] at this; exact this)⟩))
    have HOB2 : Hid (ObjAt w2 ow i H.n (ppv L o.proto) x o) := HOB.out.fr (fun k hk => ⟨hk, hf2.block k ⟨HPH.out.lt k (by rw [hk]; simp), fun e => by rw [e, hA] at hk; cases hk⟩⟩) (Nat.le_refl _)
    have HP2 := Lib.hid hp2
    have HF2 := Lib.hid hf2
    have hog := HG.out.og i o HO.out
    have HAP := Lib.hid (append_any HOB2.out HP2.out.lt ⟨pk, ⟨pvk, pvn, pvs⟩, pw, pe, pf⟩ HS.out HK.out HG.out.n100 (Nat.le_trans hog.l HG.out.n100) HYX.out)
    obtain ⟨d0, d1, d2, d3, d4, d5, d6⟩ := Blk.seven (p := ⟨pk, ⟨pvk, pvn, pvs⟩, pw, pe, pf⟩) HW2.out
    simp only [Pr.v', Vl.v] at HAP d0 d1 d2 d3 d4 d5 d6
    clear hp2 hf2 HT hog hA c14 c15
    go_wp2_with fail
    refine HAP.out.mono ?_
    rintro e w3 ⟨rfl, ow', x', hc⟩
    have HC := Lib.hid hc
    clear hc HAP d0 d1 d2 d3 d4 d5 d6
    go_wp2_with fail
    refine bodyPost_ret (results_tmp rfl _ _ _) rfl ?_
    rw [← HR.out, HV.out]
    have h1 : Hch w2 A ow L (({ H with n := H.n + 1 } : Hs).set i (o.more ix AR ⟨pk, ⟨pvk, pvn, pvs⟩, pw, pe, pf⟩)) w3 ow' (L.set i x') := HP2.out.chg (H := { H with n := H.n + 1 }) (List.getElem?_eq_some_iff.1 HX0.out).1 (by rw [(List.getElem?_eq_some_iff.1 HX0.out).2]) HO.out HC.out rfl
    have h2 : Hch w1 A ow L { H with n := H.n + 1 } w2 ow L := ⟨HP2.out, fun _ e => .inl e, HF2.out.mono fun k hk => ⟨hk.1, fun e => by have := HPH0.out.wA; rw [← e, hk.2] at this; cases this⟩, [], by simp⟩
    exact ⟨rfl, ow', L.set i x', (h2.trans h1).low HB.out⟩
  | some y =>
   have HQ := Lib.hid hq
   simp only [idxRes] at *
   by_cases h1 : 1000 ≤ y
   ·have HB0 : Hid (o.bar ix AR pk = 100) := by
     show Ob.bar ix AR o pk = 100
     unfold Ob.bar
     rw [HCL.out, HQ.out]
     simp [h1]
    have HV : Hid (H.add ix AR i o ⟨pk, ⟨pvk, pvn, pvs⟩, pw, pe, pf⟩ = (H, 100)) := by
     show Hs.add ix AR H i o ⟨pk, ⟨pvk, pvn, pvs⟩, pw, pe, pf⟩ = _
     unfold Hs.add
     rw [show Pr.key ⟨pk, ⟨pvk, pvn, pvs⟩, pw, pe, pf⟩ = pk from rfl, HB0.out]
     exact if_pos (by decide)
    have i1 : (1000 : Int) ≤ (y : Int) := by omega
    go_wp2_with fail
    refine bodyPost_ret (results_tmp rfl _ _ _) rfl ?_
    rw [← HR.out, HV.out]
    exact ⟨rfl, ow, L, (Hch.self HPH.out).low HB.out⟩
   ·have i1 : ¬ (1000 : Int) ≤ (y : Int) := by omega
    have HYX : Hid (∀ z, o.ixA ix AR pk = some z → z < 1000) := fun z e => by rw [HQ.out] at e; cases e; omega
    by_cases h2 : o.len ≤ y
    ·have i2 : (o.len : Int) ≤ (y : Int) := by omega
     cases hlw : o.lw with
     | false =>
      rw [hlw] at c15
      have HB0 : Hid (o.bar ix AR pk = 110) := by
       show Ob.bar ix AR o pk = 110
       unfold Ob.bar
       rw [HCL.out, HQ.out]
       simp [h1, h2, hlw]
      have HV : Hid (H.add ix AR i o ⟨pk, ⟨pvk, pvn, pvs⟩, pw, pe, pf⟩ = (H, 110)) := by
       show Hs.add ix AR H i o ⟨pk, ⟨pvk, pvn, pvs⟩, pw, pe, pf⟩ = _
       unfold Hs.add
       rw [show Pr.key ⟨pk, ⟨pvk, pvn, pvs⟩, pw, pe, pf⟩ = pk from rfl, HB0.out]
       exact if_pos (by decide)
      go_wp2_with fail
      refine bodyPost_ret (results_tmp rfl _ _ _) rfl ?_
      rw [← HR.out, HV.out]
      exact ⟨rfl, ow, L, (Hch.self HPH.out).low HB.out⟩
     | true =>
      rw [hlw] at c15
      have HB0 : Hid (o.bar ix AR pk = 0) := by
       show Ob.bar ix AR o pk = 0
       unfold Ob.bar
       rw [HCL.out, HQ.out]
       simp [h1, hlw]
      have hb0 : o.bar ix AR pk = 0 := HB0.out
      by_cases hm : H.most ≤ H.n
      ·have HV : Hid (H.add ix AR i o ⟨pk, ⟨pvk, pvn, pvs⟩, pw, pe, pf⟩ = (H, 111)) := by
        show Hs.add ix AR H i o ⟨pk, ⟨pvk, pvn, pvs⟩, pw, pe, pf⟩ = _
        unfold Hs.add
        rw [show Pr.key ⟨pk, ⟨pvk, pvn, pvs⟩, pw, pe, pf⟩ = pk from rfl, hb0, if_neg (by decide), if_pos hm]
       have HT := Lib.hid (take_none HPH.out HG.out hm)
       clear hb0
       go_wp2_with fail
       refine HT.out.mono ?_
       rintro e w2 ⟨rfl, hb2⟩
       go_wp2_with fail
       refine bodyPost_ret (results_tmp rfl _ _ _) rfl ?_
       rw [← HR.out, HV.out]
       exact ⟨rfl, ow, L, (Hch.self (HPH.out.low hb2)).low (HB.out.trans (hb2.mono HB.out.size))⟩
      ·have HV : Hid (H.add ix AR i o ⟨pk, ⟨pvk, pvn, pvs⟩, pw, pe, pf⟩ = ({ (H.set i (o.more ix AR ⟨pk, ⟨pvk, pvn, pvs⟩, pw, pe, pf⟩)) with n := H.n + 1 }, 0)) := by
        show Hs.add ix AR H i o ⟨pk, ⟨pvk, pvn, pvs⟩, pw, pe, pf⟩ = _
        unfold Hs.add
        rw [show Pr.key ⟨pk, ⟨pvk, pvn, pvs⟩, pw, pe, pf⟩ = pk from rfl, hb0, if_neg (by decide), if_neg hm]
       have HT := Lib.hid (take_two HPH.out HG.out (by omega))
       clear hb0
       go_wp2_with fail
       refine HT.out.mono ?_
       rintro e w2 ⟨rfl, hp2, hf2⟩
       have hA : ow A = some 0 := HPH0.out.wA
       have HW2 := Lib.hid (HW.out.fr (hf2.block _ ⟨HW.out.lt, fun e => Nat.lt_irrefl _ (by have := HPH0.out.lt A (by rw [hA]; simp); rw [← e] at this; exact this)⟩))
       have HOB2 : Hid (ObjAt w2 ow i H.n (ppv L o.proto) x o) := HOB.out.fr (fun k hk => ⟨hk, hf2.block k ⟨HPH.out.lt k (by rw [hk]; simp), fun e => by rw [e, hA] at hk; cases hk⟩⟩) (Nat.le_refl _)
       have HP2 := Lib.hid hp2
       have HF2 := Lib.hid hf2
       have hog := HG.out.og i o HO.out
       have HAP := Lib.hid (append_any HOB2.out HP2.out.lt ⟨pk, ⟨pvk, pvn, pvs⟩, pw, pe, pf⟩ HS.out HK.out HG.out.n100 (Nat.le_trans hog.l HG.out.n100) HYX.out)
       obtain ⟨d0, d1, d2, d3, d4, d5, d6⟩ := Blk.seven (p := ⟨pk, ⟨pvk, pvn, pvs⟩, pw, pe, pf⟩) HW2.out
       simp only [Pr.v', Vl.v] at HAP d0 d1 d2 d3 d4 d5 d6
       clear hp2 hf2 HT hog hA c14 c15
       go_wp2_with fail
       refine HAP.out.mono ?_
       rintro e w3 ⟨rfl, ow', x', hc⟩
       have HC := Lib.hid hc
       clear hc HAP d0 d1 d2 d3 d4 d5 d6
       go_wp2_with fail
       refine bodyPost_ret (results_tmp rfl _ _ _) rfl ?_
       rw [← HR.out, HV.out]
       have h1 : Hch w2 A ow L (({ H with n := H.n + 1 } : Hs).set i (o.more ix AR ⟨pk, ⟨pvk, pvn, pvs⟩, pw, pe, pf⟩)) w3 ow' (L.set i x') := HP2.out.chg (H := { H with n := H.n + 1 }) (List.getElem?_eq_some_iff.1 HX0.out).1 (by rw [(List.getElem?_eq_some_iff.1 HX0.out).2]) HO.out HC.out rfl
       have h2 : Hch w1 A ow L { H with n := H.n + 1 } w2 ow L := ⟨HP2.out, fun _ e => .inl e, HF2.out.mono fun k hk => ⟨hk.1, fun e => by have := HPH0.out.wA; rw [← e, hk.2] at this; cases this⟩, [], by simp⟩
       exact ⟨rfl, ow', L.set i x', (h2.trans h1).low HB.out⟩
    ·have i2 : ¬ (o.len : Int) ≤ (y : Int) := by omega
     have HB0 : Hid (o.bar ix AR pk = 0) := by
      show Ob.bar ix AR o pk = 0
      unfold Ob.bar
      rw [HCL.out, HQ.out]
      simp [h1, h2]
     have hb0 : o.bar ix AR pk = 0 := HB0.out
     by_cases hm : H.most ≤ H.n
     ·have HV : Hid (H.add ix AR i o ⟨pk, ⟨pvk, pvn, pvs⟩, pw, pe, pf⟩ = (H, 111)) := by
       show Hs.add ix AR H i o ⟨pk, ⟨pvk, pvn, pvs⟩, pw, pe, pf⟩ = _
       unfold Hs.add
       rw [show Pr.key ⟨pk, ⟨pvk, pvn, pvs⟩, pw, pe, pf⟩ = pk from rfl, hb0, if_neg (by decide), if_pos hm]
      have HT := Lib.hid (take_none HPH.out HG.out hm)
      clear hb0
      go_wp2_with fail
      refine HT.out.mono ?_
      rintro e w2 ⟨rfl, hb2⟩
      go_wp2_with fail
      refine bodyPost_ret (results_tmp rfl _ _ _) rfl ?_
      rw [← HR.out, HV.out]
      exact ⟨rfl, ow, L, (Hch.self (HPH.out.low hb2)).low (HB.out.trans (hb2.mono HB.out.size))⟩
     ·have HV : Hid (H.add ix AR i o ⟨pk, ⟨pvk, pvn, pvs⟩, pw, pe, pf⟩ = ({ (H.set i (o.more ix AR ⟨pk, ⟨pvk, pvn, pvs⟩, pw, pe, pf⟩)) with n := H.n + 1 }, 0)) := by
       show Hs.add ix AR H i o ⟨pk, ⟨pvk, pvn, pvs⟩, pw, pe, pf⟩ = _
       unfold Hs.add
       rw [show Pr.key ⟨pk, ⟨pvk, pvn, pvs⟩, pw, pe, pf⟩ = pk from rfl, hb0, if_neg (by decide), if_neg hm]
      have HT := Lib.hid (take_two HPH.out HG.out (by omega))
      clear hb0
      go_wp2_with fail
      refine HT.out.mono ?_
      rintro e w2 ⟨rfl, hp2, hf2⟩
      have hA : ow A = some 0 := HPH0.out.wA
      have HW2 := Lib.hid (HW.out.fr (hf2.block _ ⟨HW.out.lt, fun e => Nat.lt_irrefl _ (by have := HPH0.out.lt A (by rw [hA]; simp); rw [← e] at this; exact this)⟩))
      have HOB2 : Hid (ObjAt w2 ow i H.n (ppv L o.proto) x o) := HOB.out.fr (fun k hk => ⟨hk, hf2.block k ⟨HPH.out.lt k (by rw [hk]; simp), fun e => by rw [e, hA] at hk; cases hk⟩⟩) (Nat.le_refl _)
      have HP2 := Lib.hid hp2
      have HF2 := Lib.hid hf2
      have hog := HG.out.og i o HO.out
      have HAP := Lib.hid (append_any HOB2.out HP2.out.lt ⟨pk, ⟨pvk, pvn, pvs⟩, pw, pe, pf⟩ HS.out HK.out HG.out.n100 (Nat.le_trans hog.l HG.out.n100) HYX.out)
      obtain ⟨d0, d1, d2, d3, d4, d5, d6⟩ := Blk.seven (p := ⟨pk, ⟨pvk, pvn, pvs⟩, pw, pe, pf⟩) HW2.out
      simp only [Pr.v', Vl.v] at HAP d0 d1 d2 d3 d4 d5 d6
      clear hp2 hf2 HT hog hA c14 c15
      go_wp2_with fail
      refine HAP.out.mono ?_
      rintro e w3 ⟨rfl, ow', x', hc⟩
      have HC := Lib.hid hc
      clear hc HAP d0 d1 d2 d3 d4 d5 d6
      go_wp2_with fail
      refine bodyPost_ret (results_tmp rfl _ _ _) rfl ?_
      rw [← HR.out, HV.out]
      have h1 : Hch w2 A ow L (({ H with n := H.n + 1 } : Hs).set i (o.more ix AR ⟨pk, ⟨pvk, pvn, pvs⟩, pw, pe, pf⟩)) w3 ow' (L.set i x') := HP2.out.chg (H := { H with n := H.n + 1 }) (List.getElem?_eq_some_iff.1 HX0.out).1 (by rw [(List.getElem?_eq_some_iff.1 HX0.out).2]) HO.out HC.out rfl
      have h2 : Hch w1 A ow L { H with n := H.n + 1 } w2 ow L := ⟨HP2.out, fun _ e => .inl e, HF2.out.mono fun k hk => ⟨hk.1, fun e => by have := HPH0.out.wA; rw [← e, hk.2] at this; cases this⟩, [], by simp⟩
      exact ⟨rfl, ow', L.set i x', (h2.trans h1).low HB.out⟩
end
section
variable {w w1 w2 : World} {ow ow1 ow2 : Nat → Option Nat} {i A : Nat} {H H1 H2 : Hs} {L L1 L2 : List OL} {o o1 : Ob} {x : OL} {p : Pr}
theorem fnd_at {pb : List Nat} {ps : List Pr} {key : ByteArray} {k : Nat} (hl : pb.length = ps.length) (h : ps.findIdx? (has key) = some k) : ∃ b p, pb[k]? = some b ∧ ps[k]? = some p ∧ p.key = key ∧ fnd pb ps key = pv b := by
 obtain ⟨p, hp, hk⟩ := find_idx h
 have hk' : k < pb.length := by rw [hl]; exact (List.getElem?_eq_some_iff.1 hp).1
 refine ⟨pb[k], p, List.getElem?_eq_getElem hk', hp, hk, ?_⟩
 unfold fnd
 rw [h]
 dsimp only
 rw [List.getElem?_eq_getElem hk']
theorem fnd_no {pb : List Nat} {ps : List Pr} {key : ByteArray} (h : ps.findIdx? (has key) = none) : fnd pb ps key = .pointer none := by
 unfold fnd
 rw [h]
theorem set_same {o : Ob} (h : H.os[i]? = some o) : H.set i o = H := by
 unfold Hs.set
 rw [set_id h]
theorem Gd.obj (g : Gd H) (ho : H.os[i]? = some o) : (∀ p ∈ o.ps, p.key.size ≤ 16777216) ∧ (o.ps.map (·.key)).Nodup ∧ o.ps.length ≤ 100000 ∧ (o.cls = AR → o.len ≤ 1000 ∧ ∀ p ∈ o.ps, ∀ z, ix p.key = some z → z < o.len) ∧ (∀ p ∈ o.ps, ∀ y, o.ixA ix AR p.key = some y → y < 1000) := by
 have h := g.og i o ho
 refine ⟨fun p hp => (h.s p hp).1, g.ok.nd i o ho, Nat.le_trans h.l g.n100, h.a, fun p hp y hy => ?_⟩
 unfold Ob.ixA at hy
 split at hy
 ·rename_i hc
  have h1 := (h.a hc).2 p hp y hy
  have h2 := (h.a hc).1
  omega
 ·cases hy
def HpR (w : World) (A : Nat) (ow : Nat → Option Nat) (L : List OL) (v : Value) (H' : Hs) (e : Ending) (w' : World) : Prop := e = .returned v ∧ ∃ ow' L', Hch w A ow L H' w' ow' L'
set_option maxRecDepth 8000 in
theorem close_any (h : PH w A H ow L) (g : Gd H) (v : Vl) :
  Calls Tryz.prog 18 #[pv A, v.v] w (HpR w A ow L (.bool (H.close v).2) (H.close v).1) := by
 have h0 := h.low (below_new w (.cells v.cs.toArray 29))
 have HF := Lib.hid (find_any h0 v g.os100)
 have HB := Lib.hid (below_new w (.cells v.cs.toArray 29))
 have HP := Lib.hid h0
 obtain ⟨r, HR⟩ : ∃ r, Hid (H.close v = r) := ⟨_, rfl⟩
 rw [HR.out]
 rcases h0.obj (v := v) with ⟨e1, e2⟩ | ⟨i, x, o, e1, e2, e3, e5, e4, h5⟩
 ·have HV : Hid (H.close v = (H, false)) := by show H.close v = _; unfold Hs.close; rw [e1]
  rw [e1] at HF
  clear e1 e2 h0 h g
  obtain ⟨vk, vn, vs⟩ := v
  simp only [Vl.v, Vl.cs, ppv] at HF HB HP ⊢
  go_enter Tryz.func18, Tryz.ntmps18
  go_wp2_with fail
  refine HF.out.mono ?_
  rintro e w1 ⟨rfl, hb⟩
  go_wp2_with fail
  refine bodyPost_ret (results_tmp rfl _ _ _) rfl ?_
  rw [← HR.out, HV.out]
  exact ⟨rfl, ow, L, (Hch.below HP.out hb).low HB.out⟩
 ·have HV : Hid (H.close v = (H.set i { o with closed := true }, true)) := by show H.close v = _; unfold Hs.close; rw [e1]; dsimp only; rw [e3]
  rw [e1, e4] at HF
  have H5 := Lib.hid h5
  have HO := Lib.hid e3
  have HX := Lib.hid e5
  clear e1 e2 e3 e4 h0 h g h5 e5
  obtain ⟨vk, vn, vs⟩ := v
  simp only [Vl.v, Vl.cs] at HF HB HP H5 ⊢
  go_enter Tryz.func18, Tryz.ntmps18
  go_wp2_with fail
  refine HF.out.mono ?_
  rintro e w1 ⟨rfl, hb⟩
  have h6 := H5.out.low HP.out.lt hb
  have c3 := h6.ob.cell (k := 3) rfl
  have z3 := h6.ob.fz 3
  have HP1 := Lib.hid (HP.out.low hb)
  have H6 := Lib.hid h6
  have HB1 := Lib.hid (HB.out.trans (hb.mono HB.out.size))
  clear h6 hb HF H5 HP
  go_wp2_with fail
  refine bodyPost_ret (results_tmp rfl _ _ _) rfl ?_
  rw [← HR.out, HV.out]
  have hi := (List.getElem?_eq_some_iff.1 HX.out)
  have hc := (Chg.self H6.out HP1.out.lt).put (j := 3) (u := .bool true) (o' := { o with closed := true }) rfl rfl rfl
  exact ⟨rfl, ow, L.set i x, (HP1.out.chg hi.1 (by rw [hi.2]) HO.out hc rfl).low HB1.out⟩
set_option maxRecDepth 8000 in
theorem delete_any (h : PH w A H ow L) (g : Gd H) (v : Vl) (key : ByteArray) (hs : key.size ≤ 16777216) :
  Calls Tryz.prog 36 #[pv A, v.v, .string key] w (HpR w A ow L (.int .i64 (H.delete LK AR v key).2) (H.delete LK AR v key).1) := by
 have h0 := h.low (below_new w (.cells v.cs.toArray 29))
 have HF := Lib.hid (find_any h0 v g.os100)
 have HB := Lib.hid (below_new w (.cells v.cs.toArray 29))
 have HP := Lib.hid h0
 obtain ⟨r, HR⟩ : ∃ r, Hid (H.delete LK AR v key = r) := ⟨_, rfl⟩
 rw [HR.out]
 rcases h0.obj (v := v) with ⟨e1, e2⟩ | ⟨i, x, o, e1, e2, e3, e5, e4, h5⟩
 ·have HV : Hid (H.delete LK AR v key = (H, 110)) := by show Hs.delete LK AR H v key = _; unfold Hs.delete; rw [e1]
  rw [e1] at HF
  clear e1 e2 h0 h g
  obtain ⟨vk, vn, vs⟩ := v
  simp only [Vl.v, Vl.cs, ppv] at HF HB HP ⊢
  go_enter Tryz.func36, Tryz.ntmps36
  go_wp2_with fail
  refine HF.out.mono ?_
  rintro e w1 ⟨rfl, hb⟩
  go_wp2_with fail
  refine bodyPost_ret (results_tmp rfl _ _ _) rfl ?_
  rw [← HR.out, HV.out]
  exact ⟨rfl, ow, L, (Hch.below HP.out hb).low HB.out⟩
 ·rw [e1, e4] at HF
  have HG := Lib.hid (g.obj e3)
  have HN := Lib.hid g.n100
  have H5 := Lib.hid h5
  have HO := Lib.hid e3
  have HX := Lib.hid e5
  have HE : Hid (H.delete LK AR v key = ((if o.isLen LK AR key then (H, 110) else match o.ps.findIdx? (has key) with
    | none => (H, 0)
    | some k => match o.ps[k]? with
     | none => (H, 110)
     | some q => if q.f = false then (H, 110) else (H.set i { o with ps := o.ps.eraseIdx k }, 0)) : Hs × Int)) := by show Hs.delete LK AR H v key = _; unfold Hs.delete; rw [e1]; dsimp only; rw [e3]; rfl
  have HKS : Hid (key.size ≤ maxLen) := by show key.size ≤ maxLen; unfold maxLen; omega
  have HS := Lib.hid hs
  clear e1 e2 e3 e4 h0 h g h5 e5 hs
  obtain ⟨vk, vn, vs⟩ := v
  simp only [Vl.v, Vl.cs] at HF HB HP H5 ⊢
  go_enter Tryz.func36, Tryz.ntmps36
  go_wp2_with fail
  refine HF.out.mono ?_
  rintro e w1 ⟨rfl, hb⟩
  have h6 := H5.out.low HP.out.lt hb
  have HP1 := Lib.hid (HP.out.low hb)
  have H6 := Lib.hid h6
  have HB1 := Lib.hid (HB.out.trans (hb.mono HB.out.size))
  have HI := Lib.hid (isLength_any h6 key)
  clear h6 hb HF H5 HP
  go_wp2_with fail
  refine HI.out.mono ?_
  rintro e w2 ⟨rfl, rfl⟩
  clear HI
  cases hl : o.isLen LK AR key with
  | true =>
   have HV := Lib.hid (HE.out.trans (if_pos hl))
   clear HE
   go_wp2_with fail
   refine bodyPost_ret (results_tmp rfl _ _ _) rfl ?_
   rw [← HR.out, HV.out]
   exact ⟨rfl, ow, L, (Hch.self HP1.out).low HB1.out⟩
  | false =>
   have HV := Lib.hid (HE.out.trans (if_neg (by rw [hl]; exact Bool.false_ne_true)))
   clear HE
   have c4 := H6.out.ob.cell (k := 4) rfl
   have hlk := H6.out.mp.look Tryz.underlying78 (zeroP _) HKS.out
   cases hf : o.ps.findIdx? (has key) with
   | none =>
    rw [fnd_no hf] at hlk
    rw [hf] at HV
    dsimp only at HV
    go_wp2_with fail
    refine bodyPost_ret (results_tmp rfl _ _ _) rfl ?_
    rw [← HR.out, HV.out]
    exact ⟨rfl, ow, L, (Hch.self HP1.out).low HB1.out⟩
   | some k =>
    obtain ⟨b, p, hb1, hp, hpk, hfn⟩ := fnd_at H6.out.pl hf
    rw [hfn] at hlk
    have HV2 := HV.out
    rw [hf] at HV2
    dsimp only at HV2
    rw [hp] at HV2
    dsimp only at HV2
    have hk1 : k < x.pb.length := (List.getElem?_eq_some_iff.1 hb1).1
    have hk2 : k < o.ps.length := (List.getElem?_eq_some_iff.1 hp).1
    have hblk := H6.out.pr k hk1 hk2
    rw [(List.getElem?_eq_some_iff.1 hb1).2, (List.getElem?_eq_some_iff.1 hp).2] at hblk
    have c6 : w1.cell? ⟨b, 6, none⟩ = some (.bool p.f) := hblk.cell (k := 6) rfl
    have hmem : p ∈ o.ps := List.mem_of_getElem? hp
    cases hpf : p.f with
    | false =>
     rw [if_pos hpf] at HV2
     have HV3 := Lib.hid HV2
     rw [hpf] at c6
     clear HV HV2 hblk hk1 hk2 hb1 hp hfn hf hmem
     go_wp2_with fail
     refine bodyPost_ret (results_tmp rfl _ _ _) rfl ?_
     rw [← HR.out, HV3.out]
     exact ⟨rfl, ow, L, (Hch.self HP1.out).low HB1.out⟩
    | true =>
     rw [if_neg (by rw [hpf]; simp)] at HV2
     have HV3 := Lib.hid HV2
     rw [hpf] at c6
     have HRM := Lib.hid (remove_any H6.out HP1.out.lt hp hb1 (by rw [hpk]; exact HS.out) HG.out.2.1 HN.out HG.out.2.2.1 (HG.out.2.2.2.2 p hmem))
     clear HV HV2 hblk hk1 hk2 hb1 hp hfn hf hmem
     go_wp2_with fail
     refine HRM.out.mono ?_
     rintro e w3 ⟨rfl, ow', x', -, hc⟩
     have HC := Lib.hid hc
     clear hc HRM hlk c4 c6
     go_wp2_with fail
     refine bodyPost_ret (results_tmp rfl _ _ _) rfl ?_
     rw [← HR.out, HV3.out]
     have hi := (List.getElem?_eq_some_iff.1 HX.out)
     exact ⟨rfl, ow', L.set i x', (HP1.out.chg hi.1 (by rw [hi.2]) HO.out HC.out rfl).low HB1.out⟩
end
end Go.Proofs.YtcahijpbkjplmaaGreatDoor.G
