/-
  defineLength, by contract; a property is replaced. (gen_rk.py)
-/
import Derived.Test.YtcahijpbkjplmaaGreatDoorMRg
import Derived.Test.YtcahijpbkjplmaaGreatDoorMRj
namespace Go.Proofs.YtcahijpbkjplmaaGreatDoor.G
open Go.RowKit Go.Shelf Go.Maps Go.Lib Go.Proofs.YtcahijpbkjplmaaGreatDoor

section
variable {w w1 w2 : World} {ow ow1 ow2 : Nat → Option Nat} {i n k : Nat} {pp : Value} {b : Nat} {o o1 : Ob} {x x1 : OL} {p q : Pr}
/-- a property of the object is another one with its key -/
theorem ObjAt.setp (h : ObjAt w ow i n pp x o) (hl : ∀ k, ow k ≠ none → k < w.heap.size) (hb : x.pb[k]? = some b) (hp : o.ps[k]? = some p) (hq : q.key = p.key) (hblk : Blk w1 b 81 (propC q (av (nd x.b x.pb k)) (av (nd x.b x.pb (k + 2))))) (hf : Fr (fun k => k < w.heap.size ∧ k ≠ b) w w1) :
    Chg w ow i n pp x.b { o with ps := o.ps.set k q } w1 ow x := by
  have hk1 : k < x.pb.length := (List.getElem?_eq_some_iff.1 hb).1
  have hbm : b ∈ x.pb := List.mem_of_getElem? hb
  have hbb : x.pb[k] = b := (List.getElem?_eq_some_iff.1 hb).2
  have hold : ∃ xs, Blk w b 81 xs := ⟨_, by have := h.pr k hk1 (by rw [← h.pl]; exact hk1); rw [hbb] at this; exact this⟩
  obtain ⟨xs, hxs⟩ := hold
  obtain ⟨es, c, hes⟩ := h.mp.isMap
  obtain ⟨ni, hn1, hn2⟩ := h.mi
  obtain ⟨es2, c2, hes2⟩ := hn2.isMap
  have hs : ∀ y, sel { o with ps := o.ps.set k q } x.pb y = sel o x.pb y := fun y => by
    rw [sel_eq, sel_eq]
    exact selG_set _ o.ps x.pb k p h.pl hp hq
  refine ⟨rfl, ⟨h.ob.fr (hf.block _ ⟨h.ob.lt, Ne.symm (h.ring.ne hbm)⟩), by rw [h.pl]; exact List.length_set.symm, fun j a e => ?_, h.nod, ?_, ⟨ni, by show ni + (o.ps.set k q).length ≤ _; rw [List.length_set]; exact hn1, hn2.fr (hf.block _ ⟨hn2.lt, Ne.symm (hxs.ne_map hes2)⟩)⟩, fun y => ?_, h.ra, h.wb, h.wm, h.wi, h.wp, h.mne⟩, fun _ _ e => e, fun _ e => .inl e, fun k e => Nat.lt_of_lt_of_le (hl k e) hf.size, fun _ _ e _ => e, hf.mono fun j hj => ⟨hj.1, fun e => hj.2 (by rw [e]; exact h.wp b hbm)⟩⟩
  · have ej : j < o.ps.length := by rw [← h.pl]; exact a
    by_cases hjk : j = k
    · subst hjk
      rw [show ({ o with ps := o.ps.set j q } : Ob).ps[j] = q from List.getElem_set_self _, hbb]
      exact hblk
    · rw [show ({ o with ps := o.ps.set k q } : Ob).ps[j] = o.ps[j] from List.getElem_set_ne (Ne.symm hjk) _]
      exact (h.pr j a ej).fr (hf.block _ ⟨(h.pr j a ej).lt, fun e => hjk ((List.getElem_inj h.nod).1 (e.trans hbb.symm))⟩)
  · have e : fnd x.pb (o.ps.set k q) = fnd x.pb o.ps := funext fun s => fnd_set s o.ps x.pb k p h.pl hp hq
    show MapS w1 x.pm n _ (fnd x.pb (o.ps.set k q))
    rw [e]
    exact h.mp.fr (hf.block _ ⟨h.mp.lt, Ne.symm (hxs.ne_map hes)⟩)
  · rw [hs y]
    exact row_same (h.rw y) fun k e => hf.block k ⟨((h.rw y).lt k e).2, Ne.symm (hxs.ne_row (h.rw y) (by decide) k e)⟩
def Ob.dlen (o : Ob) (p : Pr) : Ob × Int := if p.e = true ∨ p.f = true ∨ (o.lw = false ∧ (p.w = true ∨ p.v ≠ num o.len)) then (o, 110) else (if (o.length ix p.v).2 = 0 then { (o.length ix p.v).1 with lw := p.w } else (o.length ix p.v).1, (o.length ix p.v).2)
set_option linter.unusedSimpArgs false in
set_option maxRecDepth 8000 in
set_option maxHeartbeats 2000000 in
theorem defineLength_any (h : ObjAt w ow i n pp x o) (hl : ∀ k, ow k ≠ none → k < w.heap.size) (p : Pr) (hcls : o.cls = AR) (hsp : ∀ p ∈ o.ps, p.key.size ≤ 16777216) (hnd : (o.ps.map (·.key)).Nodup) (hn : n ≤ 100000) (hps : o.ps.length ≤ 100000) (hlen : o.len ≤ 1000) (hix : ∀ p ∈ o.ps, ∀ z, ix p.key = some z → z < o.len) :
    Calls Tryz.prog 55 #[pv x.b, p.v'] w (LenR w ow i n pp x.b (o.dlen p)) := by
  have hb0 := below_new w (.cells p.cs.toArray 31)
  have HH := Lib.hid (h.low hl hb0)
  have HB := Lib.hid hb0
  have HW := Lib.hid (Blk.new w 31 p.cs)
  have HL := Lib.hid hl
  have HS : Hid (∀ w' : World, ObjAt w' ow i n pp x o → Below w.heap.size w w' → Calls Tryz.prog 84 #[pv x.b, p.v.v] w' (LenR w' ow i n pp x.b (o.length ix p.v))) := fun w' h' hb' => setLength_any h' (fun k hk => Nat.lt_of_lt_of_le (hl k hk) hb'.size) p.v hcls hsp hnd hn hps hlen hix
  clear h hl hcls hsp hnd hn hps hlen hix hb0
  obtain ⟨pk, ⟨pvk, pvn, pvs⟩, pw, pe, pf⟩ := p
  obtain ⟨d0, d1, d2, d3, d4, d5, d6⟩ := Blk.seven (p := ⟨pk, ⟨pvk, pvn, pvs⟩, pw, pe, pf⟩) HW.out
  simp only [Pr.v', Pr.cs, Vl.v] at HH HB HW HS d0 d1 d2 d3 d4 d5 d6 ⊢
  cases pe with
  | true =>
    have HR : Hid (o.dlen ⟨pk, ⟨pvk, pvn, pvs⟩, pw, true, pf⟩ = (o, 110)) := by
      show Ob.dlen o _ = _
      unfold Ob.dlen
      exact if_pos (by simp)
    go_enter Tryz.func55, Tryz.ntmps55
    go_wp2_with fail
    refine bodyPost_ret (results_tmp rfl _ _ _) rfl ?_
    rw [HR.out]
    exact ⟨rfl, ow, x, (Chg.self HH.out (fun k hk => Nat.lt_of_lt_of_le (HL.out k hk) HB.out.size)).low HB.out⟩
  | false =>
    cases pf with
    | true =>
      have HR : Hid (o.dlen ⟨pk, ⟨pvk, pvn, pvs⟩, pw, false, true⟩ = (o, 110)) := by
        show Ob.dlen o _ = _
        unfold Ob.dlen
        exact if_pos (by simp)
      go_enter Tryz.func55, Tryz.ntmps55
      go_wp2_with fail
      refine bodyPost_ret (results_tmp rfl _ _ _) rfl ?_
      rw [HR.out]
      exact ⟨rfl, ow, x, (Chg.self HH.out (fun k hk => Nat.lt_of_lt_of_le (HL.out k hk) HB.out.size)).low HB.out⟩
    | false =>
      cases hlw : o.lw with
      | true =>
        obtain ⟨⟨q1, q2⟩, HQ⟩ : ∃ q, Hid (o.length ix ⟨pvk, pvn, pvs⟩ = q) := ⟨_, rfl⟩
        have HR : Hid (o.dlen ⟨pk, ⟨pvk, pvn, pvs⟩, pw, false, false⟩ = (if q2 = 0 then { q1 with lw := pw } else q1, q2)) := by
          show Ob.dlen o _ = _
          unfold Ob.dlen
          dsimp only
          rw [HQ.out]
          exact if_neg (by simp [hlw])
        simp only [HQ.out] at HS
        go_enter Tryz.func55, Tryz.ntmps55
        go_wp2_with fail
        have HH3 := Lib.hid (HH.out.low (fun k hk => Nat.lt_of_lt_of_le (HL.out k hk) HB.out.size) (below_draw _))
        have HB3 : Hid (Below w.heap.size w (w.alloc (.cells #[.string pk, .int .i64 pvk, .int .i64 pvn, .string pvs, .bool pw, .bool false, .bool false] 31)).drew) := HB.out.drew
        have HW3 := Lib.hid (HW.out.fr (w' := (w.alloc (.cells #[.string pk, .int .i64 pvk, .int .i64 pvn, .string pvs, .bool pw, .bool false, .bool false] 31)).drew) rfl)
        have c15 : (w.alloc (.cells #[.string pk, .int .i64 pvk, .int .i64 pvn, .string pvs, .bool pw, .bool false, .bool false] 31)).drew.cell? ⟨x.b, 15, none⟩ = some (.bool false) := by have := HH3.out.ob.cell (k := 15) rfl; rw [hlw] at this; exact this
        have hs3 : (fun w' => w'.cell? ⟨x.b, 15, none⟩ = some (.bool false) ∧ w'.cell? ⟨w.heap.size, 4, none⟩ = some (.bool pw) ∧ w'.cell? ⟨w.heap.size, 1, none⟩ = some (.int .i64 pvk) ∧ w'.cell? ⟨w.heap.size, 2, none⟩ = some (.int .i64 pvn) ∧ w'.cell? ⟨w.heap.size, 3, none⟩ = some (.string pvs)) (w.alloc (.cells #[.string pk, .int .i64 pvk, .int .i64 pvn, .string pvs, .bool pw, .bool false, .bool false] 31)).drew := ⟨c15, HW3.out.cell (k := 4) rfl, HW3.out.cell (k := 1) rfl, HW3.out.cell (k := 2) rfl, HW3.out.cell (k := 3) rfl⟩
        clear HH HB HW c15 d0 d1 d2 d3 d4 d5 d6
        refine wp_region_held_drew (S := fun w' => w'.cell? ⟨x.b, 15, none⟩ = some (.bool false) ∧ w'.cell? ⟨w.heap.size, 4, none⟩ = some (.bool pw) ∧ w'.cell? ⟨w.heap.size, 1, none⟩ = some (.int .i64 pvk) ∧ w'.cell? ⟨w.heap.size, 2, none⟩ = some (.int .i64 pvn) ∧ w'.cell? ⟨w.heap.size, 3, none⟩ = some (.string pvs)) (by kernel_rfl) (hs3) (fun hHeld0 => ?_)
        generalize (w.alloc (.cells #[.string pk, .int .i64 pvk, .int .i64 pvn, .string pvs, .bool pw, .bool false, .bool false] 31)).drew = u3 at *
        (refine wpAnyH_take (i := 0) (v := ?_) rfl (by kernel_rfl) (by decide +kernel) (by decide +kernel) (fun _ _ _ h => h) (Or.inl ⟨by rfl, ?_⟩) (by assumption) ?_; rotate_left; (focus (intro w0 hSw; obtain ⟨e1, e2, e3, e4, e5⟩ := hSw; go_simp; (try with_reducible rfl); done)))
        try simp only [List.getElem_toArray, List.getElem_cons_zero, List.getElem_cons_succ, Act.put, List.setIfInBounds_toArray, List.set_cons_zero, List.set_cons_succ]
        (refine wpAnyH_take (i := 1) (v := ?_) rfl (by kernel_rfl) (by decide +kernel) (by decide +kernel) (fun _ _ _ h => h) (Or.inl ⟨by rfl, ?_⟩) (by assumption) ?_; rotate_left; (focus (intro w0 hSw; obtain ⟨e1, e2, e3, e4, e5⟩ := hSw; go_simp; (try with_reducible rfl); done)))
        try simp only [List.getElem_toArray, List.getElem_cons_zero, List.getElem_cons_succ, Act.put, List.setIfInBounds_toArray, List.set_cons_zero, List.set_cons_succ]
        (refine wpAnyH_take (i := 2) (v := ?_) rfl (by kernel_rfl) (by decide +kernel) (by decide +kernel) (fun _ _ _ h => h) (Or.inl ⟨by rfl, ?_⟩) (by assumption) ?_; rotate_left; (focus (intro w0 hSw; obtain ⟨e1, e2, e3, e4, e5⟩ := hSw; go_simp; (try with_reducible rfl); done)))
        try simp only [List.getElem_toArray, List.getElem_cons_zero, List.getElem_cons_succ, Act.put, List.setIfInBounds_toArray, List.set_cons_zero, List.set_cons_succ]
        (refine wpAnyH_take (i := 3) (v := ?_) rfl (by kernel_rfl) (by decide +kernel) (by decide +kernel) (fun _ _ _ h => h) (Or.inl ⟨by rfl, ?_⟩) (by assumption) ?_; rotate_left; (focus (intro w0 hSw; obtain ⟨e1, e2, e3, e4, e5⟩ := hSw; go_simp; (try with_reducible rfl); done)))
        try simp only [List.getElem_toArray, List.getElem_cons_zero, List.getElem_cons_succ, Act.put, List.setIfInBounds_toArray, List.set_cons_zero, List.set_cons_succ]
        (refine wpAnyH_take (i := 4) (v := ?_) rfl (by kernel_rfl) (by decide +kernel) (by decide +kernel) (fun _ _ _ h => h) (Or.inl ⟨by rfl, ?_⟩) (by assumption) ?_; rotate_left; (focus (intro w0 hSw; obtain ⟨e1, e2, e3, e4, e5⟩ := hSw; go_simp; (try with_reducible rfl); done)))
        try simp only [List.getElem_toArray, List.getElem_cons_zero, List.getElem_cons_succ, Act.put, List.setIfInBounds_toArray, List.set_cons_zero, List.set_cons_succ]
        (refine wpAnyH_take (i := 5) (v := undef) rfl (by kernel_rfl) (by decide +kernel) (by decide +kernel) (fun _ _ _ h => h) (Or.inr ⟨by rfl, rfl⟩) (by assumption) ?_)
        try simp only [List.getElem_toArray, List.getElem_cons_zero, List.getElem_cons_succ, Act.put, List.setIfInBounds_toArray, List.set_cons_zero, List.set_cons_succ]
        (refine wpAnyH_take (i := 6) (v := undef) rfl (by kernel_rfl) (by decide +kernel) (by decide +kernel) (fun _ _ _ h => h) (Or.inr ⟨by rfl, rfl⟩) (by assumption) ?_)
        try simp only [List.getElem_toArray, List.getElem_cons_zero, List.getElem_cons_succ, Act.put, List.setIfInBounds_toArray, List.set_cons_zero, List.set_cons_succ]
        (refine wpAnyH_take (i := 7) (v := undef) rfl (by kernel_rfl) (by decide +kernel) (by decide +kernel) (fun _ _ _ h => h) (Or.inr ⟨by rfl, rfl⟩) (by assumption) ?_)
        try simp only [List.getElem_toArray, List.getElem_cons_zero, List.getElem_cons_succ, Act.put, List.setIfInBounds_toArray, List.set_cons_zero, List.set_cons_succ]
        (refine wpAnyH_take (i := 8) (v := undef) rfl (by kernel_rfl) (by decide +kernel) (by decide +kernel) (fun _ _ _ h => h) (Or.inr ⟨by rfl, rfl⟩) (by assumption) ?_)
        try simp only [List.getElem_toArray, List.getElem_cons_zero, List.getElem_cons_succ, Act.put, List.setIfInBounds_toArray, List.set_cons_zero, List.set_cons_succ]
        (refine wpAnyH_take (i := 9) (v := undef) rfl (by kernel_rfl) (by decide +kernel) (by decide +kernel) (fun _ _ _ h => h) (Or.inr ⟨by rfl, rfl⟩) (by assumption) ?_)
        try simp only [List.getElem_toArray, List.getElem_cons_zero, List.getElem_cons_succ, Act.put, List.setIfInBounds_toArray, List.set_cons_zero, List.set_cons_succ]
        (refine wpAnyH_take (i := 10) (v := undef) rfl (by kernel_rfl) (by decide +kernel) (by decide +kernel) (fun _ _ _ h => h) (Or.inr ⟨by rfl, rfl⟩) (by assumption) ?_)
        try simp only [List.getElem_toArray, List.getElem_cons_zero, List.getElem_cons_succ, Act.put, List.setIfInBounds_toArray, List.set_cons_zero, List.set_cons_succ]
        (refine wpAnyH_take (i := 11) (v := undef) rfl (by kernel_rfl) (by decide +kernel) (by decide +kernel) (fun _ _ _ h => h) (Or.inr ⟨by rfl, rfl⟩) (by assumption) ?_)
        try simp only [List.getElem_toArray, List.getElem_cons_zero, List.getElem_cons_succ, Act.put, List.setIfInBounds_toArray, List.set_cons_zero, List.set_cons_succ]
        (refine wpAnyH_take (i := 12) (v := undef) rfl (by kernel_rfl) (by decide +kernel) (by decide +kernel) (fun _ _ _ h => h) (Or.inr ⟨by rfl, rfl⟩) (by assumption) ?_)
        try simp only [List.getElem_toArray, List.getElem_cons_zero, List.getElem_cons_succ, Act.put, List.setIfInBounds_toArray, List.set_cons_zero, List.set_cons_succ]
        (refine wpAnyH_take (i := 13) (v := undef) rfl (by kernel_rfl) (by decide +kernel) (by decide +kernel) (fun _ _ _ h => h) (Or.inr ⟨by rfl, rfl⟩) (by assumption) ?_)
        try simp only [List.getElem_toArray, List.getElem_cons_zero, List.getElem_cons_succ, Act.put, List.setIfInBounds_toArray, List.set_cons_zero, List.set_cons_succ]
        (refine wpAnyH_take (i := 14) (v := ?_) rfl (by kernel_rfl) (by decide +kernel) (by decide +kernel) (fun _ _ _ h => h) (Or.inl ⟨by rfl, ?_⟩) (by assumption) ?_; rotate_left; (focus (intro w0 hSw; obtain ⟨e1, e2, e3, e4, e5⟩ := hSw; go_simp; (try with_reducible rfl); done)))
        try simp only [List.getElem_toArray, List.getElem_cons_zero, List.getElem_cons_succ, Act.put, List.setIfInBounds_toArray, List.set_cons_zero, List.set_cons_succ]
        refine wpAnyH_done (by kernel_rfl) ?_ _
        clear hs3
        have HH := HH3
        have HB := HB3
        have HW := HW3
        clear HH3 HB3 HW3
        have HSL := Lib.hid (HS.out _ HH.out HB.out)
        clear HS
        obtain ⟨d0, d1, d2, d3, d4, d5, d6⟩ := Blk.seven (p := ⟨pk, ⟨pvk, pvn, pvs⟩, pw, false, false⟩) HW.out
        dsimp only at d0 d1 d2 d3 d4 d5 d6
        go_wp2_with fail
        refine HSL.out.mono ?_
        rintro e v9 ⟨rfl, ow9, x9, hc⟩
        have HC9 := Lib.hid hc
        have hpk : ow w.heap.size ≠ some (i + 1) := fun e => Nat.lt_irrefl _ (HL.out w.heap.size (by rw [e]; simp))
        have HW9 := Lib.hid (HW.out.fr (hc.fr.block _ ⟨HW.out.lt, hpk⟩))
        clear hc HSL HW d0 d1 d2 d3 d4 d5 d6 hpk
        have d4 : v9.cell? ⟨w.heap.size, 4, none⟩ = some (.bool pw) := HW9.out.cell (k := 4) rfl
        have c15 : v9.cell? ⟨x.b, 15, none⟩ = some (.bool (!q1.lw)) := by
          have := HC9.out.at'.ob.cell (k := 15) rfl
          rw [HC9.out.b] at this
          exact this
        have z15 : v9.frozen? ⟨x.b, 15, none⟩ = false := by
          have := HC9.out.at'.ob.fz 15
          rw [HC9.out.b] at this
          exact this
        go_wp2_with fail
        all_goals
          refine bodyPost_ret (results_tmp rfl _ _ _) rfl ?_
          rw [HR.out]
          by_cases h0 : q2 = 0
          · subst h0
            rw [if_pos rfl]
            first
            | exact ⟨rfl, ow9, x9, (HC9.out.put (j := 15) (u := .bool (!pw)) (o' := { q1 with lw := pw }) rfl rfl rfl).low HB.out⟩
            | (rename_i h; simp at h; done)
          · first
            | (rw [if_neg h0]; exact ⟨rfl, ow9, x9, HC9.out.low HB.out⟩)
            | (rename_i h; exact absurd (by simpa using h) h0)
      | false =>
        cases pw with
        | true =>
          have HR : Hid (o.dlen ⟨pk, ⟨pvk, pvn, pvs⟩, true, false, false⟩ = (o, 110)) := by
            show Ob.dlen o _ = _
            unfold Ob.dlen
            exact if_pos (by simp [hlw])
          go_enter Tryz.func55, Tryz.ntmps55
          go_wp2_with fail
          have HH3 := Lib.hid (HH.out.low (fun k hk => Nat.lt_of_lt_of_le (HL.out k hk) HB.out.size) (below_draw _))
          have HB3 : Hid (Below w.heap.size w (w.alloc (.cells #[.string pk, .int .i64 pvk, .int .i64 pvn, .string pvs, .bool true, .bool false, .bool false] 31)).drew) := HB.out.drew
          have HW3 := Lib.hid (HW.out.fr (w' := (w.alloc (.cells #[.string pk, .int .i64 pvk, .int .i64 pvn, .string pvs, .bool true, .bool false, .bool false] 31)).drew) rfl)
          have c15 : (w.alloc (.cells #[.string pk, .int .i64 pvk, .int .i64 pvn, .string pvs, .bool true, .bool false, .bool false] 31)).drew.cell? ⟨x.b, 15, none⟩ = some (.bool true) := by have := HH3.out.ob.cell (k := 15) rfl; rw [hlw] at this; exact this
          have hs3 : (fun w' => w'.cell? ⟨x.b, 15, none⟩ = some (.bool true) ∧ w'.cell? ⟨w.heap.size, 4, none⟩ = some (.bool true) ∧ w'.cell? ⟨w.heap.size, 1, none⟩ = some (.int .i64 pvk) ∧ w'.cell? ⟨w.heap.size, 2, none⟩ = some (.int .i64 pvn) ∧ w'.cell? ⟨w.heap.size, 3, none⟩ = some (.string pvs)) (w.alloc (.cells #[.string pk, .int .i64 pvk, .int .i64 pvn, .string pvs, .bool true, .bool false, .bool false] 31)).drew := ⟨c15, HW3.out.cell (k := 4) rfl, HW3.out.cell (k := 1) rfl, HW3.out.cell (k := 2) rfl, HW3.out.cell (k := 3) rfl⟩
          clear HH HB HW c15 d0 d1 d2 d3 d4 d5 d6
          refine wp_region_held_drew (S := fun w' => w'.cell? ⟨x.b, 15, none⟩ = some (.bool true) ∧ w'.cell? ⟨w.heap.size, 4, none⟩ = some (.bool true) ∧ w'.cell? ⟨w.heap.size, 1, none⟩ = some (.int .i64 pvk) ∧ w'.cell? ⟨w.heap.size, 2, none⟩ = some (.int .i64 pvn) ∧ w'.cell? ⟨w.heap.size, 3, none⟩ = some (.string pvs)) (by kernel_rfl) (hs3) (fun hHeld0 => ?_)
          generalize (w.alloc (.cells #[.string pk, .int .i64 pvk, .int .i64 pvn, .string pvs, .bool true, .bool false, .bool false] 31)).drew = u3 at *
          (refine wpAnyH_take (i := 0) (v := ?_) rfl (by kernel_rfl) (by decide +kernel) (by decide +kernel) (fun _ _ _ h => h) (Or.inl ⟨by rfl, ?_⟩) (by assumption) ?_; rotate_left; (focus (intro w0 hSw; obtain ⟨e1, e2, e3, e4, e5⟩ := hSw; go_simp; (try with_reducible rfl); done)))
          try simp only [List.getElem_toArray, List.getElem_cons_zero, List.getElem_cons_succ, Act.put, List.setIfInBounds_toArray, List.set_cons_zero, List.set_cons_succ]
          (refine wpAnyH_take (i := 1) (v := ?_) rfl (by kernel_rfl) (by decide +kernel) (by decide +kernel) (fun _ _ _ h => h) (Or.inl ⟨by rfl, ?_⟩) (by assumption) ?_; rotate_left; (focus (intro w0 hSw; obtain ⟨e1, e2, e3, e4, e5⟩ := hSw; go_simp; (try with_reducible rfl); done)))
          try simp only [List.getElem_toArray, List.getElem_cons_zero, List.getElem_cons_succ, Act.put, List.setIfInBounds_toArray, List.set_cons_zero, List.set_cons_succ]
          (refine wpAnyH_take (i := 2) (v := ?_) rfl (by kernel_rfl) (by decide +kernel) (by decide +kernel) (fun _ _ _ h => h) (Or.inl ⟨by rfl, ?_⟩) (by assumption) ?_; rotate_left; (focus (intro w0 hSw; obtain ⟨e1, e2, e3, e4, e5⟩ := hSw; go_simp; (try with_reducible rfl); done)))
          try simp only [List.getElem_toArray, List.getElem_cons_zero, List.getElem_cons_succ, Act.put, List.setIfInBounds_toArray, List.set_cons_zero, List.set_cons_succ]
          (refine wpAnyH_take (i := 3) (v := ?_) rfl (by kernel_rfl) (by decide +kernel) (by decide +kernel) (fun _ _ _ h => h) (Or.inl ⟨by rfl, ?_⟩) (by assumption) ?_; rotate_left; (focus (intro w0 hSw; obtain ⟨e1, e2, e3, e4, e5⟩ := hSw; go_simp; (try with_reducible rfl); done)))
          try simp only [List.getElem_toArray, List.getElem_cons_zero, List.getElem_cons_succ, Act.put, List.setIfInBounds_toArray, List.set_cons_zero, List.set_cons_succ]
          (refine wpAnyH_take (i := 4) (v := ?_) rfl (by kernel_rfl) (by decide +kernel) (by decide +kernel) (fun _ _ _ h => h) (Or.inl ⟨by rfl, ?_⟩) (by assumption) ?_; rotate_left; (focus (intro w0 hSw; obtain ⟨e1, e2, e3, e4, e5⟩ := hSw; go_simp; (try with_reducible rfl); done)))
          try simp only [List.getElem_toArray, List.getElem_cons_zero, List.getElem_cons_succ, Act.put, List.setIfInBounds_toArray, List.set_cons_zero, List.set_cons_succ]
          (refine wpAnyH_take (i := 5) (v := ?_) rfl (by kernel_rfl) (by decide +kernel) (by decide +kernel) (fun _ _ _ h => h) (Or.inl ⟨by rfl, ?_⟩) (by assumption) ?_; rotate_left; (focus (intro w0 hSw; obtain ⟨e1, e2, e3, e4, e5⟩ := hSw; go_simp; (try with_reducible rfl); done)))
          try simp only [List.getElem_toArray, List.getElem_cons_zero, List.getElem_cons_succ, Act.put, List.setIfInBounds_toArray, List.set_cons_zero, List.set_cons_succ]
          (refine wpAnyH_take (i := 6) (v := ?_) rfl (by kernel_rfl) (by decide +kernel) (by decide +kernel) (fun _ _ _ h => h) (Or.inl ⟨by rfl, ?_⟩) (by assumption) ?_; rotate_left; (focus (intro w0 hSw; obtain ⟨e1, e2, e3, e4, e5⟩ := hSw; go_simp; (try with_reducible rfl); done)))
          try simp only [List.getElem_toArray, List.getElem_cons_zero, List.getElem_cons_succ, Act.put, List.setIfInBounds_toArray, List.set_cons_zero, List.set_cons_succ]
          (refine wpAnyH_take (i := 7) (v := ?_) rfl (by kernel_rfl) (by decide +kernel) (by decide +kernel) (fun _ _ _ h => h) (Or.inl ⟨by rfl, ?_⟩) (by assumption) ?_; rotate_left; (focus (intro w0 hSw; obtain ⟨e1, e2, e3, e4, e5⟩ := hSw; go_simp; (try with_reducible rfl); done)))
          try simp only [List.getElem_toArray, List.getElem_cons_zero, List.getElem_cons_succ, Act.put, List.setIfInBounds_toArray, List.set_cons_zero, List.set_cons_succ]
          (refine wpAnyH_take (i := 8) (v := undef) rfl (by kernel_rfl) (by decide +kernel) (by decide +kernel) (fun _ _ _ h => h) (Or.inr ⟨by rfl, rfl⟩) (by assumption) ?_)
          try simp only [List.getElem_toArray, List.getElem_cons_zero, List.getElem_cons_succ, Act.put, List.setIfInBounds_toArray, List.set_cons_zero, List.set_cons_succ]
          (refine wpAnyH_take (i := 9) (v := undef) rfl (by kernel_rfl) (by decide +kernel) (by decide +kernel) (fun _ _ _ h => h) (Or.inr ⟨by rfl, rfl⟩) (by assumption) ?_)
          try simp only [List.getElem_toArray, List.getElem_cons_zero, List.getElem_cons_succ, Act.put, List.setIfInBounds_toArray, List.set_cons_zero, List.set_cons_succ]
          (refine wpAnyH_take (i := 10) (v := undef) rfl (by kernel_rfl) (by decide +kernel) (by decide +kernel) (fun _ _ _ h => h) (Or.inr ⟨by rfl, rfl⟩) (by assumption) ?_)
          try simp only [List.getElem_toArray, List.getElem_cons_zero, List.getElem_cons_succ, Act.put, List.setIfInBounds_toArray, List.set_cons_zero, List.set_cons_succ]
          (refine wpAnyH_take (i := 11) (v := undef) rfl (by kernel_rfl) (by decide +kernel) (by decide +kernel) (fun _ _ _ h => h) (Or.inr ⟨by rfl, rfl⟩) (by assumption) ?_)
          try simp only [List.getElem_toArray, List.getElem_cons_zero, List.getElem_cons_succ, Act.put, List.setIfInBounds_toArray, List.set_cons_zero, List.set_cons_succ]
          (refine wpAnyH_take (i := 12) (v := undef) rfl (by kernel_rfl) (by decide +kernel) (by decide +kernel) (fun _ _ _ h => h) (Or.inr ⟨by rfl, rfl⟩) (by assumption) ?_)
          try simp only [List.getElem_toArray, List.getElem_cons_zero, List.getElem_cons_succ, Act.put, List.setIfInBounds_toArray, List.set_cons_zero, List.set_cons_succ]
          (refine wpAnyH_take (i := 13) (v := ?_) rfl (by kernel_rfl) (by decide +kernel) (by decide +kernel) (fun _ _ _ h => h) (Or.inl ⟨by rfl, ?_⟩) (by assumption) ?_; rotate_left; (focus (intro w0 hSw; obtain ⟨e1, e2, e3, e4, e5⟩ := hSw; go_simp; (try with_reducible rfl); done)))
          try simp only [List.getElem_toArray, List.getElem_cons_zero, List.getElem_cons_succ, Act.put, List.setIfInBounds_toArray, List.set_cons_zero, List.set_cons_succ]
          (refine wpAnyH_take (i := 14) (v := ?_) rfl (by kernel_rfl) (by decide +kernel) (by decide +kernel) (fun _ _ _ h => h) (Or.inl ⟨by rfl, ?_⟩) (by assumption) ?_; rotate_left; (focus (intro w0 hSw; obtain ⟨e1, e2, e3, e4, e5⟩ := hSw; go_simp; (try with_reducible rfl); done)))
          try simp only [List.getElem_toArray, List.getElem_cons_zero, List.getElem_cons_succ, Act.put, List.setIfInBounds_toArray, List.set_cons_zero, List.set_cons_succ]
          refine wpAnyH_done (by kernel_rfl) ?_ _
          clear hs3
          have HH := HH3
          have HB := HB3
          have HW := HW3
          clear HH3 HB3 HW3
          go_wp2_with fail
          refine bodyPost_ret (results_tmp rfl _ _ _) rfl ?_
          rw [HR.out]
          exact ⟨rfl, ow, x, (Chg.self HH.out (fun k hk => Nat.lt_of_lt_of_le (HL.out k hk) HB.out.size)).low HB.out⟩
        | false =>
          by_cases hv : (⟨pvk, pvn, pvs⟩ : Vl) = num o.len
          · unfold num at hv
            injection hv with h1 h2 h3
            subst h1 h2 h3
            obtain ⟨⟨q1, q2⟩, HQ⟩ : ∃ q, Hid (o.length ix ⟨3, (o.len : Int), nil⟩ = q) := ⟨_, rfl⟩
            have HR : Hid (o.dlen ⟨pk, ⟨3, (o.len : Int), nil⟩, false, false, false⟩ = (if q2 = 0 then { q1 with lw := false } else q1, q2)) := by
              show Ob.dlen o _ = _
              unfold Ob.dlen
              dsimp only
              rw [HQ.out]
              exact if_neg (by simp [hlw, num])
            simp only [HQ.out] at HS
            go_enter Tryz.func55, Tryz.ntmps55
            go_wp2_with fail
            have HH3 := Lib.hid (HH.out.low (fun k hk => Nat.lt_of_lt_of_le (HL.out k hk) HB.out.size) (below_draw _))
            have HB3 : Hid (Below w.heap.size w (w.alloc (.cells #[.string pk, .int .i64 3, .int .i64 (o.len : Int), .string nil, .bool false, .bool false, .bool false] 31)).drew) := HB.out.drew
            have HW3 := Lib.hid (HW.out.fr (w' := (w.alloc (.cells #[.string pk, .int .i64 3, .int .i64 (o.len : Int), .string nil, .bool false, .bool false, .bool false] 31)).drew) rfl)
            have c15 : (w.alloc (.cells #[.string pk, .int .i64 3, .int .i64 (o.len : Int), .string nil, .bool false, .bool false, .bool false] 31)).drew.cell? ⟨x.b, 15, none⟩ = some (.bool true) := by have := HH3.out.ob.cell (k := 15) rfl; rw [hlw] at this; exact this
            have hs3 : (fun w' => w'.cell? ⟨x.b, 15, none⟩ = some (.bool true) ∧ w'.cell? ⟨w.heap.size, 4, none⟩ = some (.bool false) ∧ w'.cell? ⟨w.heap.size, 1, none⟩ = some (.int .i64 3) ∧ w'.cell? ⟨w.heap.size, 2, none⟩ = some (.int .i64 (o.len : Int)) ∧ w'.cell? ⟨w.heap.size, 3, none⟩ = some (.string nil)) (w.alloc (.cells #[.string pk, .int .i64 3, .int .i64 (o.len : Int), .string nil, .bool false, .bool false, .bool false] 31)).drew := ⟨c15, HW3.out.cell (k := 4) rfl, HW3.out.cell (k := 1) rfl, HW3.out.cell (k := 2) rfl, HW3.out.cell (k := 3) rfl⟩
            clear HH HB HW c15 d0 d1 d2 d3 d4 d5 d6
            refine wp_region_held_drew (S := fun w' => w'.cell? ⟨x.b, 15, none⟩ = some (.bool true) ∧ w'.cell? ⟨w.heap.size, 4, none⟩ = some (.bool false) ∧ w'.cell? ⟨w.heap.size, 1, none⟩ = some (.int .i64 3) ∧ w'.cell? ⟨w.heap.size, 2, none⟩ = some (.int .i64 (o.len : Int)) ∧ w'.cell? ⟨w.heap.size, 3, none⟩ = some (.string nil)) (by kernel_rfl) (hs3) (fun hHeld0 => ?_)
            generalize (w.alloc (.cells #[.string pk, .int .i64 3, .int .i64 (o.len : Int), .string nil, .bool false, .bool false, .bool false] 31)).drew = u3 at *
            (refine wpAnyH_take (i := 0) (v := ?_) rfl (by kernel_rfl) (by decide +kernel) (by decide +kernel) (fun _ _ _ h => h) (Or.inl ⟨by rfl, ?_⟩) (by assumption) ?_; rotate_left; (focus (intro w0 hSw; obtain ⟨e1, e2, e3, e4, e5⟩ := hSw; go_simp; (try with_reducible rfl); done)))
            try simp only [List.getElem_toArray, List.getElem_cons_zero, List.getElem_cons_succ, Act.put, List.setIfInBounds_toArray, List.set_cons_zero, List.set_cons_succ]
            (refine wpAnyH_take (i := 1) (v := ?_) rfl (by kernel_rfl) (by decide +kernel) (by decide +kernel) (fun _ _ _ h => h) (Or.inl ⟨by rfl, ?_⟩) (by assumption) ?_; rotate_left; (focus (intro w0 hSw; obtain ⟨e1, e2, e3, e4, e5⟩ := hSw; go_simp; (try with_reducible rfl); done)))
            try simp only [List.getElem_toArray, List.getElem_cons_zero, List.getElem_cons_succ, Act.put, List.setIfInBounds_toArray, List.set_cons_zero, List.set_cons_succ]
            (refine wpAnyH_take (i := 2) (v := ?_) rfl (by kernel_rfl) (by decide +kernel) (by decide +kernel) (fun _ _ _ h => h) (Or.inl ⟨by rfl, ?_⟩) (by assumption) ?_; rotate_left; (focus (intro w0 hSw; obtain ⟨e1, e2, e3, e4, e5⟩ := hSw; go_simp; (try with_reducible rfl); done)))
            try simp only [List.getElem_toArray, List.getElem_cons_zero, List.getElem_cons_succ, Act.put, List.setIfInBounds_toArray, List.set_cons_zero, List.set_cons_succ]
            (refine wpAnyH_take (i := 3) (v := ?_) rfl (by kernel_rfl) (by decide +kernel) (by decide +kernel) (fun _ _ _ h => h) (Or.inl ⟨by rfl, ?_⟩) (by assumption) ?_; rotate_left; (focus (intro w0 hSw; obtain ⟨e1, e2, e3, e4, e5⟩ := hSw; go_simp; (try with_reducible rfl); done)))
            try simp only [List.getElem_toArray, List.getElem_cons_zero, List.getElem_cons_succ, Act.put, List.setIfInBounds_toArray, List.set_cons_zero, List.set_cons_succ]
            (refine wpAnyH_take (i := 4) (v := ?_) rfl (by kernel_rfl) (by decide +kernel) (by decide +kernel) (fun _ _ _ h => h) (Or.inl ⟨by rfl, ?_⟩) (by assumption) ?_; rotate_left; (focus (intro w0 hSw; obtain ⟨e1, e2, e3, e4, e5⟩ := hSw; go_simp; (try with_reducible rfl); done)))
            try simp only [List.getElem_toArray, List.getElem_cons_zero, List.getElem_cons_succ, Act.put, List.setIfInBounds_toArray, List.set_cons_zero, List.set_cons_succ]
            (refine wpAnyH_take (i := 5) (v := ?_) rfl (by kernel_rfl) (by decide +kernel) (by decide +kernel) (fun _ _ _ h => h) (Or.inl ⟨by rfl, ?_⟩) (by assumption) ?_; rotate_left; (focus (intro w0 hSw; obtain ⟨e1, e2, e3, e4, e5⟩ := hSw; go_simp; (try with_reducible rfl); done)))
            try simp only [List.getElem_toArray, List.getElem_cons_zero, List.getElem_cons_succ, Act.put, List.setIfInBounds_toArray, List.set_cons_zero, List.set_cons_succ]
            (refine wpAnyH_take (i := 6) (v := ?_) rfl (by kernel_rfl) (by decide +kernel) (by decide +kernel) (fun _ _ _ h => h) (Or.inl ⟨by rfl, ?_⟩) (by assumption) ?_; rotate_left; (focus (intro w0 hSw; obtain ⟨e1, e2, e3, e4, e5⟩ := hSw; go_simp; (try with_reducible rfl); done)))
            try simp only [List.getElem_toArray, List.getElem_cons_zero, List.getElem_cons_succ, Act.put, List.setIfInBounds_toArray, List.set_cons_zero, List.set_cons_succ]
            (refine wpAnyH_take (i := 7) (v := ?_) rfl (by kernel_rfl) (by decide +kernel) (by decide +kernel) (fun _ _ _ h => h) (Or.inl ⟨by rfl, ?_⟩) (by assumption) ?_; rotate_left; (focus (intro w0 hSw; obtain ⟨e1, e2, e3, e4, e5⟩ := hSw; go_simp; (try with_reducible rfl); done)))
            try simp only [List.getElem_toArray, List.getElem_cons_zero, List.getElem_cons_succ, Act.put, List.setIfInBounds_toArray, List.set_cons_zero, List.set_cons_succ]
            (refine wpAnyH_take (i := 8) (v := ?_) rfl (by kernel_rfl) (by decide +kernel) (by decide +kernel) (fun _ _ _ h => h) (Or.inl ⟨by rfl, ?_⟩) (by assumption) ?_; rotate_left; (focus (intro w0 hSw; obtain ⟨e1, e2, e3, e4, e5⟩ := hSw; go_simp; (try with_reducible rfl); done)))
            try simp only [List.getElem_toArray, List.getElem_cons_zero, List.getElem_cons_succ, Act.put, List.setIfInBounds_toArray, List.set_cons_zero, List.set_cons_succ]
            (refine wpAnyH_take (i := 9) (v := ?_) rfl (by kernel_rfl) (by decide +kernel) (by decide +kernel) (fun _ _ _ h => h) (Or.inl ⟨by rfl, ?_⟩) (by assumption) ?_; rotate_left; (focus (intro w0 hSw; obtain ⟨e1, e2, e3, e4, e5⟩ := hSw; go_simp; (try with_reducible rfl); done)))
            try simp only [List.getElem_toArray, List.getElem_cons_zero, List.getElem_cons_succ, Act.put, List.setIfInBounds_toArray, List.set_cons_zero, List.set_cons_succ]
            (refine wpAnyH_take (i := 10) (v := ?_) rfl (by kernel_rfl) (by decide +kernel) (by decide +kernel) (fun _ _ _ h => h) (Or.inl ⟨by rfl, ?_⟩) (by assumption) ?_; rotate_left; (focus (intro w0 hSw; obtain ⟨e1, e2, e3, e4, e5⟩ := hSw; go_simp; (try with_reducible rfl); done)))
            try simp only [List.getElem_toArray, List.getElem_cons_zero, List.getElem_cons_succ, Act.put, List.setIfInBounds_toArray, List.set_cons_zero, List.set_cons_succ]
            refine wpAnyH_ready (rs := [11]) (by decide +kernel) (by simp) (AllReadyH.cons rfl (fun K hK => ?_) AllReadyH.nil)
            have hC := lengthValue_any HH3.out
            simp only [num, Vl.v] at hC
            go_simp
            refine hC.mono ?_
            rintro e u4 ⟨rfl, hb⟩
            have HH4 := Lib.hid (HH3.out.low (fun k hk => Nat.lt_of_lt_of_le (HL.out k hk) HB3.out.size) hb)
            have HW4 := Lib.hid (HW3.out.low hb)
            have HB4 := Lib.hid (HB3.out.trans (hb.mono HB3.out.size))
            have hs4 : (fun w' => w'.cell? ⟨x.b, 15, none⟩ = some (.bool true) ∧ w'.cell? ⟨w.heap.size, 4, none⟩ = some (.bool false) ∧ w'.cell? ⟨w.heap.size, 1, none⟩ = some (.int .i64 3) ∧ w'.cell? ⟨w.heap.size, 2, none⟩ = some (.int .i64 (o.len : Int)) ∧ w'.cell? ⟨w.heap.size, 3, none⟩ = some (.string nil)) u4 := ⟨by have := HH4.out.ob.cell (k := 15) rfl; rw [hlw] at this; exact this, HW4.out.cell (k := 4) rfl, HW4.out.cell (k := 1) rfl, HW4.out.cell (k := 2) rfl, HW4.out.cell (k := 3) rfl⟩
            clear HH3 HW3 HB3 hC
            refine hK.out _ _ hs4 (fun hHeld1 => ?_)
            clear hK K hHeld0 
            try simp only [List.getElem_toArray, List.getElem_cons_zero, List.getElem_cons_succ, Act.put, List.setIfInBounds_toArray, List.set_cons_zero, List.set_cons_succ]
            have HH3 := HH4
            have HB3 := HB4
            have HW3 := HW4
            clear HH4 HB4 HW4
            (refine wpAnyH_take (i := 12) (v := ?_) rfl (by kernel_rfl) (by decide +kernel) (by decide +kernel) (fun _ _ _ h => h) (Or.inl ⟨by rfl, ?_⟩) (by assumption) ?_; rotate_left; (focus (intro w0 hSw; obtain ⟨e1, e2, e3, e4, e5⟩ := hSw; go_simp; (try with_reducible rfl); done)))
            try simp only [List.getElem_toArray, List.getElem_cons_zero, List.getElem_cons_succ, Act.put, List.setIfInBounds_toArray, List.set_cons_zero, List.set_cons_succ]
            (refine wpAnyH_take (i := 13) (v := ?_) rfl (by kernel_rfl) (by decide +kernel) (by decide +kernel) (fun _ _ _ h => h) (Or.inl ⟨by rfl, ?_⟩) (by assumption) ?_; rotate_left; (focus (intro w0 hSw; obtain ⟨e1, e2, e3, e4, e5⟩ := hSw; go_simp; (try with_reducible rfl); done)))
            try simp only [List.getElem_toArray, List.getElem_cons_zero, List.getElem_cons_succ, Act.put, List.setIfInBounds_toArray, List.set_cons_zero, List.set_cons_succ]
            (refine wpAnyH_take (i := 14) (v := ?_) rfl (by kernel_rfl) (by decide +kernel) (by decide +kernel) (fun _ _ _ h => h) (Or.inl ⟨by rfl, ?_⟩) (by assumption) ?_; rotate_left; (focus (intro w0 hSw; obtain ⟨e1, e2, e3, e4, e5⟩ := hSw; go_simp; (try with_reducible rfl); done)))
            try simp only [List.getElem_toArray, List.getElem_cons_zero, List.getElem_cons_succ, Act.put, List.setIfInBounds_toArray, List.set_cons_zero, List.set_cons_succ]
            refine wpAnyH_done (by kernel_rfl) ?_ _
            clear hs3
            have HH := HH3
            have HB := HB3
            have HW := HW3
            clear HH3 HB3 HW3
            have HSL := Lib.hid (HS.out _ HH.out HB.out)
            clear HS
            obtain ⟨d0, d1, d2, d3, d4, d5, d6⟩ := Blk.seven (p := ⟨pk, ⟨3, (o.len : Int), nil⟩, false, false, false⟩) HW.out
            dsimp only at d0 d1 d2 d3 d4 d5 d6
            go_wp2_with fail
            refine HSL.out.mono ?_
            rintro e v9 ⟨rfl, ow9, x9, hc⟩
            have HC9 := Lib.hid hc
            have hpk : ow w.heap.size ≠ some (i + 1) := fun e => Nat.lt_irrefl _ (HL.out w.heap.size (by rw [e]; simp))
            have HW9 := Lib.hid (HW.out.fr (hc.fr.block _ ⟨HW.out.lt, hpk⟩))
            clear hc HSL HW d0 d1 d2 d3 d4 d5 d6 hpk
            have d4 : v9.cell? ⟨w.heap.size, 4, none⟩ = some (.bool false) := HW9.out.cell (k := 4) rfl
            have c15 : v9.cell? ⟨x.b, 15, none⟩ = some (.bool (!q1.lw)) := by
              have := HC9.out.at'.ob.cell (k := 15) rfl
              rw [HC9.out.b] at this
              exact this
            have z15 : v9.frozen? ⟨x.b, 15, none⟩ = false := by
              have := HC9.out.at'.ob.fz 15
              rw [HC9.out.b] at this
              exact this
            go_wp2_with fail
            all_goals
              refine bodyPost_ret (results_tmp rfl _ _ _) rfl ?_
              rw [HR.out]
              by_cases h0 : q2 = 0
              · subst h0
                rw [if_pos rfl]
                first
                | exact ⟨rfl, ow9, x9, (HC9.out.put (j := 15) (u := .bool (!false)) (o' := { q1 with lw := false }) rfl rfl rfl).low HB.out⟩
                | (rename_i h; simp at h; done)
              · first
                | (rw [if_neg h0]; exact ⟨rfl, ow9, x9, HC9.out.low HB.out⟩)
                | (rename_i h; exact absurd (by simpa using h) h0)
          · have HR : Hid (o.dlen ⟨pk, ⟨pvk, pvn, pvs⟩, false, false, false⟩ = (o, 110)) := by
              show Ob.dlen o _ = _
              unfold Ob.dlen
              exact if_pos (by simp [hlw, hv])
            have ev : ¬ (pvk = 3 ∧ pvn = (o.len : Int) ∧ pvs.toList = nil.toList) := fun ⟨h1, h2, h3⟩ => hv (by rw [h1, h2, toList_inj h3]; rfl)
            go_enter Tryz.func55, Tryz.ntmps55
            go_wp2_with fail
            have HH3 := Lib.hid (HH.out.low (fun k hk => Nat.lt_of_lt_of_le (HL.out k hk) HB.out.size) (below_draw _))
            have HB3 : Hid (Below w.heap.size w (w.alloc (.cells #[.string pk, .int .i64 pvk, .int .i64 pvn, .string pvs, .bool false, .bool false, .bool false] 31)).drew) := HB.out.drew
            have HW3 := Lib.hid (HW.out.fr (w' := (w.alloc (.cells #[.string pk, .int .i64 pvk, .int .i64 pvn, .string pvs, .bool false, .bool false, .bool false] 31)).drew) rfl)
            have c15 : (w.alloc (.cells #[.string pk, .int .i64 pvk, .int .i64 pvn, .string pvs, .bool false, .bool false, .bool false] 31)).drew.cell? ⟨x.b, 15, none⟩ = some (.bool true) := by have := HH3.out.ob.cell (k := 15) rfl; rw [hlw] at this; exact this
            have hs3 : (fun w' => w'.cell? ⟨x.b, 15, none⟩ = some (.bool true) ∧ w'.cell? ⟨w.heap.size, 4, none⟩ = some (.bool false) ∧ w'.cell? ⟨w.heap.size, 1, none⟩ = some (.int .i64 pvk) ∧ w'.cell? ⟨w.heap.size, 2, none⟩ = some (.int .i64 pvn) ∧ w'.cell? ⟨w.heap.size, 3, none⟩ = some (.string pvs)) (w.alloc (.cells #[.string pk, .int .i64 pvk, .int .i64 pvn, .string pvs, .bool false, .bool false, .bool false] 31)).drew := ⟨c15, HW3.out.cell (k := 4) rfl, HW3.out.cell (k := 1) rfl, HW3.out.cell (k := 2) rfl, HW3.out.cell (k := 3) rfl⟩
            clear HH HB HW c15 d0 d1 d2 d3 d4 d5 d6
            refine wp_region_held_drew (S := fun w' => w'.cell? ⟨x.b, 15, none⟩ = some (.bool true) ∧ w'.cell? ⟨w.heap.size, 4, none⟩ = some (.bool false) ∧ w'.cell? ⟨w.heap.size, 1, none⟩ = some (.int .i64 pvk) ∧ w'.cell? ⟨w.heap.size, 2, none⟩ = some (.int .i64 pvn) ∧ w'.cell? ⟨w.heap.size, 3, none⟩ = some (.string pvs)) (by kernel_rfl) (hs3) (fun hHeld0 => ?_)
            generalize (w.alloc (.cells #[.string pk, .int .i64 pvk, .int .i64 pvn, .string pvs, .bool false, .bool false, .bool false] 31)).drew = u3 at *
            (refine wpAnyH_take (i := 0) (v := ?_) rfl (by kernel_rfl) (by decide +kernel) (by decide +kernel) (fun _ _ _ h => h) (Or.inl ⟨by rfl, ?_⟩) (by assumption) ?_; rotate_left; (focus (intro w0 hSw; obtain ⟨e1, e2, e3, e4, e5⟩ := hSw; go_simp; (try with_reducible rfl); done)))
            try simp only [List.getElem_toArray, List.getElem_cons_zero, List.getElem_cons_succ, Act.put, List.setIfInBounds_toArray, List.set_cons_zero, List.set_cons_succ]
            (refine wpAnyH_take (i := 1) (v := ?_) rfl (by kernel_rfl) (by decide +kernel) (by decide +kernel) (fun _ _ _ h => h) (Or.inl ⟨by rfl, ?_⟩) (by assumption) ?_; rotate_left; (focus (intro w0 hSw; obtain ⟨e1, e2, e3, e4, e5⟩ := hSw; go_simp; (try with_reducible rfl); done)))
            try simp only [List.getElem_toArray, List.getElem_cons_zero, List.getElem_cons_succ, Act.put, List.setIfInBounds_toArray, List.set_cons_zero, List.set_cons_succ]
            (refine wpAnyH_take (i := 2) (v := ?_) rfl (by kernel_rfl) (by decide +kernel) (by decide +kernel) (fun _ _ _ h => h) (Or.inl ⟨by rfl, ?_⟩) (by assumption) ?_; rotate_left; (focus (intro w0 hSw; obtain ⟨e1, e2, e3, e4, e5⟩ := hSw; go_simp; (try with_reducible rfl); done)))
            try simp only [List.getElem_toArray, List.getElem_cons_zero, List.getElem_cons_succ, Act.put, List.setIfInBounds_toArray, List.set_cons_zero, List.set_cons_succ]
            (refine wpAnyH_take (i := 3) (v := ?_) rfl (by kernel_rfl) (by decide +kernel) (by decide +kernel) (fun _ _ _ h => h) (Or.inl ⟨by rfl, ?_⟩) (by assumption) ?_; rotate_left; (focus (intro w0 hSw; obtain ⟨e1, e2, e3, e4, e5⟩ := hSw; go_simp; (try with_reducible rfl); done)))
            try simp only [List.getElem_toArray, List.getElem_cons_zero, List.getElem_cons_succ, Act.put, List.setIfInBounds_toArray, List.set_cons_zero, List.set_cons_succ]
            (refine wpAnyH_take (i := 4) (v := ?_) rfl (by kernel_rfl) (by decide +kernel) (by decide +kernel) (fun _ _ _ h => h) (Or.inl ⟨by rfl, ?_⟩) (by assumption) ?_; rotate_left; (focus (intro w0 hSw; obtain ⟨e1, e2, e3, e4, e5⟩ := hSw; go_simp; (try with_reducible rfl); done)))
            try simp only [List.getElem_toArray, List.getElem_cons_zero, List.getElem_cons_succ, Act.put, List.setIfInBounds_toArray, List.set_cons_zero, List.set_cons_succ]
            (refine wpAnyH_take (i := 5) (v := ?_) rfl (by kernel_rfl) (by decide +kernel) (by decide +kernel) (fun _ _ _ h => h) (Or.inl ⟨by rfl, ?_⟩) (by assumption) ?_; rotate_left; (focus (intro w0 hSw; obtain ⟨e1, e2, e3, e4, e5⟩ := hSw; go_simp; (try with_reducible rfl); done)))
            try simp only [List.getElem_toArray, List.getElem_cons_zero, List.getElem_cons_succ, Act.put, List.setIfInBounds_toArray, List.set_cons_zero, List.set_cons_succ]
            (refine wpAnyH_take (i := 6) (v := ?_) rfl (by kernel_rfl) (by decide +kernel) (by decide +kernel) (fun _ _ _ h => h) (Or.inl ⟨by rfl, ?_⟩) (by assumption) ?_; rotate_left; (focus (intro w0 hSw; obtain ⟨e1, e2, e3, e4, e5⟩ := hSw; go_simp; (try with_reducible rfl); done)))
            try simp only [List.getElem_toArray, List.getElem_cons_zero, List.getElem_cons_succ, Act.put, List.setIfInBounds_toArray, List.set_cons_zero, List.set_cons_succ]
            (refine wpAnyH_take (i := 7) (v := ?_) rfl (by kernel_rfl) (by decide +kernel) (by decide +kernel) (fun _ _ _ h => h) (Or.inl ⟨by rfl, ?_⟩) (by assumption) ?_; rotate_left; (focus (intro w0 hSw; obtain ⟨e1, e2, e3, e4, e5⟩ := hSw; go_simp; (try with_reducible rfl); done)))
            try simp only [List.getElem_toArray, List.getElem_cons_zero, List.getElem_cons_succ, Act.put, List.setIfInBounds_toArray, List.set_cons_zero, List.set_cons_succ]
            (refine wpAnyH_take (i := 8) (v := ?_) rfl (by kernel_rfl) (by decide +kernel) (by decide +kernel) (fun _ _ _ h => h) (Or.inl ⟨by rfl, ?_⟩) (by assumption) ?_; rotate_left; (focus (intro w0 hSw; obtain ⟨e1, e2, e3, e4, e5⟩ := hSw; go_simp; (try with_reducible rfl); done)))
            try simp only [List.getElem_toArray, List.getElem_cons_zero, List.getElem_cons_succ, Act.put, List.setIfInBounds_toArray, List.set_cons_zero, List.set_cons_succ]
            (refine wpAnyH_take (i := 9) (v := ?_) rfl (by kernel_rfl) (by decide +kernel) (by decide +kernel) (fun _ _ _ h => h) (Or.inl ⟨by rfl, ?_⟩) (by assumption) ?_; rotate_left; (focus (intro w0 hSw; obtain ⟨e1, e2, e3, e4, e5⟩ := hSw; go_simp; (try with_reducible rfl); done)))
            try simp only [List.getElem_toArray, List.getElem_cons_zero, List.getElem_cons_succ, Act.put, List.setIfInBounds_toArray, List.set_cons_zero, List.set_cons_succ]
            (refine wpAnyH_take (i := 10) (v := ?_) rfl (by kernel_rfl) (by decide +kernel) (by decide +kernel) (fun _ _ _ h => h) (Or.inl ⟨by rfl, ?_⟩) (by assumption) ?_; rotate_left; (focus (intro w0 hSw; obtain ⟨e1, e2, e3, e4, e5⟩ := hSw; go_simp; (try with_reducible rfl); done)))
            try simp only [List.getElem_toArray, List.getElem_cons_zero, List.getElem_cons_succ, Act.put, List.setIfInBounds_toArray, List.set_cons_zero, List.set_cons_succ]
            refine wpAnyH_ready (rs := [11]) (by decide +kernel) (by simp) (AllReadyH.cons rfl (fun K hK => ?_) AllReadyH.nil)
            have hC := lengthValue_any HH3.out
            simp only [num, Vl.v] at hC
            go_simp
            refine hC.mono ?_
            rintro e u4 ⟨rfl, hb⟩
            have HH4 := Lib.hid (HH3.out.low (fun k hk => Nat.lt_of_lt_of_le (HL.out k hk) HB3.out.size) hb)
            have HW4 := Lib.hid (HW3.out.low hb)
            have HB4 := Lib.hid (HB3.out.trans (hb.mono HB3.out.size))
            have hs4 : (fun w' => w'.cell? ⟨x.b, 15, none⟩ = some (.bool true) ∧ w'.cell? ⟨w.heap.size, 4, none⟩ = some (.bool false) ∧ w'.cell? ⟨w.heap.size, 1, none⟩ = some (.int .i64 pvk) ∧ w'.cell? ⟨w.heap.size, 2, none⟩ = some (.int .i64 pvn) ∧ w'.cell? ⟨w.heap.size, 3, none⟩ = some (.string pvs)) u4 := ⟨by have := HH4.out.ob.cell (k := 15) rfl; rw [hlw] at this; exact this, HW4.out.cell (k := 4) rfl, HW4.out.cell (k := 1) rfl, HW4.out.cell (k := 2) rfl, HW4.out.cell (k := 3) rfl⟩
            clear HH3 HW3 HB3 hC
            refine hK.out _ _ hs4 (fun hHeld1 => ?_)
            clear hK K hHeld0 
            try simp only [List.getElem_toArray, List.getElem_cons_zero, List.getElem_cons_succ, Act.put, List.setIfInBounds_toArray, List.set_cons_zero, List.set_cons_succ]
            have HH3 := HH4
            have HB3 := HB4
            have HW3 := HW4
            clear HH4 HB4 HW4
            refine wpAnyH_take (i := 12) (v := .bool true) rfl (by kernel_rfl) (by decide +kernel) (by decide +kernel) (fun _ _ _ h => h) (Or.inl ⟨by rfl, ?_⟩) (by assumption) ?_
            · intro w0 hSw
              obtain ⟨e1, e2, e3, e4, e5⟩ := hSw
              go_simp

              exact fun h1 h2 h3 => ev ⟨h1, h2, h3⟩
            try simp only [List.getElem_toArray, List.getElem_cons_zero, List.getElem_cons_succ, Act.put, List.setIfInBounds_toArray, List.set_cons_zero, List.set_cons_succ]
            (refine wpAnyH_take (i := 13) (v := ?_) rfl (by kernel_rfl) (by decide +kernel) (by decide +kernel) (fun _ _ _ h => h) (Or.inl ⟨by rfl, ?_⟩) (by assumption) ?_; rotate_left; (focus (intro w0 hSw; obtain ⟨e1, e2, e3, e4, e5⟩ := hSw; go_simp; (try with_reducible rfl); done)))
            try simp only [List.getElem_toArray, List.getElem_cons_zero, List.getElem_cons_succ, Act.put, List.setIfInBounds_toArray, List.set_cons_zero, List.set_cons_succ]
            (refine wpAnyH_take (i := 14) (v := ?_) rfl (by kernel_rfl) (by decide +kernel) (by decide +kernel) (fun _ _ _ h => h) (Or.inl ⟨by rfl, ?_⟩) (by assumption) ?_; rotate_left; (focus (intro w0 hSw; obtain ⟨e1, e2, e3, e4, e5⟩ := hSw; go_simp; (try with_reducible rfl); done)))
            try simp only [List.getElem_toArray, List.getElem_cons_zero, List.getElem_cons_succ, Act.put, List.setIfInBounds_toArray, List.set_cons_zero, List.set_cons_succ]
            refine wpAnyH_done (by kernel_rfl) ?_ _
            clear hs3
            have HH := HH3
            have HB := HB3
            have HW := HW3
            clear HH3 HB3 HW3
            go_wp2_with fail
            refine bodyPost_ret (results_tmp rfl _ _ _) rfl ?_
            rw [HR.out]
            exact ⟨rfl, ow, x, (Chg.self HH.out (fun k hk => Nat.lt_of_lt_of_le (HL.out k hk) HB.out.size)).low HB.out⟩
end
end Go.Proofs.YtcahijpbkjplmaaGreatDoor.G
