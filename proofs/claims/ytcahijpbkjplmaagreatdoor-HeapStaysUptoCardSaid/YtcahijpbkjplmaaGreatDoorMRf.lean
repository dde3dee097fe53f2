/-
  remove, by contract. (gen_rf.py)
-/
import Derived.Test.YtcahijpbkjplmaaGreatDoorMRd
import Derived.Test.YtcahijpbkjplmaaGreatDoorMRe
namespace Go.Proofs.YtcahijpbkjplmaaGreatDoor.G
open Go.RowKit Go.Shelf Go.Maps Go.Proofs.YtcahijpbkjplmaaGreatDoor

theorem selG_off {f : ByteArray → Bool} : ∀ {pb : List Nat} {ps : List Pr} {k : Nat} {p : Pr}, pb.length = ps.length → ps[k]? = some p → f p.key = false → selG f (pb.eraseIdx k) (ps.eraseIdx k) = selG f pb ps
  | [], [], k, p, _, h, _ => by simp at h
  | b :: pb, q :: ps, 0, p, _, h, hf => by
    simp only [List.getElem?_cons_zero, Option.some.injEq] at h
    subst h
    rw [List.eraseIdx_cons_zero, List.eraseIdx_cons_zero, selG_cons, hf]
    rfl
  | b :: pb, q :: ps, k + 1, p, hl, h, hf => by
    rw [List.eraseIdx_cons_succ, List.eraseIdx_cons_succ, selG_cons, selG_cons, selG_off (by simpa using hl) (by simpa using h) hf]
/-- an object from which a property is being taken: the ring and the map have it no more -/
structure Less (w : World) (ow : Nat → Option Nat) (i n : Nat) (pp : Value) (x : OL) (o : Ob) (k : Nat) (w' : World) : Prop where
  ring : Ring w' i pp { x with pb := x.pb.eraseIdx k } { o with ps := o.ps.eraseIdx k }
  mp : MapS w' x.pm n (.pointer none) (fnd (x.pb.eraseIdx k) (o.ps.eraseIdx k))
  mi : ∃ ni, ni + o.ps.length ≤ 2 * n ∧ MapI w' x.im ni (.slice none 0 0) x.fi
  rw : ∀ y, w'.ownsRow 0 79 1 (x.fi y) (sel o x.pb y).length ((sel o x.pb y).map pv)
  fr : Fr (fun k => k < w.heap.size ∧ ow k ≠ some (i + 1)) w w'
  all : ∀ c ∈ x.pb, ∃ xs, Blk w' c 81 xs
section
variable {w w1 w2 : World} {ow : Nat → Option Nat} {i n k : Nat} {pp : Value} {x : OL} {o : Ob} {p : Pr}
theorem Less.low (h : Less w ow i n pp x o k w1) (hb : Below w1.heap.size w1 w2) : Less w ow i n pp x o k w2 := by
  obtain ⟨ni, h1, h2⟩ := h.mi
  refine ⟨h.ring.fr (hb.block _ h.ring.ob.lt) fun b hbm => hb.block _ (h.ring.lt hbm), h.mp.fr (hb.block _ h.mp.lt), ⟨ni, h1, h2.fr (hb.block _ h2.lt)⟩, fun y => row_same (h.rw y) fun k e => hb.block k ((h.rw y).lt k e).2, h.fr.trans ⟨hb.os, hb.tape, hb.output, hb.size, fun k hk => hb.block k (Nat.lt_of_lt_of_le hk.1 h.fr.size)⟩, fun c hc => ?_⟩
  obtain ⟨xs, hx⟩ := h.all c hc
  exact ⟨xs, hx.low hb⟩
theorem ObjAt.map (h : ObjAt w ow i n pp x o) (hp : o.ps[k]? = some p) : (x.pb.eraseIdx k).length = (o.ps.eraseIdx k).length ∧ (o.ps.eraseIdx k).length + 1 = o.ps.length := by
  have h1 : k < o.ps.length := (List.getElem?_eq_some_iff.1 hp).1
  rw [List.length_eraseIdx_of_lt h1, List.length_eraseIdx_of_lt (by rw [h.pl]; exact h1), h.pl]
  omega
/-- no index: the object is whole again -/
theorem Less.whole (h : Less w ow i n pp x o k w1) (h0 : ObjAt w ow i n pp x o) (hl : ∀ k, ow k ≠ none → k < w.heap.size) (hp : o.ps[k]? = some p) (hx : o.ixA ix AR p.key = none) :
    ∃ ow' x', x'.pb = x.pb.eraseIdx k ∧ Chg w ow i n pp x.b { o with ps := o.ps.eraseIdx k } w1 ow' x' := by
  obtain ⟨ni, hn1, hn2⟩ := h.mi
  obtain ⟨hl1, hl2⟩ := h0.map hp
  refine ⟨ow, { x with pb := x.pb.eraseIdx k }, rfl, rfl, ⟨h.ring.ob, hl1, h.ring.pr, h.ring.nod, h.mp, ⟨ni, by show ni + (o.ps.eraseIdx k).length ≤ _; omega, hn2⟩, fun y => ?_, h0.ra, h0.wb, h0.wm, h0.wi, fun b hb => h0.wp b (List.mem_of_mem_eraseIdx hb), h0.mne⟩, fun _ _ e => e, fun _ e => .inl e, fun k e => Nat.lt_of_lt_of_le (hl k e) h.fr.size, fun _ _ e _ => e, h.fr⟩
  have e : sel { o with ps := o.ps.eraseIdx k } (x.pb.eraseIdx k) y = sel o x.pb y := by
    rw [sel_eq, sel_eq]
    exact selG_off h0.pl hp (decide_eq_false (by show ¬ o.ixA ix AR p.key = some y; rw [hx]; simp))
  rw [e]
  exact h.rw y
/-- an index: the object is whole again -/
theorem Less.indexed (h : Less w ow i n pp x o k w1) (h0 : ObjAt w ow i n pp x o) (hl : ∀ k, ow k ≠ none → k < w.heap.size) (hp : o.ps[k]? = some p) {b0 : Nat} (hb0 : x.pb[k]? = some b0) {y : Nat} (hx : o.ixA ix AR p.key = some y) {v' : Value}
    (him : ∃ ni, ni + o.ps.length ≤ 2 * n + 1 ∧ MapI w2 x.im ni (.slice none 0 0) (fun t => if t = y then v' else x.fi t))
    (hrow : w2.ownsRow 0 79 1 v' ((sel o x.pb y).filter fun c => !decide (c = b0)).length (((sel o x.pb y).filter fun c => !decide (c = b0)).map pv)) (hv : v'.ownBlock = (x.fi y).ownBlock)
    (hfr : Fr (fun k => k < w1.heap.size ∧ k ≠ x.im ∧ (x.fi y).ownBlock ≠ some k) w1 w2) :
    ∃ ow' x', x'.pb = x.pb.eraseIdx k ∧ Chg w ow i n pp x.b { o with ps := o.ps.eraseIdx k } w2 ow' x' := by
  obtain ⟨ni, hn1, hn2⟩ := him
  obtain ⟨mi, hm1, hm2⟩ := h.mi
  obtain ⟨ese, ce, hme⟩ := h.mp.isMap
  obtain ⟨esi, ci, hmi⟩ := hm2.isMap
  obtain ⟨hl1, hl2⟩ := h0.map hp
  have hob : w2.heap[x.b]? = w1.heap[x.b]? := hfr.block _ ⟨h.ring.ob.lt, h.ring.ob.ne_map hmi, fun e => h.ring.ob.ne_row (h.rw y) (by decide) _ e rfl⟩
  have hpb : ∀ b ∈ x.pb, w2.heap[b]? = w1.heap[b]? := fun b hb => by
    obtain ⟨xs, hbx⟩ := h.all b hb
    exact hfr.block _ ⟨hbx.lt, hbx.ne_map hmi, fun e => hbx.ne_row (h.rw y) (by decide) _ e rfl⟩
  have hring := h.ring.fr (w' := w2) hob fun b hb => hpb b (List.mem_of_mem_eraseIdx hb)
  have hown : ∀ t g, (if t = y then v' else x.fi t).ownBlock = some g → (x.fi t).ownBlock = some g := fun t g e => by
    by_cases ht : t = y
    · rw [if_pos ht, hv] at e
      rw [ht]
      exact e
    · rw [if_neg ht] at e
      exact e
  refine ⟨ow, { x with pb := x.pb.eraseIdx k, fi := fun t => if t = y then v' else x.fi t }, rfl, rfl, ⟨hring.ob, hl1, hring.pr, hring.nod, h.mp.fr (hfr.block _ ⟨h.mp.lt, h0.mne, row_ne_map (h.rw y) hme⟩), ⟨ni, by show ni + (o.ps.eraseIdx k).length ≤ _; omega, hn2⟩, fun t => ?_, fun t g e => ?_, h0.wb, h0.wm, h0.wi, fun b hb => h0.wp b (List.mem_of_mem_eraseIdx hb), h0.mne⟩, fun _ _ e => e, fun _ e => .inl e, fun k e => Nat.lt_of_lt_of_le (hl k e) (Nat.le_trans h.fr.size hfr.size), fun _ _ e _ => e, h.fr.trans ⟨hfr.os, hfr.tape, hfr.output, hfr.size, fun k hk => hfr.block k ⟨Nat.lt_of_lt_of_le hk.1 h.fr.size, (fun e => hk.2 (by rw [e]; exact h0.wi)), fun e => hk.2 (h0.ra y k e).1⟩⟩⟩
  · by_cases ht : t = y
    · have e : sel { o with ps := o.ps.eraseIdx k } (x.pb.eraseIdx k) t = (sel o x.pb y).filter fun c => !decide (c = b0) := by
        rw [ht, sel_eq, sel_eq]
        exact selG_erase _ h0.pl h0.nod hb0
      rw [e]
      show w2.ownsRow 0 _ 1 (if t = y then v' else x.fi t) _ _
      rw [if_pos ht]
      exact hrow
    · have e : sel { o with ps := o.ps.eraseIdx k } (x.pb.eraseIdx k) t = sel o x.pb t := by
        rw [sel_eq, sel_eq]
        exact selG_off h0.pl hp (decide_eq_false (by show ¬ o.ixA ix AR p.key = some t; rw [hx]; exact fun e => ht (Option.some.inj e).symm))
      rw [e]
      show w2.ownsRow 0 _ 1 (if t = y then v' else x.fi t) _ _
      rw [if_neg ht]
      exact row_same (h.rw t) fun g e => hfr.block g ⟨((h.rw t).lt g e).2, (fun e2 => row_ne_map (h.rw t) hmi (by rw [← e2]; exact e)), fun e2 => ht ((h0.ra t g e).2 y e2).symm⟩
  · obtain ⟨e1, e2⟩ := h0.ra t g (hown t g e)
    exact ⟨e1, fun y' e' => e2 y' (hown y' g e')⟩
/-- another place of the ring is another block -/
theorem Ring.apart (h : Ring w i pp x o) (hk : k < x.pb.length) (j : Nat) (hj : j ≠ k + 1) : (nd x.b x.pb j).block ≠ x.pb[k] := by
  have hb : x.b ≠ x.pb[k] := Ne.symm (h.ne (List.getElem_mem hk))
  cases j with
  | zero => exact hb
  | succ j =>
    rcases Nat.lt_or_ge j x.pb.length with h' | h'
    · rw [nd_of h']
      exact fun e => hj (by rw [(List.getElem_inj h.nod).1 e])
    · rw [nd_end h']
      exact hb
theorem Ring.at_place (h : Ring w i pp x o) {j g q : Nat} (e : nd x.b x.pb j = ⟨g, q, none⟩) : (∃ u, w.cell? ⟨g, q + 8, none⟩ = some u) ∧ (∃ u, w.cell? ⟨g, q + 7, none⟩ = some u) ∧ (∀ k, w.frozen? ⟨g, k, none⟩ = false) := by
  obtain ⟨g', q', e', h1, h2, h3, -⟩ := h.place j
  rw [e] at e'
  injection e' with e1 e2
  subst e1 e2
  exact ⟨h1, h2, h3⟩
theorem set_some (w : World) (p q : Addr) (v : Value) (h : ∃ u, w.cell? q = some u) : ∃ u, (w.setCell p v).cell? q = some u := by
  obtain ⟨u, hu⟩ := h
  by_cases e : q = p
  · subst e
    exact ⟨v, World.cell?_setCell_same _ _ _ hu⟩
  · exact ⟨u, (World.cell?_setCell_other _ _ _ _ (Ne.symm e)).trans hu⟩
theorem sel_mem {b0 y : Nat} (hp : o.ps[k]? = some p) (hb : x.pb[k]? = some b0) (hx : o.ixA ix AR p.key = some y) : b0 ∈ sel o x.pb y := by
  rw [sel_eq]
  unfold selG
  exact List.mem_map.2 ⟨(b0, p), List.mem_filter.2 ⟨List.mem_of_getElem? (i := k) (List.getElem?_zip_eq_some.2 ⟨hb, hp⟩), by simpa using hx⟩, rfl⟩
theorem sel_sub {c y : Nat} (h : c ∈ sel o x.pb y) : c ∈ x.pb := selG_mem (by rw [sel_eq] at h; exact h)
theorem step_del {ops : Array Oper} {o : Oper} {a : Act} {w : World} {K : Act → World → Prop} {Q : Exit → Act → World → Prop} {E : Prop} (hgd : o.guard = none) (m s : Operand) (t t' : TypeId) (ho : o.op = .call { callee := .builtin .delete, args := #[m, s], argTypes := #[t, t'] }) (w' : World)
    (hr : (Builtin.delete_ #[t, t'] o.type #[a.eval m, a.eval s]).run Tryz.prog w = .ok (.tuple #[]) w') (h : K (a.put o.dst (.tuple #[])) w') : if Region.wanted o (yielded ops a.tmps) = true then Oper.wp Tryz.prog o a w K Q else E := by
  have hw : Region.wanted o (yielded ops a.tmps) = true := by simp [Region.wanted, hgd]
  rw [if_pos hw]
  unfold Oper.wp execOp
  simp only [ho, resolve, invoke, builtin, Sem.run_bind, Sem.run_pure, Result.andThen_ok, List.map_toArray, List.map_cons, List.map_nil, hr]
  exact h
def RemR (w : World) (ow : Nat → Option Nat) (i n : Nat) (pp : Value) (b : Nat) (pb' : List Nat) (o' : Ob) (e : Ending) (w' : World) : Prop := e = .returned (.tuple #[]) ∧ ∃ ow' x', x'.pb = pb' ∧ Chg w ow i n pp b o' w' ow' x'
set_option linter.unusedSimpArgs false in
set_option maxRecDepth 20000 in
set_option maxHeartbeats 1000000 in
theorem remove_any (h : ObjAt w ow i n pp x o) (hl : ∀ k, ow k ≠ none → k < w.heap.size) (hp : o.ps[k]? = some p) {b0 : Nat} (hb0 : x.pb[k]? = some b0) (hs : p.key.size ≤ 16777216) (hnd : (o.ps.map (·.key)).Nodup) (hn : n ≤ 100000) (hps : o.ps.length ≤ 100000) (hix : ∀ y, o.ixA ix AR p.key = some y → y < 1000) :
    Calls Tryz.prog 77 #[pv x.b, pv b0] w (RemR w ow i n pp x.b (x.pb.eraseIdx k) { o with ps := o.ps.eraseIdx k }) := by
  have hk : k < x.pb.length := (List.getElem?_eq_some_iff.1 hb0).1
  have hk2 : k < o.ps.length := (List.getElem?_eq_some_iff.1 hp).1
  have eb : x.pb[k] = b0 := (List.getElem?_eq_some_iff.1 hb0).2
  have ep : o.ps[k] = p := (List.getElem?_eq_some_iff.1 hp).2
  obtain ⟨g1, q1, hg1, hu1, -, hz1, hm1⟩ := h.ring.place k
  obtain ⟨g2, q2, hg2, -, hu2, hz2, hm2⟩ := h.ring.place (k + 2)
  have hn1 : g1 ≠ b0 := by have := h.ring.apart hk k (by omega); rw [hg1, eb] at this; exact this
  have hn2 : g2 ≠ b0 := by have := h.ring.apart hk (k + 2) (by omega); rw [hg2, eb] at this; exact this
  have hbB : Blk w b0 81 (propC p (av ⟨g1, q1, none⟩) (av ⟨g2, q2, none⟩)) := by
    have := h.pr k hk hk2
    rw [eb, ep, hg1, hg2] at this
    exact this
  have h0 := h.low hl (below_new w (.cells #[pv b0] 79))
  have hB0 := Blk.new w 79 [pv b0]
  have hb := below_new w (.cells #[pv b0] 79)
  have hbm : b0 ∈ x.pb := List.mem_of_getElem? hb0
  have hblt : b0 < w.heap.size := hbB.lt
  have HH := Lib.hid h
  have HL := Lib.hid hl
  have HP := Lib.hid hp
  have HPB := Lib.hid hb0
  have HND := Lib.hid hnd
  have HN := Lib.hid hn
  have HPS := Lib.hid hps
  have HIX := Lib.hid hix
  have HKS : Hid (p.key.size ≤ maxLen) := by show p.key.size ≤ maxLen; unfold maxLen; omega
  have HBM := Lib.hid hbm
  have HK := Lib.hid hk
  have HG1 := Lib.hid hg1
  have HG2 := Lib.hid hg2
  have HM1 := Lib.hid hm1
  have HM2 := Lib.hid hm2
  have HN1 := Lib.hid hn1
  have HN2 := Lib.hid hn2
  have HX : Hid (ObjAt (w.alloc (.cells #[pv b0] 79)).drew ow i n pp x o ∧ Blk (w.alloc (.cells #[pv b0] 79)).drew w.heap.size 79 [pv b0] ∧ Below w.heap.size w (w.alloc (.cells #[pv b0] 79)).drew ∧
      Blk (w.alloc (.cells #[pv b0] 79)).drew b0 81 (propC p (av ⟨g1, q1, none⟩) (av ⟨g2, q2, none⟩))) := ⟨h0.low (fun k hk => Nat.lt_of_lt_of_le (hl k hk) hb.size) (below_draw _), hB0.fr rfl, hb.drew, (hbB.low hb).fr rfl⟩
  clear h hl hp hb0 hs hnd hn hps hix hbm hk hk2 hg1 hg2 hm1 hm2 hn1 hn2 hbB h0 hB0 hb eb ep hz1 hz2 hu1 hu2
  obtain ⟨pk, ⟨pvk, pvn, pvs⟩, pw, pe, pf⟩ := p
  dsimp only at HKS HIX
  go_enter Tryz.func77, Tryz.ntmps77
  go_wp2_with fail
  refine wp_region_held_drew (S := fun w' => w'.cell? ⟨w.heap.size, 0, none⟩ = some (pv b0) ∧ w'.cell? ⟨b0, 7, none⟩ = some (av ⟨g1, q1, none⟩) ∧ w'.cell? ⟨b0, 8, none⟩ = some (av ⟨g2, q2, none⟩)) (by kernel_rfl) (⟨HX.out.2.1.cell (k := 0) rfl, HX.out.2.2.2.cell (k := 7) rfl, HX.out.2.2.2.cell (k := 8) rfl⟩) (fun hHeld0 => ?_)
  generalize (w.alloc (.cells #[pv b0] 79)).drew = v1 at *
  (refine wpAnyH_take (i := 0) (v := ?_) rfl (by kernel_rfl) (by decide +kernel) (by decide +kernel) (fun _ _ _ h => h) (Or.inl ⟨by rfl, ?_⟩) (by assumption) ?_; rotate_left; (focus (intro w0 hSw; obtain ⟨cB, c7, c8⟩ := hSw; go_simp; (try with_reducible rfl); done)))
  (refine wpAnyH_take (i := 1) (v := ?_) rfl (by kernel_rfl) (by decide +kernel) (by decide +kernel) (fun _ _ _ h => h) (Or.inl ⟨by rfl, ?_⟩) (by assumption) ?_; rotate_left; (focus (intro w0 hSw; obtain ⟨cB, c7, c8⟩ := hSw; go_simp; (try with_reducible rfl); done)))
  (refine wpAnyH_take (i := 2) (v := ?_) rfl (by kernel_rfl) (by decide +kernel) (by decide +kernel) (fun _ _ _ h => h) (Or.inl ⟨by rfl, ?_⟩) (by assumption) ?_; rotate_left; (focus (intro w0 hSw; obtain ⟨cB, c7, c8⟩ := hSw; go_simp; (try with_reducible rfl); done)))
  (refine wpAnyH_take (i := 3) (v := ?_) rfl (by kernel_rfl) (by decide +kernel) (by decide +kernel) (fun _ _ _ h => h) (Or.inl ⟨by rfl, ?_⟩) (by assumption) ?_; rotate_left; (focus (intro w0 hSw; obtain ⟨cB, c7, c8⟩ := hSw; go_simp; (try with_reducible rfl); done)))
  (refine wpAnyH_take (i := 4) (v := ?_) rfl (by kernel_rfl) (by decide +kernel) (by decide +kernel) (fun _ _ _ h => h) (Or.inl ⟨by rfl, ?_⟩) (by assumption) ?_; rotate_left; (focus (intro w0 hSw; obtain ⟨cB, c7, c8⟩ := hSw; go_simp; (try with_reducible rfl); done)))
  (refine wpAnyH_take (i := 5) (v := ?_) rfl (by kernel_rfl) (by decide +kernel) (by decide +kernel) (fun _ _ _ h => h) (Or.inl ⟨by rfl, ?_⟩) (by assumption) ?_; rotate_left; (focus (intro w0 hSw; obtain ⟨cB, c7, c8⟩ := hSw; go_simp; (try with_reducible rfl); done)))
  (refine wpAnyH_take (i := 6) (v := ?_) rfl (by kernel_rfl) (by decide +kernel) (by decide +kernel) (fun _ _ _ h => h) (Or.inl ⟨by rfl, ?_⟩) (by assumption) ?_; rotate_left; (focus (intro w0 hSw; obtain ⟨cB, c7, c8⟩ := hSw; go_simp; (try with_reducible rfl); done)))
  (refine wpAnyH_take (i := 7) (v := ?_) rfl (by kernel_rfl) (by decide +kernel) (by decide +kernel) (fun _ _ _ h => h) (Or.inl ⟨by rfl, ?_⟩) (by assumption) ?_; rotate_left; (focus (intro w0 hSw; obtain ⟨cB, c7, c8⟩ := hSw; go_simp; (try with_reducible rfl); done)))
  (refine wpAnyH_take (i := 8) (v := ?_) rfl (by kernel_rfl) (by decide +kernel) (by decide +kernel) (fun _ _ _ h => h) (Or.inl ⟨by rfl, ?_⟩) (by assumption) ?_; rotate_left; (focus (intro w0 hSw; obtain ⟨cB, c7, c8⟩ := hSw; go_simp; (try with_reducible rfl); done)))
  (refine wpAnyH_take (i := 9) (v := ?_) rfl (by kernel_rfl) (by decide +kernel) (by decide +kernel) (fun _ _ _ h => h) (Or.inl ⟨by rfl, ?_⟩) (by assumption) ?_; rotate_left; (focus (intro w0 hSw; obtain ⟨cB, c7, c8⟩ := hSw; go_simp; (try with_reducible rfl); done)))
  (refine wpAnyH_take (i := 10) (v := ?_) rfl (by kernel_rfl) (by decide +kernel) (by decide +kernel) (fun _ _ _ h => h) (Or.inl ⟨by rfl, ?_⟩) (by assumption) ?_; rotate_left; (focus (intro w0 hSw; obtain ⟨cB, c7, c8⟩ := hSw; go_simp; (try with_reducible rfl); done)))
  (refine wpAnyH_take (i := 11) (v := ?_) rfl (by kernel_rfl) (by decide +kernel) (by decide +kernel) (fun _ _ _ h => h) (Or.inl ⟨by rfl, ?_⟩) (by assumption) ?_; rotate_left; (focus (intro w0 hSw; obtain ⟨cB, c7, c8⟩ := hSw; go_simp; (try with_reducible rfl); done)))
  (refine wpAnyH_take (i := 12) (v := ?_) rfl (by kernel_rfl) (by decide +kernel) (by decide +kernel) (fun _ _ _ h => h) (Or.inl ⟨by rfl, ?_⟩) (by assumption) ?_; rotate_left; (focus (intro w0 hSw; obtain ⟨cB, c7, c8⟩ := hSw; go_simp; (try with_reducible rfl); done)))
  (refine wpAnyH_take (i := 13) (v := ?_) rfl (by kernel_rfl) (by decide +kernel) (by decide +kernel) (fun _ _ _ h => h) (Or.inl ⟨by rfl, ?_⟩) (by assumption) ?_; rotate_left; (focus (intro w0 hSw; obtain ⟨cB, c7, c8⟩ := hSw; go_simp; (try with_reducible rfl); done)))
  (refine wpAnyH_take (i := 14) (v := ?_) rfl (by kernel_rfl) (by decide +kernel) (by decide +kernel) (fun _ _ _ h => h) (Or.inl ⟨by rfl, ?_⟩) (by assumption) ?_; rotate_left; (focus (intro w0 hSw; obtain ⟨cB, c7, c8⟩ := hSw; go_simp; (try with_reducible rfl); done)))
  (refine wpAnyH_take (i := 15) (v := ?_) rfl (by kernel_rfl) (by decide +kernel) (by decide +kernel) (fun _ _ _ h => h) (Or.inl ⟨by rfl, ?_⟩) (by assumption) ?_; rotate_left; (focus (intro w0 hSw; obtain ⟨cB, c7, c8⟩ := hSw; go_simp; (try with_reducible rfl); done)))
  (refine wpAnyH_take (i := 16) (v := ?_) rfl (by kernel_rfl) (by decide +kernel) (by decide +kernel) (fun _ _ _ h => h) (Or.inl ⟨by rfl, ?_⟩) (by assumption) ?_; rotate_left; (focus (intro w0 hSw; obtain ⟨cB, c7, c8⟩ := hSw; go_simp; (try with_reducible rfl); done)))
  (refine wpAnyH_take (i := 17) (v := ?_) rfl (by kernel_rfl) (by decide +kernel) (by decide +kernel) (fun _ _ _ h => h) (Or.inl ⟨by rfl, ?_⟩) (by assumption) ?_; rotate_left; (focus (intro w0 hSw; obtain ⟨cB, c7, c8⟩ := hSw; go_simp; (try with_reducible rfl); done)))
  try simp only [List.getElem_toArray, List.getElem_cons_zero, List.getElem_cons_succ, Act.put, List.setIfInBounds_toArray, List.set_cons_zero, List.set_cons_succ]
  refine wpAnyH_ready (rs := [18]) (by decide +kernel) (by simp) (AllReadyH.cons rfl (fun K hK => ?_) AllReadyH.nil)
  obtain ⟨⟨u8, hu8⟩, -, hfz⟩ := HX.out.1.ring.at_place HG1.out
  have hu8' : v1.cell? ⟨g1, q1 + 8, none⟩ = some u8 := hu8
  have hfz' : v1.frozen? ⟨g1, q1 + 8, none⟩ = false := hfz _
  go_simp
  clear hu8' hfz' hu8 hfz
  have hP1 : g1 ≠ w.heap.size := by
    have : ow g1 = some (i + 1) := HM1.out.elim (fun e => by rw [e]; exact HH.out.wb) (fun e => HH.out.wp _ e)
    exact Nat.ne_of_lt (HL.out _ (by rw [this]; simp))
  have HP1 := Lib.hid hP1
  clear hP1
  refine hK.out _ _ ⟨(cell_far _ HP1.out _ _ _).trans hHeld0.1, (cell_far _ HN1.out _ _ _).trans hHeld0.2.1, (cell_far _ HN1.out _ _ _).trans hHeld0.2.2⟩ (fun hHeld1 => ?_)
  clear hK K hHeld0 
  try simp only [List.getElem_toArray, List.getElem_cons_zero, List.getElem_cons_succ, Act.put, List.setIfInBounds_toArray, List.set_cons_zero, List.set_cons_succ]
  (refine wpAnyH_take (i := 19) (v := ?_) rfl (by kernel_rfl) (by decide +kernel) (by decide +kernel) (fun _ _ _ h => h) (Or.inl ⟨by rfl, ?_⟩) (by assumption) ?_; rotate_left; (focus (intro w0 hSw; go_simp; (try with_reducible rfl); done)))
  (refine wpAnyH_take (i := 20) (v := ?_) rfl (by kernel_rfl) (by decide +kernel) (by decide +kernel) (fun _ _ _ h => h) (Or.inl ⟨by rfl, ?_⟩) (by assumption) ?_; rotate_left; (focus (intro w0 hSw; go_simp; (try with_reducible rfl); done)))
  try simp only [List.getElem_toArray, List.getElem_cons_zero, List.getElem_cons_succ, Act.put, List.setIfInBounds_toArray, List.set_cons_zero, List.set_cons_succ]
  refine wpAnyH_ready (rs := [21]) (by decide +kernel) (by simp) (AllReadyH.cons rfl (fun K hK => ?_) AllReadyH.nil)
  obtain ⟨u7, hu7⟩ := set_some v1 ⟨g1, q1 + 8, none⟩ ⟨g2, q2 + 7, none⟩ (av ⟨g2, q2, none⟩) (HX.out.1.ring.at_place HG2.out).2.1
  have hf7 : (v1.setCell ⟨g1, q1 + 8, none⟩ (av ⟨g2, q2, none⟩)).frozen? ⟨g2, q2 + 7, none⟩ = false := by
    rw [World.frozen?_setCell]
    exact (HX.out.1.ring.at_place HG2.out).2.2 _
  go_simp
  clear hu7 hf7
  have hP2 : g2 ≠ w.heap.size := by
    have : ow g2 = some (i + 1) := HM2.out.elim (fun e => by rw [e]; exact HH.out.wb) (fun e => HH.out.wp _ e)
    exact Nat.ne_of_lt (HL.out _ (by rw [this]; simp))
  have HP2 := Lib.hid hP2
  clear hP2
  refine hK.out _ _ ⟨(cell_far _ HP2.out _ _ _).trans hHeld1.1, (cell_far _ HN2.out _ _ _).trans hHeld1.2.1, (cell_far _ HN2.out _ _ _).trans hHeld1.2.2⟩ (fun hHeld2 => ?_)
  clear hK K hHeld1 
  try simp only [List.getElem_toArray, List.getElem_cons_zero, List.getElem_cons_succ, Act.put, List.setIfInBounds_toArray, List.set_cons_zero, List.set_cons_succ]
  refine wpAnyH_done (by kernel_rfl) ?_ _
  clear hHeld2
  have HR2 : Hid (Ring ((v1.setCell ⟨g1, q1 + 8, none⟩ (av ⟨g2, q2, none⟩)).setCell ⟨g2, q2 + 7, none⟩ (av ⟨g1, q1, none⟩)).drew i pp { x with pb := x.pb.eraseIdx k } { o with ps := o.ps.eraseIdx k }) := by
    have := HX.out.1.ring.erase HK.out
    rw [HG1.out, HG2.out] at this
    exact this.fr rfl fun _ _ => rfl
  have hkeep : ∀ c, c ≠ g1 → c ≠ g2 → ((v1.setCell ⟨g1, q1 + 8, none⟩ (av ⟨g2, q2, none⟩)).setCell ⟨g2, q2 + 7, none⟩ (av ⟨g1, q1, none⟩)).drew.heap[c]? = v1.heap[c]? := fun c h1 h2 => by
    show ((v1.setCell ⟨g1, q1 + 8, none⟩ (av ⟨g2, q2, none⟩)).setCell ⟨g2, q2 + 7, none⟩ (av ⟨g1, q1, none⟩)).heap[c]? = _
    rw [Below.heap_setCell _ _ _ _ h2, Below.heap_setCell _ _ _ _ h1]
  have hmapk : ∀ (m : Nat) (es : Array MapEntry) (c : Nat), v1.heap[m]? = some (.map es c) → ((v1.setCell ⟨g1, q1 + 8, none⟩ (av ⟨g2, q2, none⟩)).setCell ⟨g2, q2 + 7, none⟩ (av ⟨g1, q1, none⟩)).drew.heap[m]? = v1.heap[m]? := fun m es c hm => by
    refine hkeep m ?_ ?_
    · exact HM1.out.elim (fun e => by rw [e]; exact Ne.symm (HX.out.1.ob.ne_map hm)) (fun e => Ne.symm (HX.out.1.ring.ne_map e hm))
    · exact HM2.out.elim (fun e => by rw [e]; exact Ne.symm (HX.out.1.ob.ne_map hm)) (fun e => Ne.symm (HX.out.1.ring.ne_map e hm))
  have hrowk : ∀ y c, (x.fi y).ownBlock = some c → ((v1.setCell ⟨g1, q1 + 8, none⟩ (av ⟨g2, q2, none⟩)).setCell ⟨g2, q2 + 7, none⟩ (av ⟨g1, q1, none⟩)).drew.heap[c]? = v1.heap[c]? := fun y c hc => by
    refine hkeep c ?_ ?_
    · exact HM1.out.elim (fun e => by rw [e]; exact Ne.symm (HX.out.1.ob.ne_row (HX.out.1.rw y) (by decide) c hc)) (fun e => Ne.symm (HX.out.1.ring.ne_row e (HX.out.1.rw y) c hc))
    · exact HM2.out.elim (fun e => by rw [e]; exact Ne.symm (HX.out.1.ob.ne_row (HX.out.1.rw y) (by decide) c hc)) (fun e => Ne.symm (HX.out.1.ring.ne_row e (HX.out.1.rw y) c hc))
  have HS2 : Hid (MapS ((v1.setCell ⟨g1, q1 + 8, none⟩ (av ⟨g2, q2, none⟩)).setCell ⟨g2, q2 + 7, none⟩ (av ⟨g1, q1, none⟩)).drew x.pm n (.pointer none) (fnd x.pb o.ps)) := by
    obtain ⟨es, c, hes⟩ := HX.out.1.mp.isMap
    exact HX.out.1.mp.fr (hmapk _ _ _ hes)
  have HI2 : Hid (∃ ni, ni + o.ps.length ≤ 2 * n ∧ MapI ((v1.setCell ⟨g1, q1 + 8, none⟩ (av ⟨g2, q2, none⟩)).setCell ⟨g2, q2 + 7, none⟩ (av ⟨g1, q1, none⟩)).drew x.im ni (.slice none 0 0) x.fi) := by
    obtain ⟨ni, h1, h2⟩ := HX.out.1.mi
    obtain ⟨es, c, hes⟩ := h2.isMap
    exact ⟨ni, h1, h2.fr (hmapk _ _ _ hes)⟩
  have HW2 : Hid (∀ y, ((v1.setCell ⟨g1, q1 + 8, none⟩ (av ⟨g2, q2, none⟩)).setCell ⟨g2, q2 + 7, none⟩ (av ⟨g1, q1, none⟩)).drew.ownsRow 0 79 1 (x.fi y) (sel o x.pb y).length ((sel o x.pb y).map pv)) := fun y => row_same (HX.out.1.rw y) (hrowk y)
  have HF2 : Hid (Fr (fun k => k < w.heap.size ∧ ow k ≠ some (i + 1)) w ((v1.setCell ⟨g1, q1 + 8, none⟩ (av ⟨g2, q2, none⟩)).setCell ⟨g2, q2 + 7, none⟩ (av ⟨g1, q1, none⟩)).drew) := by
    have o1 : ow g1 = some (i + 1) := HM1.out.elim (fun e => by rw [e]; exact HH.out.wb) (fun e => HH.out.wp _ e)
    have o2 : ow g2 = some (i + 1) := HM2.out.elim (fun e => by rw [e]; exact HH.out.wb) (fun e => HH.out.wp _ e)
    exact (((Fr.of HX.out.2.2.1 fun k hk => hk.1).setCell (p := ⟨g1, q1 + 8, none⟩) (fun hk => hk.2 o1) _).setCell (p := ⟨g2, q2 + 7, none⟩) (fun hk => hk.2 o2) _).drew
  have HA2 : Hid (∀ c ∈ x.pb, ∃ xs, Blk ((v1.setCell ⟨g1, q1 + 8, none⟩ (av ⟨g2, q2, none⟩)).setCell ⟨g2, q2 + 7, none⟩ (av ⟨g1, q1, none⟩)).drew c 81 xs) := fun c hc => by
    obtain ⟨j, hj, rfl⟩ := List.getElem_of_mem hc
    have hb := HX.out.1.pr j hj (by rw [← HX.out.1.pl]; exact hj)
    have hs1 : ∃ xs, Blk (v1.setCell ⟨g1, q1 + 8, none⟩ (av ⟨g2, q2, none⟩)) x.pb[j] 81 xs := by
      by_cases e : x.pb[j] = g1
      · rw [e] at hb ⊢
        exact ⟨_, hb.set _ _⟩
      · exact ⟨_, hb.other e _⟩
    obtain ⟨ys, hy⟩ := hs1
    by_cases e : x.pb[j] = g2
    · rw [e] at hy ⊢
      exact ⟨_, hy.set _ _⟩
    · exact ⟨_, hy.other (p := ⟨g2, q2 + 7, none⟩) e _⟩
  have HC2 : Hid (Blk ((v1.setCell ⟨g1, q1 + 8, none⟩ (av ⟨g2, q2, none⟩)).setCell ⟨g2, q2 + 7, none⟩ (av ⟨g1, q1, none⟩)).drew w.heap.size 79 [pv b0] ∧ Blk ((v1.setCell ⟨g1, q1 + 8, none⟩ (av ⟨g2, q2, none⟩)).setCell ⟨g2, q2 + 7, none⟩ (av ⟨g1, q1, none⟩)).drew b0 81 (propC ⟨pk, ⟨pvk, pvn, pvs⟩, pw, pe, pf⟩ (av ⟨g1, q1, none⟩) (av ⟨g2, q2, none⟩))) := by
    have p1 := HP1.out
    have p2 := HP2.out
    have p3 := HN1.out
    have p4 := HN2.out
    exact ⟨HX.out.2.1.fr (hkeep _ (Ne.symm p1) (Ne.symm p2)), HX.out.2.2.2.fr (hkeep _ (Ne.symm p3) (Ne.symm p4))⟩
  have hs2 : (fun w' : World => w'.cell? ⟨x.b, 4, none⟩ = some (.map (some x.pm)) ∧ w'.cell? ⟨w.heap.size, 0, none⟩ = some (pv b0) ∧ w'.cell? ⟨b0, 0, none⟩ = some (.string pk)) ((v1.setCell ⟨g1, q1 + 8, none⟩ (av ⟨g2, q2, none⟩)).setCell ⟨g2, q2 + 7, none⟩ (av ⟨g1, q1, none⟩)).drew := ⟨HR2.out.ob.cell (k := 4) rfl, HC2.out.1.cell (k := 0) rfl, HC2.out.2.cell (k := 0) rfl⟩
  clear hkeep hmapk hrowk HX
  generalize ((v1.setCell ⟨g1, q1 + 8, none⟩ (av ⟨g2, q2, none⟩)).setCell ⟨g2, q2 + 7, none⟩ (av ⟨g1, q1, none⟩)) = v2 at *
  go_wp2_with fail
  refine wp_region_held_drew (S := (fun w' : World => w'.cell? ⟨x.b, 4, none⟩ = some (.map (some x.pm)) ∧ w'.cell? ⟨w.heap.size, 0, none⟩ = some (pv b0) ∧ w'.cell? ⟨b0, 0, none⟩ = some (.string pk))) (by kernel_rfl) (hs2) (fun hHeld0 => ?_)
  generalize v2.drew = v3 at *
  (refine wpAnyH_take (i := 0) (v := ?_) rfl (by kernel_rfl) (by decide +kernel) (by decide +kernel) (fun _ _ _ h => h) (Or.inl ⟨by rfl, ?_⟩) (by assumption) ?_; rotate_left; (focus (intro w0 hSw; obtain ⟨c4, cB, c0⟩ := hSw; go_simp; (try with_reducible rfl); done)))
  (refine wpAnyH_take (i := 1) (v := ?_) rfl (by kernel_rfl) (by decide +kernel) (by decide +kernel) (fun _ _ _ h => h) (Or.inl ⟨by rfl, ?_⟩) (by assumption) ?_; rotate_left; (focus (intro w0 hSw; obtain ⟨c4, cB, c0⟩ := hSw; go_simp; (try with_reducible rfl); done)))
  (refine wpAnyH_take (i := 2) (v := ?_) rfl (by kernel_rfl) (by decide +kernel) (by decide +kernel) (fun _ _ _ h => h) (Or.inl ⟨by rfl, ?_⟩) (by assumption) ?_; rotate_left; (focus (intro w0 hSw; obtain ⟨c4, cB, c0⟩ := hSw; go_simp; (try with_reducible rfl); done)))
  (refine wpAnyH_take (i := 3) (v := ?_) rfl (by kernel_rfl) (by decide +kernel) (by decide +kernel) (fun _ _ _ h => h) (Or.inl ⟨by rfl, ?_⟩) (by assumption) ?_; rotate_left; (focus (intro w0 hSw; obtain ⟨c4, cB, c0⟩ := hSw; go_simp; (try with_reducible rfl); done)))
  (refine wpAnyH_take (i := 4) (v := ?_) rfl (by kernel_rfl) (by decide +kernel) (by decide +kernel) (fun _ _ _ h => h) (Or.inl ⟨by rfl, ?_⟩) (by assumption) ?_; rotate_left; (focus (intro w0 hSw; obtain ⟨c4, cB, c0⟩ := hSw; go_simp; (try with_reducible rfl); done)))
  (refine wpAnyH_take (i := 5) (v := ?_) rfl (by kernel_rfl) (by decide +kernel) (by decide +kernel) (fun _ _ _ h => h) (Or.inl ⟨by rfl, ?_⟩) (by assumption) ?_; rotate_left; (focus (intro w0 hSw; obtain ⟨c4, cB, c0⟩ := hSw; go_simp; (try with_reducible rfl); done)))
  (refine wpAnyH_take (i := 6) (v := ?_) rfl (by kernel_rfl) (by decide +kernel) (by decide +kernel) (fun _ _ _ h => h) (Or.inl ⟨by rfl, ?_⟩) (by assumption) ?_; rotate_left; (focus (intro w0 hSw; obtain ⟨c4, cB, c0⟩ := hSw; go_simp; (try with_reducible rfl); done)))
  (refine wpAnyH_take (i := 7) (v := ?_) rfl (by kernel_rfl) (by decide +kernel) (by decide +kernel) (fun _ _ _ h => h) (Or.inl ⟨by rfl, ?_⟩) (by assumption) ?_; rotate_left; (focus (intro w0 hSw; obtain ⟨c4, cB, c0⟩ := hSw; go_simp; (try with_reducible rfl); done)))
  (refine wpAnyH_take (i := 8) (v := ?_) rfl (by kernel_rfl) (by decide +kernel) (by decide +kernel) (fun _ _ _ h => h) (Or.inl ⟨by rfl, ?_⟩) (by assumption) ?_; rotate_left; (focus (intro w0 hSw; obtain ⟨c4, cB, c0⟩ := hSw; go_simp; (try with_reducible rfl); done)))
  try simp only [List.getElem_toArray, List.getElem_cons_zero, List.getElem_cons_succ, Act.put, List.setIfInBounds_toArray, List.set_cons_zero, List.set_cons_succ]
  refine wpAnyH_ready (rs := [9]) (by decide +kernel) (by simp) (AllReadyH.cons rfl (fun K hK => ?_) AllReadyH.nil)
  obtain ⟨v4, hr4, hm4, ht4⟩ := HS2.out.drop Tryz.underlying78 HKS.out 0
  have hless : Less w ow i n pp x o k v4 := by
    obtain ⟨es, c, hes⟩ := HS2.out.isMap
    obtain ⟨ni, hi1, hi2⟩ := HI2.out
    have hk4 : ∀ k, k < v3.heap.size → k ≠ x.pm → v4.heap[k]? = v3.heap[k]? := fun k h1 h2 => ht4.grown.block k h1 (fun e => h2 (Option.some.inj e))
    refine ⟨HR2.out.fr (hk4 _ HR2.out.ob.lt (HR2.out.ob.ne_map hes)) fun b hb => hk4 _ (HR2.out.lt hb) (HR2.out.ne_map hb hes), ?_, ⟨ni, hi1, hi2.fr (hk4 _ hi2.lt (Ne.symm HH.out.mne))⟩, fun y => row_same (HW2.out y) fun k e => hk4 _ ((HW2.out y).lt k e).2 (fun e2 => row_ne_map (HW2.out y) hes (by rw [← e2]; exact e)), ?_, fun c hc => ?_⟩
    · have : (fun t => if t = pk then Value.pointer none else fnd x.pb o.ps t) = fnd (x.pb.eraseIdx k) (o.ps.eraseIdx k) := funext fun s => (fnd_erase s HH.out.pl HND.out HP.out).symm
      rw [← this]
      exact hm4
    · exact HF2.out.turned (fun hk => hk.2 HH.out.wm) ht4 fun k hk => hk.1
    · obtain ⟨xs, hx⟩ := HA2.out c hc
      exact ⟨xs, hx.fr (hk4 _ hx.lt (hx.ne_map hes))⟩
  have hcb : Blk v4 w.heap.size 79 [pv b0] ∧ Blk v4 b0 81 (propC ⟨pk, ⟨pvk, pvn, pvs⟩, pw, pe, pf⟩ (av ⟨g1, q1, none⟩) (av ⟨g2, q2, none⟩)) := by
    obtain ⟨es, c, hes⟩ := HS2.out.isMap
    exact ⟨HC2.out.1.fr (ht4.grown.block _ HC2.out.1.lt (fun e => HC2.out.1.ne_map hes (Option.some.inj e))), HC2.out.2.fr (ht4.grown.block _ HC2.out.2.lt (fun e => HC2.out.2.ne_map hes (Option.some.inj e)))⟩
  have HLS := Lib.hid hless
  have HC4 := Lib.hid hcb
  refine step_del rfl (.tmp 29) (.tmp 34) _ _ rfl v4 hr4 ?_
  clear hr4 hm4 ht4 hless hcb HR2 HS2 HI2 HW2 HF2 HA2 HC2
  refine hK.out _ _ ⟨HLS.out.ring.ob.cell (k := 4) rfl, HC4.out.1.cell (k := 0) rfl, HC4.out.2.cell (k := 0) rfl⟩ (fun hHeld1 => ?_)
  clear hK K hHeld0 
  try simp only [List.getElem_toArray, List.getElem_cons_zero, List.getElem_cons_succ, Act.put, List.setIfInBounds_toArray, List.set_cons_zero, List.set_cons_succ]
  refine wpAnyH_done (by kernel_rfl) ?_ _
  clear hHeld1 hs2
  have hI := index_cell (w := v4) (b := x.b) o (HLS.out.ring.ob.cell (k := 1) rfl) pk HKS.out
  have cB := HC4.out.1.cell (k := 0) (v := pv b0) rfl
  have c0 := HC4.out.2.cell (k := 0) (v := .string pk) rfl
  have HI := Lib.hid hI
  clear hI
  go_wp2_with fail
  refine HI.out.mono ?_
  rintro e v5 ⟨rfl, hb⟩
  replace HLS := Lib.hid (HLS.out.low hb)
  replace HC4 := Lib.hid (HC4.out.1.low hb)
  clear HI c0 cB hb
  cases hq : o.ixA ix AR pk with
  | none =>
    simp only [idxRes] at *
    go_wp2_with fail
    exact Go.Great.bodyPost_end0 rfl rfl ⟨rfl, HLS.out.whole HH.out HL.out HP.out hq⟩
  | some y =>
    have HY := Lib.hid (HIX.out y hq)
    have HQ := Lib.hid hq
    have HSM := Lib.hid (sel_mem HP.out HPB.out hq)
    clear hq
    simp only [idxRes] at *
    have HL6 := Lib.hid (HLS.out.low (below_draw _))
    have HC6 : Hid (Blk v5.drew w.heap.size 79 [pv b0]) := HC4.out.fr rfl
    have hs6 : (fun w' : World => w'.cell? ⟨x.b, 16, none⟩ = some (.map (some x.im))) v5.drew := HL6.out.ring.ob.cell (k := 16) rfl
    clear HLS HC4
    go_wp2_with fail
    refine wp_region_held_drew (S := (fun w' : World => w'.cell? ⟨x.b, 16, none⟩ = some (.map (some x.im)))) (by kernel_rfl) (hs6) (fun hHeld0 => ?_)
    generalize v5.drew = v6 at *
    (refine wpAnyH_take (i := 0) (v := ?_) rfl (by kernel_rfl) (by decide +kernel) (by decide +kernel) (fun _ _ _ h => h) (Or.inl ⟨by rfl, ?_⟩) (by assumption) ?_; rotate_left; (focus (intro w0 hSw; go_simp; (try with_reducible rfl); done)))
    (refine wpAnyH_take (i := 1) (v := ?_) rfl (by kernel_rfl) (by decide +kernel) (by decide +kernel) (fun _ _ _ h => h) (Or.inl ⟨by rfl, ?_⟩) (by assumption) ?_; rotate_left; (focus (intro w0 hSw; go_simp; (try with_reducible rfl); done)))
    (refine wpAnyH_take (i := 2) (v := ?_) rfl (by kernel_rfl) (by decide +kernel) (by decide +kernel) (fun _ _ _ h => h) (Or.inl ⟨by rfl, ?_⟩) (by assumption) ?_; rotate_left; (focus (intro w0 hSw; go_simp; (try with_reducible rfl); done)))
    (refine wpAnyH_take (i := 3) (v := ?_) rfl (by kernel_rfl) (by decide +kernel) (by decide +kernel) (fun _ _ _ h => h) (Or.inl ⟨by rfl, ?_⟩) (by assumption) ?_; rotate_left; (focus (intro w0 hSw; have c16 := hSw; go_simp; (try with_reducible rfl); done)))
    (refine wpAnyH_take (i := 4) (v := ?_) rfl (by kernel_rfl) (by decide +kernel) (by decide +kernel) (fun _ _ _ h => h) (Or.inl ⟨by rfl, ?_⟩) (by assumption) ?_; rotate_left; (focus (intro w0 hSw; go_simp; (try with_reducible rfl); done)))
    (refine wpAnyH_take (i := 5) (v := ?_) rfl (by kernel_rfl) (by decide +kernel) (by decide +kernel) (fun _ _ _ h => h) (Or.inl ⟨by rfl, ?_⟩) (by assumption) ?_; rotate_left; (focus (intro w0 hSw; go_simp; (try with_reducible rfl); done)))
    (refine wpAnyH_take (i := 6) (v := ?_) rfl (by kernel_rfl) (by decide +kernel) (by decide +kernel) (fun _ _ _ h => h) (Or.inl ⟨by rfl, ?_⟩) (by assumption) ?_; rotate_left; (focus (intro w0 hSw; go_simp; (try with_reducible rfl); done)))
    (refine wpAnyH_take (i := 7) (v := ?_) rfl (by kernel_rfl) (by decide +kernel) (by decide +kernel) (fun _ _ _ h => h) (Or.inl ⟨by rfl, ?_⟩) (by assumption) ?_; rotate_left; (focus (intro w0 hSw; go_simp; (try with_reducible rfl); done)))
    (refine wpAnyH_take (i := 8) (v := ?_) rfl (by kernel_rfl) (by decide +kernel) (by decide +kernel) (fun _ _ _ h => h) (Or.inl ⟨by rfl, ?_⟩) (by assumption) ?_; rotate_left; (focus (intro w0 hSw; have c16 := hSw; go_simp; (try with_reducible rfl); done)))
    (refine wpAnyH_take (i := 9) (v := ?_) rfl (by kernel_rfl) (by decide +kernel) (by decide +kernel) (fun _ _ _ h => h) (Or.inl ⟨by rfl, ?_⟩) (by assumption) ?_; rotate_left; (focus (intro w0 hSw; go_simp; (try with_reducible rfl); done)))
    (refine wpAnyH_take (i := 11) (v := ?_) rfl (by kernel_rfl) (by decide +kernel) (by decide +kernel) (fun _ _ _ h => h) (Or.inl ⟨by rfl, ?_⟩) (by assumption) ?_; rotate_left; (focus (intro w0 hSw; go_simp; (try with_reducible rfl); done)))
    try simp only [List.getElem_toArray, List.getElem_cons_zero, List.getElem_cons_succ, Act.put, List.setIfInBounds_toArray, List.set_cons_zero, List.set_cons_succ]
    refine wpAnyH_ready (rs := [10]) (by decide +kernel) (by simp) (AllReadyH.cons rfl (fun K hK => ?_) AllReadyH.nil)
    obtain ⟨ni, -, hmi⟩ := HL6.out.mi
    have hlk := hmi.look Tryz.underlying82 (zeroR _) (y := y) (by have := HY.out; omega)
    go_simp
    clear hlk hmi
    refine hK.out _ _ hs6 (fun hHeld1 => ?_)
    clear hK K hHeld0 
    try simp only [List.getElem_toArray, List.getElem_cons_zero, List.getElem_cons_succ, Act.put, List.setIfInBounds_toArray, List.set_cons_zero, List.set_cons_succ]
    refine wpAnyH_ready (rs := [12]) (by decide +kernel) (by simp) (AllReadyH.cons rfl (fun K hK => ?_) AllReadyH.nil)
    have hD := dele_any (w := v6) (bs := sel o x.pb y) (pb := x.pb) (HL6.out.rw y) (List.ne_nil_of_mem HSM.out) (fun c hc => sel_sub hc) HBM.out (HC6.out.cell (k := 0) rfl) (fun e => Nat.lt_irrefl _ (HL.out _ (by rw [(HH.out.ra y _ e).1]; simp))) (fun c hc => ⟨_, HL6.out.all c hc⟩) (fun c hc e => by
      obtain ⟨xs, hx⟩ := HL6.out.all c hc
      exact hx.ne_row (HL6.out.rw y) (by decide) _ e rfl) (by have := HPS.out; have := sel_len o x.pb y; have := HH.out.pl; unfold maxLen; omega)
    go_simp
    refine hD.mono ?_
    rintro e v7 ⟨nv, rfl, h1, h3, h2⟩
    have hk7 : ∀ k, k < v6.heap.size → (x.fi y).ownBlock ≠ some k → v7.heap[k]? = v6.heap[k]? := fun k a b => h2.block k a (Ne.symm b)
    have hoX : v7.heap[x.b]? = v6.heap[x.b]? := hk7 _ HL6.out.ring.ob.lt fun e => HL6.out.ring.ob.ne_row (HL6.out.rw y) (by decide) _ e rfl
    have hmX : ∃ ni, ni + o.ps.length ≤ 2 * n ∧ MapI v7 x.im ni (.slice none 0 0) x.fi := by
      obtain ⟨ni, e1, e2⟩ := HL6.out.mi
      obtain ⟨es, c, hes⟩ := e2.isMap
      exact ⟨ni, e1, e2.fr (hk7 _ e2.lt (row_ne_map (HL6.out.rw y) hes))⟩
    have hs7 : (fun w' : World => w'.cell? ⟨x.b, 16, none⟩ = some (.map (some x.im))) v7 := (HL6.out.ring.ob.fr hoX).cell (k := 16) rfl
    have HR7 := Lib.hid h1
    have HG7 := Lib.hid h2
    have HV7 := Lib.hid h3
    have HMX := Lib.hid hmX
    clear h1 h2 h3 hk7 hoX hmX hD
    refine hK.out _ _ hs7 (fun hHeld2 => ?_)
    clear hK K hHeld1 
    try simp only [List.getElem_toArray, List.getElem_cons_zero, List.getElem_cons_succ, Act.put, List.setIfInBounds_toArray, List.set_cons_zero, List.set_cons_succ]
    refine wpAnyH_ready (rs := [13]) (by decide +kernel) (by simp) (AllReadyH.cons rfl (fun K hK => ?_) AllReadyH.nil)
    obtain ⟨ni, hn1, hn2⟩ := HMX.out
    obtain ⟨es, ce, hes⟩ := hn2.isMap
    obtain ⟨v8, hr8, hm8, ht8⟩ := hn2.store Tryz.underlying82 (by have := HN.out; unfold maxLen; omega) (y := y) (by have := HY.out; omega) nv
    have HM8 : Hid (∃ ni, ni + o.ps.length ≤ 2 * n + 1 ∧ MapI v8 x.im ni (.slice none 0 0) (fun t => if t = y then nv else x.fi t)) := ⟨_, by omega, hm8⟩
    have HR8 : Hid (v8.ownsRow 0 79 1 nv ((sel o x.pb y).filter fun c => !decide (c = b0)).length (((sel o x.pb y).filter fun c => !decide (c = b0)).map pv)) := row_same HR7.out fun k e => ht8.grown.block _ (HR7.out.lt k e).2 (fun e2 => row_ne_map HR7.out hes (by rw [← Option.some.inj e2]; exact e))
    have HF8 : Hid (Fr (fun k => k < v6.heap.size ∧ k ≠ x.im ∧ (x.fi y).ownBlock ≠ some k) v6 v8) := (((Fr.refl _ v6).grown (fun k hk => hk.1) HG7.out fun k e hk => hk.2.2 e)).turned (fun hk => hk.2.1 rfl) ht8 fun k hk => hk.1
    have hs8 : (fun w' : World => w'.cell? ⟨x.b, 16, none⟩ = some (.map (some x.im))) v8 := by
      have h1 := HL6.out.ring.ob
      obtain ⟨mi, -, hmi⟩ := HL6.out.mi
      obtain ⟨es6, c6, hes6⟩ := hmi.isMap
      exact (h1.fr (HF8.out.block _ ⟨h1.lt, h1.ne_map hes6, fun e => h1.ne_row (HL6.out.rw y) (by decide) _ e rfl⟩)).cell (k := 16) rfl
    refine step_mapU rfl (.tmp 49) (.tmp 50) (.tmp 58) _ rfl v8 hr8 ?_
    clear hr8 hm8 ht8 hn1 hn2 hes HR7 HG7 HMX
    refine hK.out _ _ hs8 (fun hHeld3 => ?_)
    clear hK K hHeld2 
    try simp only [List.getElem_toArray, List.getElem_cons_zero, List.getElem_cons_succ, Act.put, List.setIfInBounds_toArray, List.set_cons_zero, List.set_cons_succ]
    refine wpAnyH_done (by kernel_rfl) ?_ _
    clear hHeld3
    go_wp2_with fail
    exact Go.Great.bodyPost_end0 rfl rfl ⟨rfl, HL6.out.indexed HH.out HL.out HP.out HPB.out HQ.out HM8.out HR8.out HV7.out HF8.out⟩
end
end Go.Proofs.YtcahijpbkjplmaaGreatDoor.G
