/-
  labelled, isLabel, isAstray.
-/
import Derived.Test.YtgehgccgologpaaZn
import Derived.Deep.LoopGhost
import Derived.Laws.ResultCell
namespace Go.Proofs.Ytgehgccgologpaa.Z
open Go.RowKit Go.Shelf Go.Proofs.Ytgehgccgologpaa Go.Proofs.Ytgehgccgologpaa.R Go.Proofs.Ytgehgccgologpaa.T

theorem oks_all' (l : List V) : V.oks l = l.all V.ok := by
  induction l with
  | nil => rfl
  | cons x r ih => simp only [V.oks, ih, List.all_cons]
theorem lbl_eq (v : V) : lbl v = if v.k = 38 then (match v.l with | [] => v | u :: _ => lbl u) else v := by
  cases v with
  | mk k nm n s ks l =>
    cases l with
    | nil =>
      rw [lbl]
      show _ = if k = 38 then _ else _
      split <;> rfl
    | cons u r =>
      rw [lbl]
      rfl
/-- a node is stored -/
def put6 (w : World) (g : Nat) (y : X) : World :=
  (((((w.setCell ⟨g, 0, none⟩ (.int .i64 y.k)).setCell ⟨g, 1, none⟩ (.string y.nm)).setCell ⟨g, 2, none⟩ (.int .i64 y.n)).setCell ⟨g, 3, none⟩ (.string y.s)).setCell ⟨g, 4, none⟩ (.slice y.ka y.kn y.kc)).setCell ⟨g, 5, none⟩ (.slice y.la y.ln y.lc)
theorem put6_size (w : World) (g : Nat) (y : X) : (put6 w g y).heap.size = w.heap.size := by unfold put6; simp [World.setCell]
theorem put6_other (w : World) (g : Nat) (y : X) (k : Nat) (hk : k ≠ g) : (put6 w g y).heap[k]? = w.heap[k]? := by
  unfold put6
  have h : ∀ (w : World) (j : Nat) (u : Value), (w.setCell ⟨g, j, none⟩ u).heap[k]? = w.heap[k]? := fun w j u => Below.heap_setCell w ⟨g, j, none⟩ u k hk
  rw [h, h, h, h, h, h]
theorem put6_below {B : Nat} {w0 w : World} (h : Below B w0 w) (g : Nat) (hg : B ≤ g) (y : X) : Below B w0 (put6 w g y) := by
  unfold put6
  exact (((((h.setCell (p := ⟨g, 0, none⟩) hg _).setCell (p := ⟨g, 1, none⟩) hg _).setCell (p := ⟨g, 2, none⟩) hg _).setCell (p := ⟨g, 3, none⟩) hg _).setCell (p := ⟨g, 4, none⟩) hg _).setCell (p := ⟨g, 5, none⟩) hg _
theorem set_ne (w : World) (g i j : Nat) (u : Value) (h : j ≠ i) : (w.setCell ⟨g, i, none⟩ u).cell? ⟨g, j, none⟩ = w.cell? ⟨g, j, none⟩ := World.cell?_setCell_other _ _ _ _ (by intro e; injection e with _ e; exact h (by first | exact e | exact e.symm))
theorem set_eq (w : World) (g i : Nat) (u u' : Value) (h : w.cell? ⟨g, i, none⟩ = some u') : (w.setCell ⟨g, i, none⟩ u).cell? ⟨g, i, none⟩ = some u := World.cell?_setCell_same _ _ _ h
theorem put6_at {w : World} {g : Nat} {x : X} (h : At w g 0 x) (y : X) : At (put6 w g y) g 0 y := by
  obtain ⟨c0, c1, c2, c3, c4, c5⟩ := h
  have e0 : (put6 w g y).cell? ⟨g, 0, none⟩ = some (.int .i64 y.k) := by
    unfold put6
    rw [set_ne _ g 5 0 _ (by decide), set_ne _ g 4 0 _ (by decide), set_ne _ g 3 0 _ (by decide), set_ne _ g 2 0 _ (by decide), set_ne _ g 1 0 _ (by decide)]
    exact set_eq _ g 0 _ _ (by exact c0)
  have e1 : (put6 w g y).cell? ⟨g, 1, none⟩ = some (.string y.nm) := by
    unfold put6
    rw [set_ne _ g 5 1 _ (by decide), set_ne _ g 4 1 _ (by decide), set_ne _ g 3 1 _ (by decide), set_ne _ g 2 1 _ (by decide)]
    exact set_eq _ g 1 _ _ (by rw [set_ne _ g 0 1 _ (by decide)]; exact c1)
  have e2 : (put6 w g y).cell? ⟨g, 2, none⟩ = some (.int .i64 y.n) := by
    unfold put6
    rw [set_ne _ g 5 2 _ (by decide), set_ne _ g 4 2 _ (by decide), set_ne _ g 3 2 _ (by decide)]
    exact set_eq _ g 2 _ _ (by rw [set_ne _ g 1 2 _ (by decide), set_ne _ g 0 2 _ (by decide)]; exact c2)
  have e3 : (put6 w g y).cell? ⟨g, 3, none⟩ = some (.string y.s) := by
    unfold put6
    rw [set_ne _ g 5 3 _ (by decide), set_ne _ g 4 3 _ (by decide)]
    exact set_eq _ g 3 _ _ (by rw [set_ne _ g 2 3 _ (by decide), set_ne _ g 1 3 _ (by decide), set_ne _ g 0 3 _ (by decide)]; exact c3)
  have e4 : (put6 w g y).cell? ⟨g, 4, none⟩ = some (.slice y.ka y.kn y.kc) := by
    unfold put6
    rw [set_ne _ g 5 4 _ (by decide)]
    exact set_eq _ g 4 _ _ (by rw [set_ne _ g 3 4 _ (by decide), set_ne _ g 2 4 _ (by decide), set_ne _ g 1 4 _ (by decide), set_ne _ g 0 4 _ (by decide)]; exact c4)
  have e5 : (put6 w g y).cell? ⟨g, 5, none⟩ = some (.slice y.la y.ln y.lc) := by
    unfold put6
    exact set_eq _ g 5 _ _ (by rw [set_ne _ g 4 5 _ (by decide), set_ne _ g 3 5 _ (by decide), set_ne _ g 2 5 _ (by decide), set_ne _ g 1 5 _ (by decide), set_ne _ g 0 5 _ (by decide)]; exact c5)
  exact ⟨e0, e1, e2, e3, e4, e5⟩
theorem put6_frozen (w : World) (g : Nat) (y : X) (a : Addr) : (put6 w g y).frozen? a = w.frozen? a := by unfold put6; simp
/-- a block of one node that the call owns -/
structure Nd (w : World) (g : Nat) (y : X) : Prop where
  at' : At w g 0 y
  fz : ∀ j, w.frozen? ⟨g, j, none⟩ = false
theorem nd_new (w : World) (y : X) : Nd (w.alloc (.cells y.cells 25)) w.heap.size y := ⟨at_new w y, fun j => by simp⟩
theorem Nd.low {w w' : World} {g : Nat} {y : X} (h : Nd w g y) (hg : g < w.heap.size) (hb : Below w.heap.size w w') : Nd w' g y := ⟨h.at'.below hg hb, fun j => (hb.frozen (p := ⟨g, j, none⟩) hg).trans (h.fz j)⟩
theorem Nd.put {w : World} {g : Nat} {x : X} (h : Nd w g x) (y : X) : Nd (put6 w g y) g y := ⟨put6_at h.at' y, fun j => by rw [put6_frozen]; exact h.fz j⟩
theorem Nd.other {w : World} {g g' : Nat} {x : X} (h : Nd w g x) (y : X) (hg : g ≠ g') : Nd (put6 w g' y) g x := by
  have hb := put6_other w g' y g hg
  have hk : ∀ j, (put6 w g' y).cell? ⟨g, j, none⟩ = w.cell? ⟨g, j, none⟩ := fun j => World.cell?_of_block (a := ⟨g, j, none⟩) hb
  exact ⟨⟨(hk _).trans h.at'.c0, (hk _).trans h.at'.c1, (hk _).trans h.at'.c2, (hk _).trans h.at'.c3, (hk _).trans h.at'.c4, (hk _).trans h.at'.c5⟩, fun j => by rw [put6_frozen]; exact h.fz j⟩
theorem Nd.lt {w : World} {g : Nat} {x : X} (h : Nd w g x) : g < w.heap.size := by
  obtain ⟨u, hu, -⟩ := cells_of_cell h.at'.c0
  exact (Array.getElem?_eq_some_iff.1 hu).1
def X0 : X := ⟨0, ⟨#[]⟩, 0, ⟨#[]⟩, none, 0, 0, none, 0, 0⟩
set_option maxRecDepth 20000 in
set_option maxHeartbeats 2000000 in
theorem labelled_any (v : V) (x : X) (w : World) (hx : Is w v x) (hok : v.ok = true) (hb : v.bulk ≤ 4194304) :
    Calls Try.prog 53 #[x.v] w fun e w' => ∃ y, e = .returned y.v ∧ IsB w' w.heap.size (lbl v) y ∧ Below w.heap.size w w' := by
  have HI := Lib.hid hx
  have HOK := Lib.hid hok
  have HBK := Lib.hid hb
  have HST : Hid (∃ W0, (w.alloc (.cells x.cells 25)).alloc (.cells X0.cells 25) = W0 ∧ Nd W0 w.heap.size x ∧ Nd W0 (w.heap.size + 1) X0 ∧ Below w.heap.size w W0) := by
    have h1 := nd_new w x
    have hb1 := below_alloc w (.cells x.cells 25)
    have hz1 : (w.alloc (.cells x.cells 25)).heap.size = w.heap.size + 1 := by simp
    generalize w.alloc (.cells x.cells 25) = w1 at *
    have h2 := nd_new w1 X0
    have hb2 := below_alloc w1 (.cells X0.cells 25)
    rw [hz1] at h2
    exact ⟨_, rfl, h1.low h1.lt hb2, h2, hb1.trans (hb2.mono (by omega))⟩
  obtain ⟨xk, xnm, xn, xs, xka, xkn, xkc, xla, xln, xlc⟩ := x
  simp only [X.v]
  clear hx hok hb
  go_enter Try.func53, Try.ntmps53
  go_wp2_with fail
  obtain ⟨W0, hW0, hn1, hn2, hbl⟩ := HST.out
  simp only [X.cells, X0] at hW0
  rw [hW0]
  have HN1 := Lib.hid hn1
  have HN2 := Lib.hid hn2
  have HBL := Lib.hid hbl
  clear hn1 hn2 hbl hW0 HST
  go_loopg [] v.size (fun q wr => ∃ (u : V) (y : X), Hid (Nd wr w.heap.size y) ∧ Hid (Nd wr (w.heap.size + 1) X0) ∧ Hid (Below w.heap.size w wr) ∧ Hid (IsB wr w.heap.size u y) ∧ Hid (lbl u = lbl v) ∧ Hid (u.ok = true ∧ u.bulk ≤ 4194304) ∧ u.size ≤ q)
  case atStart =>
    exact ⟨v, _, HN1, HN2, HBL, Lib.hid (IsB.to HBL.out (Nat.le_refl _) _ _ HI.out), Lib.hid rfl, Lib.hid ⟨HOK.out, HBK.out⟩, Nat.le_refl _⟩
  case round =>
    obtain ⟨u, y, h1, h2, h3, h4, h5, h6, h7⟩ := hrel
    obtain ⟨yka, ykc, yla, ylc, rfl, -, -, -, hrow⟩ := h4.out.open
    obtain ⟨c0, c1, c2, c3, c4, c5⟩ := h1.out.at'.six
    have hlb := lbl_eq u
    by_cases h38 : u.k = 38
    · obtain ⟨t, r, hl⟩ : ∃ t r, u.l = t :: r := by
        rcases h : u.l with _ | ⟨t, r⟩
        · have h1 := h6.out.1
          rw [ok_eq, Bool.and_eq_true] at h1
          have h2 := (Bool.and_eq_true _ _ ▸ h1.1 : fields (ctch u) u = true ∧ kids u = true).2
          rw [kids_38 h38, h] at h2
          simp [are] at h2
        · exact ⟨t, r, rfl⟩
      rw [if_pos h38, hl] at hlb
      obtain ⟨g, o, hA, hg, y, hat, hy⟩ := hrow.at_ (i := 0) (by rw [hl]; simp)
      have hu : u.l[0]'(by rw [hl]; simp) = t := by simp [hl]
      rw [hu] at hy
      rw [Nat.zero_mul, Nat.add_zero] at hat
      have hmem : t ∈ u.l := by rw [hl]; simp
      have HT : Hid (t.ok = true ∧ t.bulk ≤ 4194304 ∧ t.size < u.size) := by
        have h1 := h6.out.1
        rw [ok_eq, Bool.and_eq_true, oks_all', List.all_eq_true] at h1
        have h2 := bulk_le_of_mem hmem
        have h3 := bulk_parts u
        have h4 := h6.out.2
        refine ⟨h1.2 t hmem, by omega, ?_⟩
        rw [size_eq u, hl, V.sizes]
        omega
      obtain ⟨yka2, ykc2, yla2, ylc2, rfl, -, -, -, -⟩ := hy.open
      obtain ⟨d0, d1, d2, d3, d4, d5⟩ := hat.six
      have z0 := h1.out.fz 0
      have z1 := h1.out.fz 1
      have z2 := h1.out.fz 2
      have z3 := h1.out.fz 3
      have z4 := h1.out.fz 4
      have z5 := h1.out.fz 5
      have HY := Lib.hid hy
      have HLB : Hid (lbl t = lbl v) := by
        show lbl t = lbl v
        rw [← h5.out, hlb]
      have hn1 : 0 < u.l.length := by rw [hl]; simp
      have hlen : (u.l.length : Int) ≤ 4194304 := by have := bulk_parts u; have := length_le_bulks u.l; have := h6.out.2; omega
      have hn0 : (0 : Int) < (u.l.length : Int) := by omega
      have hbq := beqT h38
      have HP := Lib.hid (h1.out.put ⟨t.k, t.nm, t.n, t.s, yka2, t.ks.length, ykc2, yla2, t.l.length, ylc2⟩)
      have HP2 := Lib.hid (h2.out.other (g' := w.heap.size) ⟨t.k, t.nm, t.n, t.s, yka2, t.ks.length, ykc2, yla2, t.l.length, ylc2⟩ (by omega))
      have HPB := Lib.hid (put6_below h3.out w.heap.size (Nat.le_refl _) ⟨t.k, t.nm, t.n, t.s, yka2, t.ks.length, ykc2, yla2, t.l.length, ylc2⟩)
      have HPY := Lib.hid (hy.to (put6_below (Below.refl w.heap.size wr) w.heap.size (Nat.le_refl _) ⟨t.k, t.nm, t.n, t.s, yka2, t.ks.length, ykc2, yla2, t.l.length, ylc2⟩) (Nat.le_refl _))
      simp only [put6] at HP HP2 HPB HPY
      subst hA
      clear hlb hl hu hmem hy hat hrow hg
      go_wp2_with fail
      go_roundg t.size
      case measure => have := HT.out.2.2; omega
      case rel => exact ⟨t, _, HP, HP2, HPB, HPY, HLB, Lib.hid ⟨HT.out.1, HT.out.2.1⟩, Nat.le_refl _⟩
    · rw [if_neg h38] at hlb
      have hbq := beqF h38
      have HLB : Hid (lbl v = u) := by
        show lbl v = u
        rw [← h5.out, hlb]
      obtain ⟨r0, r1, r2, r3, r4, r5⟩ := h2.out.at'.six
      have z0 := h2.out.fz 0
      have z1 := h2.out.fz 1
      have z2 := h2.out.fz 2
      have z3 := h2.out.fz 3
      have z4 := h2.out.fz 4
      have z5 := h2.out.fz 5
      have HP := Lib.hid (h2.out.put ⟨u.k, u.nm, u.n, u.s, yka, u.ks.length, ykc, yla, u.l.length, ylc⟩)
      have HPB := Lib.hid (put6_below h3.out (w.heap.size + 1) (by omega) ⟨u.k, u.nm, u.n, u.s, yka, u.ks.length, ykc, yla, u.l.length, ylc⟩)
      have HPY := Lib.hid (h4.out.to (put6_below (Below.refl w.heap.size wr) (w.heap.size + 1) (by omega) ⟨u.k, u.nm, u.n, u.s, yka, u.ks.length, ykc, yla, u.l.length, ylc⟩) (Nat.le_refl _))
      clear h38 hlb h7 hrow
      go_wp2_with fail
      change bodyPost _ _ _ _ _ (put6 wr (w.heap.size + 1) ⟨u.k, u.nm, u.n, u.s, yka, u.ks.length, ykc, yla, u.l.length, ylc⟩)
      generalize put6 wr (w.heap.size + 1) ⟨u.k, u.nm, u.n, u.s, yka, u.ks.length, ykc, yla, u.l.length, ylc⟩ = W9 at *
      obtain ⟨q0, q1, q2, q3, q4, q5⟩ := HP.out.at'.six
      simp only [Nat.zero_add] at q1 q2 q3 q4 q5
      refine bodyPost_ret (v := .agg #[.int .i64 u.k, .string u.nm, .int .i64 u.n, .string u.s, .slice yka u.ks.length ykc, .slice yla u.l.length ylc]) (by simp [results, Try.f53, go_sem, q0, q1, q2, q3, q4, q5]) rfl ⟨⟨u.k, u.nm, u.n, u.s, yka, u.ks.length, ykc, yla, u.l.length, ylc⟩, rfl, ?_, HPB.out⟩
      rw [HLB.out]
      exact HPY.out
end Go.Proofs.Ytgehgccgologpaa.Z
