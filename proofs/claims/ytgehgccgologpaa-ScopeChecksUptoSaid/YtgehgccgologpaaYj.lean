/-
  The reference: within at a label; ScopeChecks's law. (gen_yj.py)
-/
import Derived.Test.YtgehgccgologpaaYg
import Derived.Test.YtgehgccgologpaaZo
import Derived.Deep.DeepCutAuto
namespace Go.Proofs.Ytgehgccgologpaa.Z
open Go.RowKit Go.Shelf Go.Proofs.Ytgehgccgologpaa Go.Proofs.Ytgehgccgologpaa.R Go.Proofs.Ytgehgccgologpaa.T

/-- the three blocks of within's own -/
structure WitC (w : World) (n c : Array Value) (W : World) : Prop where
  bl : Below w.heap.size w W
  n' : W.heap[w.heap.size]? = some (.cells n 25)
  r : W.heap[w.heap.size + 1]? = some (.cells c 46)
  q : W.heap[w.heap.size + 1 + 1]? = some (.cells #[.slice none 0 0, .slice none 0 0, .bool false, .bool false, .bool false] 46)
theorem WitC.of {w W : World} {n : Array Value} {a : Ar} {z : ArX} (h : Wit w n a z W) : WitC w n (z.cells a) W := ⟨h.bl, h.n', h.r, h.q⟩
theorem WitC.lt {w W : World} {n c : Array Value} (h : WitC w n c W) : w.heap.size + 1 + 1 < W.heap.size := (Array.getElem?_eq_some_iff.1 h.q).1
theorem WitC.low {w W W' : World} {n c : Array Value} (h : WitC w n c W) (hb : Below W.heap.size W W') : WitC w n c W' := by
  have hl := h.lt
  exact ⟨h.bl.trans (hb.mono (by omega)), (hb.block _ (by omega)).trans h.n', (hb.block _ (by omega)).trans h.r, (hb.block _ hl).trans h.q⟩
theorem set_row5 {w : World} {g : Nat} {a0 a1 a2 a3 a4 : Value} {t : TypeId} {fr : Nat × Nat} (h : w.heap[g]? = some (.cells #[a0, a1, a2, a3, a4] t fr)) (u : Value) :
    (w.setCell ⟨g, 0, none⟩ u).heap[g]? = some (.cells #[u, a1, a2, a3, a4] t fr) ∧ (w.setCell ⟨g, 1, none⟩ u).heap[g]? = some (.cells #[a0, u, a2, a3, a4] t fr) := by
  simp [World.setCell, Array.getElem?_modify, h]
theorem WitC.set {w W : World} {n : Array Value} {a0 a1 a2 a3 a4 : Value} (h : WitC w n #[a0, a1, a2, a3, a4] W) (u : Value) :
    WitC w n #[u, a1, a2, a3, a4] (W.setCell ⟨w.heap.size + 1, 0, none⟩ u) ∧ WitC w n #[a0, u, a2, a3, a4] (W.setCell ⟨w.heap.size + 1, 1, none⟩ u) :=
  ⟨⟨h.bl.setCell (p := ⟨w.heap.size + 1, 0, none⟩) (by show w.heap.size ≤ w.heap.size + 1; omega) _, (Below.heap_setCell _ ⟨w.heap.size + 1, 0, none⟩ _ _ (by show w.heap.size ≠ w.heap.size + 1; omega)).trans h.n', (set_row5 h.r u).1, (Below.heap_setCell _ ⟨w.heap.size + 1, 0, none⟩ _ _ (by show w.heap.size + 1 + 1 ≠ w.heap.size + 1; omega)).trans h.q⟩,
   ⟨h.bl.setCell (p := ⟨w.heap.size + 1, 1, none⟩) (by show w.heap.size ≤ w.heap.size + 1; omega) _, (Below.heap_setCell _ ⟨w.heap.size + 1, 1, none⟩ _ _ (by show w.heap.size ≠ w.heap.size + 1; omega)).trans h.n', (set_row5 h.r u).2, (Below.heap_setCell _ ⟨w.heap.size + 1, 1, none⟩ _ _ (by show w.heap.size + 1 + 1 ≠ w.heap.size + 1; omega)).trans h.q⟩⟩
theorem WitC.cells {w W : World} {n : Array Value} {a0 a1 a2 a3 a4 : Value} (h : WitC w n #[a0, a1, a2, a3, a4] W) :
    W.cell? ⟨w.heap.size + 1, 0, none⟩ = some a0 ∧ W.cell? ⟨w.heap.size + 1, 1, none⟩ = some a1 ∧ W.cell? ⟨w.heap.size + 1, 2, none⟩ = some a2 ∧ W.cell? ⟨w.heap.size + 1, 3, none⟩ = some a3 ∧ W.cell? ⟨w.heap.size + 1, 4, none⟩ = some a4 :=
  ⟨(cell_of_row W _ 0 _ _ _ h.r).trans rfl, (cell_of_row W _ 1 _ _ _ h.r).trans rfl, (cell_of_row W _ 2 _ _ _ h.r).trans rfl, (cell_of_row W _ 3 _ _ _ h.r).trans rfl, (cell_of_row W _ 4 _ _ _ h.r).trans rfl⟩
theorem WitC.ress {w W : World} {n c : Array Value} (h : WitC w n c W) :
    W.cell? ⟨w.heap.size + 1 + 1, 0, none⟩ = some (.slice none 0 0) ∧ W.cell? ⟨w.heap.size + 1 + 1, 1, none⟩ = some (.slice none 0 0) ∧ W.cell? ⟨w.heap.size + 1 + 1, 2, none⟩ = some (.bool false) ∧ W.cell? ⟨w.heap.size + 1 + 1, 3, none⟩ = some (.bool false) ∧ W.cell? ⟨w.heap.size + 1 + 1, 4, none⟩ = some (.bool false) :=
  ⟨(cell_of_row W _ 0 _ _ _ h.q).trans rfl, (cell_of_row W _ 1 _ _ _ h.q).trans rfl, (cell_of_row W _ 2 _ _ _ h.q).trans rfl, (cell_of_row W _ 3 _ _ _ h.q).trans rfl, (cell_of_row W _ 4 _ _ _ h.q).trans rfl⟩
theorem WitC.fz {w W : World} {n c : Array Value} (h : WitC w n c W) (j : Nat) : W.frozen? ⟨w.heap.size + 1, j, none⟩ = false ∧ W.frozen? ⟨w.heap.size + 1 + 1, j, none⟩ = false :=
  ⟨by simp [World.frozen?, h.r], by simp [World.frozen?, h.q]⟩
theorem OwnT.lower {w : World} {b b' : Nat} {v : Value} {L : List ByteArray} (h : OwnT w b v L) (hb : b' ≤ b) : OwnT w b' v L := ⟨h.1, h.2.imp id fun ⟨g, cap, cur, h1, h2, h3⟩ => ⟨g, cap, cur, h1, Nat.le_trans hb h2, h3⟩⟩
theorem OwnT.low {w w' : World} {b : Nat} {v : Value} {L : List ByteArray} (h : OwnT w b v L) (hb : Below w.heap.size w w') : OwnT w' b v L :=
  own_sameB h fun k hk => hb.block k (by obtain ⟨-, o, h1, -⟩ := h.cells hk; exact (Array.getElem?_eq_some_iff.1 h1).1)
theorem OwnT.set {w : World} {b : Nat} {v : Value} {L : List ByteArray} (h : OwnT w b v L) (p : Addr) (u : Value) (hp : p.block < b) : OwnT (w.setCell p u) b v L :=
  own_sameB h fun k hk => Below.heap_setCell _ _ _ _ (by have := (h.cells hk).1; omega)
/-- behind the append: below what lay there -/
theorem app_below {w W W' : World} {b : Nat} {nv : Value} {L : List ByteArray} (hb : Below b w W) (ho : OwnT W b nv L) (hg : W.grownBy W' nv.ownBlock) (hw : b ≤ W.heap.size) : Below b w W' :=
  hb.trans (grownN hg hw fun _ hk => (ho.cells hk).1)
/-- the end of a statement that stores a row of names into the box -/
theorem end0 {w v0 W : World} {n : Array Value} {a0 a1 a2 a3 a4 nv : Value} {L : List ByteArray} (hw : WitC w n #[a0, a1, a2, a3, a4] v0) (hb : Below v0.heap.size v0 W) (ho : OwnT W v0.heap.size nv L) :
    WitC w n #[nv, a1, a2, a3, a4] (W.setCell ⟨w.heap.size + 1, 0, none⟩ nv) ∧ OwnT (W.setCell ⟨w.heap.size + 1, 0, none⟩ nv) (w.heap.size + 1 + 1 + 1) nv L ∧ W.cell? ⟨w.heap.size + 1, 0, none⟩ = some a0 ∧ W.frozen? ⟨w.heap.size + 1, 0, none⟩ = false := by
  have hl := hw.lt
  have h2 := hw.low hb
  exact ⟨(h2.set nv).1, (ho.set _ _ (by show w.heap.size + 1 < v0.heap.size; omega)).lower (by omega), h2.cells.1, (h2.fz 0).1⟩
theorem end1 {w v0 W : World} {n : Array Value} {a0 a1 a2 a3 a4 nv : Value} {L : List ByteArray} (hw : WitC w n #[a0, a1, a2, a3, a4] v0) (hb : Below v0.heap.size v0 W) (ho : OwnT W v0.heap.size nv L) :
    WitC w n #[a0, nv, a2, a3, a4] (W.setCell ⟨w.heap.size + 1, 1, none⟩ nv) ∧ OwnT (W.setCell ⟨w.heap.size + 1, 1, none⟩ nv) (w.heap.size + 1 + 1 + 1) nv L ∧ W.cell? ⟨w.heap.size + 1, 1, none⟩ = some a1 ∧ W.frozen? ⟨w.heap.size + 1, 1, none⟩ = false := by
  have hl := hw.lt
  have h2 := hw.low hb
  exact ⟨(h2.set nv).2, (ho.set _ _ (by show w.heap.size + 1 < v0.heap.size; omega)).lower (by omega), h2.cells.2.1, (h2.fz 1).1⟩
theorem own_form {w : World} {b n c : Nat} {A : Option Addr} {L : List ByteArray} (h : OwnT w b (.slice A n c) L) : StrsB w w.heap.size A L ∧ L.length ≤ c := by
  obtain ⟨A', c', e, h1, h2⟩ := h.form
  injection e with e1 e2 e3
  subst e1 e3
  exact ⟨h2, h1⟩
/-- five stores into the result's block -/
theorem OwnT.set5 {w W : World} {v : Value} {L : List ByteArray} (h : OwnT W (w.heap.size + 1 + 1 + 1) v L) (b0 b1 b2 b3 b4 : Value) : OwnT (((((W.setCell ⟨w.heap.size + 1 + 1, 0, none⟩ b0).setCell ⟨w.heap.size + 1 + 1, 1, none⟩ b1).setCell ⟨w.heap.size + 1 + 1, 2, none⟩ b2).setCell ⟨w.heap.size + 1 + 1, 3, none⟩ b3).setCell ⟨w.heap.size + 1 + 1, 4, none⟩ b4) (w.heap.size + 1 + 1 + 1) v L :=
  ((((h.set _ _ (Nat.lt_succ_self _)).set _ _ (Nat.lt_succ_self _)).set _ _ (Nat.lt_succ_self _)).set _ _ (Nat.lt_succ_self _)).set _ _ (Nat.lt_succ_self _)
theorem lbl_no {u : V} (h : ¬ u.k = 38) : lbl u = u := by rw [lbl_eq, if_neg h]
set_option maxRecDepth 8000 in
set_option maxHeartbeats 4000000 in
theorem rwithin_38 (v : V) (x : X) (a : Ar) (z : ArX) (w : World) (hx : Is w v x) (ha : IsAr w w.heap.size a z) (hk : v.k = 38) (hbk : v.bulk ≤ 4194304) (hok : v.ok = true) (hlen : a.labels.length < 4194304) (hlen2 : a.loops.length < 4194304) :
    Calls Try.prog 55 #[x.v, z.v a] w fun e w' => ∃ z' : ArX, e = .returned (z'.v { a with labels := a.labels ++ [v.nm], loops := if isLp (lbl v) then a.loops ++ [v.nm] else a.loops }) ∧ IsAr w' w'.heap.size { a with labels := a.labels ++ [v.nm], loops := if isLp (lbl v) then a.loops ++ [v.nm] else a.loops } z' ∧ Below w.heap.size w w' := by
  obtain ⟨i5, hi5, hz5, hs5, hb5⟩ := info_parts infoAr
  obtain ⟨t, r, hl⟩ : ∃ t r, v.l = t :: r := by
    rcases h : v.l with _ | ⟨t, r⟩
    · have h1 := hok
      rw [ok_eq, Bool.and_eq_true] at h1
      have h2 := (Bool.and_eq_true _ _ ▸ h1.1 : fields (ctch v) v = true ∧ kids v = true).2
      rw [kids_38 hk, h] at h2
      simp [are] at h2
    · exact ⟨t, r, rfl⟩
  have HLBT : Hid (lbl t = lbl v) := by
    show lbl t = lbl v
    rw [lbl_eq v, if_pos hk, hl]
  have hmem : t ∈ v.l := by rw [hl]; simp
  have HT : Hid (t.ok = true ∧ t.bulk ≤ 4194304) := by
    have h1 := hok
    rw [ok_eq, Bool.and_eq_true, oks_all', List.all_eq_true] at h1
    have h2 := bulk_le_of_mem hmem
    have h3 := bulk_parts v
    exact ⟨h1.2 t hmem, by omega⟩
  have hn1 : 0 < v.l.length := by rw [hl]; simp
  have hvl : (v.l.length : Int) ≤ 4194304 := by have := bulk_parts v; have := length_le_bulks v.l; omega
  have hvl0 : (0 : Int) < (v.l.length : Int) := by omega
  have HLN := Lib.hid (And.intro hlen hlen2)
  obtain ⟨xka, xkc, xla, xlc, rfl, -, -, -, hrow⟩ := hx.open
  have HROW : Hid (∀ w', Below w.heap.size w w' → ∃ g o y, xla = some ⟨g, o, none⟩ ∧ At w' g o y ∧ IsB w' w.heap.size t y) := fun w' h => by
    obtain ⟨g, o, hA, hg, y, hat, hy⟩ := (RowB.to hrow h (Nat.le_refl _)).at_ (i := 0) (by rw [hl]; simp)
    have hu : v.l[0]'(by rw [hl]; simp) = t := by simp [hl]
    rw [hu] at hy
    rw [Nat.zero_mul, Nat.add_zero] at hat
    exact ⟨g, o, y, hA, hat, hy⟩
  have HL : Hid (∀ w', Calls Try.prog 74 #[X.v ⟨v.k, v.nm, v.n, v.s, xka, v.ks.length, xkc, xla, v.l.length, xlc⟩] w' (AnsB w' false)) := fun w' => by
    have := rLoop_x ⟨v.k, v.nm, v.n, v.s, xka, v.ks.length, xkc, xla, v.l.length, xlc⟩ w'
    rwa [show kLp (X.k ⟨v.k, v.nm, v.n, v.s, xka, v.ks.length, xkc, xla, v.l.length, xlc⟩) = false by show kLp v.k = false; rw [hk]; rfl] at this
  have HWI := Lib.hid fun n W => wit_new w n a z W
  have HAR := Lib.hid ha
  have HLE : Hid (a.labels.length ≤ 4194304) := by show _ ≤ _; omega
  have HLE2 : Hid (a.loops.length ≤ 4194304) := by show _ ≤ _; omega
  obtain ⟨lo, hlo⟩ : ∃ lo, (if isLp (lbl v) then a.loops ++ [v.nm] else a.loops) = lo := ⟨_, rfl⟩
  have HLO := Lib.hid hlo
  rw [hlo]
  simp only [X.v, ArX.v, ArX.cells] at HL HWI ⊢
  rw [hk] at HL ⊢
  clear hx ha hk hok hbk hlen hlen2 hrow hl hmem hlo hn1
  go_enter Try.func55, Try.ntmps55
  go_wp2_with fail
  refine (HL.out _).mono ?_
  rintro e w1 ⟨rfl, hb1⟩
  have HWC := Lib.hid (WitC.of (HWI.out _ _ hb1))
  have c0 : w1.cell? ⟨w.heap.size, 0, none⟩ = some (.int .i64 38) := (cell_of_row w1 _ 0 _ _ _ HWC.out.n').trans rfl
  clear hb1 HL HWI
  go_upto_region 9 with (fail)
  clear c0
  go_cut [] (fun wx => ∃ A1 c1, Hid (WitC w #[.int .i64 38, .string v.nm, .int .i64 v.n, .string v.s, .slice xka v.ks.length xkc, .slice xla v.l.length xlc] #[.slice A1 (a.labels.length + 1) c1, .slice z.pa a.loops.length z.pc, .bool a.loop, .bool a.breaks, .bool a.inside] wx ∧ OwnT wx (w.heap.size + 1 + 1 + 1) (.slice A1 (a.labels.length + 1) c1) (a.labels ++ [v.nm])))
  case first =>
    have HLL := HLE
    have hb := (Below.refl w1.heap.size w1).drew
    have HW := Lib.hid (HWC.out.low hb)
    have HST : Hid (∀ w', Below w1.drew.heap.size w1.drew w' → Strs w' (z.la) (a.labels)) := fun w' h => (HAR.out.to (HW.out.bl.trans (h.mono HW.out.bl.size)) (HW.out.bl.trans (h.mono HW.out.bl.size)).size).ls
    have HF : Hid (∀ w', Below w1.drew.heap.size w1.drew w' → w'.cell? ⟨w.heap.size, 1, none⟩ = some (.string v.nm) ∧ w'.cell? ⟨w.heap.size + 1, 0, none⟩ = some (.slice (z.la) (a.labels.length) (z.lc))) := fun w' h => by
      have h2 := HW.out.low h
      exact ⟨(cell_of_row w' _ 1 _ _ _ h2.n').trans rfl, h2.cells.1⟩
    have hF := HF.out _ (Below.refl _ _)
    clear hb
    refine wp_region_held_drew (S := fun w' => w'.cell? ⟨w.heap.size, 1, none⟩ = some (.string v.nm)) (by kernel_rfl) (by (try dsimp only); exact hF.1) (fun hHeld => ?_)
    clear hF
    iterate 3
      (first
        | (refine wpAnyH_take (i := 0) (v := ?_) rfl (by kernel_rfl) (by decide +kernel) (by decide +kernel) (fun _ _ _ h => h) (Or.inl ⟨by rfl, ?_⟩) (by assumption) ?_; rotate_left; (focus (intro w0 hSw; (try dsimp only at hSw); go_simp; (try with_reducible rfl); done)))
        | (refine wpAnyH_take (i := 3) (v := ?_) rfl (by kernel_rfl) (by decide +kernel) (by decide +kernel) (fun _ _ _ h => h) (Or.inl ⟨by rfl, ?_⟩) (by assumption) ?_; rotate_left; (focus (intro w0 hSw; (try dsimp only at hSw); go_simp; (try with_reducible rfl); done)))
        | (refine wpAnyH_take (i := 4) (v := ?_) rfl (by kernel_rfl) (by decide +kernel) (by decide +kernel) (fun _ _ _ h => h) (Or.inl ⟨by rfl, ?_⟩) (by assumption) ?_; rotate_left; (focus (intro w0 hSw; (try dsimp only at hSw); go_simp; (try with_reducible rfl); done)))
        )
    generalize w1.drew = v0 at *
    have HB0 := Lib.hid (Below.refl v0.heap.size v0)
    try simp only [List.getElem_toArray, List.getElem_cons_zero, List.getElem_cons_succ, Act.put, List.setIfInBounds_toArray, List.set_cons_zero, List.set_cons_succ]
    refine wpAnyH_ready (rs := [1, 5]) (by decide +kernel) (by simp) (AllReadyH.cons rfl (fun K hK => ?_) (AllReadyH.cons rfl (fun K hK => ?_) AllReadyH.nil))
    ·
      obtain ⟨q1, q2⟩ := HF.out _ HB0.out
      go_simp
      refine hK.out _ _ (HF.out _ HB0.out).1 (fun hHeld1 => ?_)
      clear hK K q1 q2
      try simp only [List.getElem_toArray, List.getElem_cons_zero, List.getElem_cons_succ, Act.put, List.setIfInBounds_toArray, List.set_cons_zero, List.set_cons_succ]
      refine wpAnyH_ready (rs := [2, 5]) (by decide +kernel) (by simp) (AllReadyH.cons rfl (fun K hK => ?_) (AllReadyH.cons rfl (fun K hK => ?_) AllReadyH.nil))
      ·
        refine step_copyS rfl (.const (.slice none 0 0)) (.tmp 31) rfl rfl (z.la) (a.labels.length) (z.lc) (a.labels) rfl rfl (HST.out _ HB0.out) HLL.out ?_
        intro nv v2 ho hg hn
        have HG : Hid (Below v0.heap.size v0 v2) := grownN hg (Nat.le_refl _) fun _ hk => by cases hk
        have HB2 := Lib.hid (HB0.out.trans (HG.out.mono HB0.out.size))
        have HO := Lib.hid (OwnT.lower ho HB0.out.size)
        clear ho hg hn
        refine hK.out _ _ (HF.out _ HB2.out).1 (fun hHeld2 => ?_)
        clear hK K
        try simp only [List.getElem_toArray, List.getElem_cons_zero, List.getElem_cons_succ, Act.put, List.setIfInBounds_toArray, List.set_cons_zero, List.set_cons_succ]
        refine wpAnyH_ready (rs := [5]) (by decide +kernel) (by simp) (AllReadyH.cons rfl (fun K hK => ?_) AllReadyH.nil)
        obtain ⟨q1, q2⟩ := HF.out _ HB2.out
        go_simp
        have HD := Lib.hid (below_alloc v2 (.cells #[.string v.nm] 9))
        have HB3 := Lib.hid (HB2.out.trans (HD.out.mono HB2.out.size))
        have HC : Hid ((v2.alloc (.cells #[.string v.nm] 9)).cell? ⟨v2.heap.size, 0, none⟩ = some (.string v.nm)) := by show _ = _; simp
        have HL : Hid (v2.heap.size < (v2.alloc (.cells #[.string v.nm] 9)).heap.size) := by show _ < _; simp
        have HO := Lib.hid (OwnT.low HO.out HD.out)
        refine hK.out _ _ (HF.out _ HB3.out).1 (fun hHeld3 => ?_)
        clear hK K q1 q2
        generalize v2.alloc (.cells #[.string v.nm] 9) = v3 at *
        try simp only [List.getElem_toArray, List.getElem_cons_zero, List.getElem_cons_succ, Act.put, List.setIfInBounds_toArray, List.set_cons_zero, List.set_cons_succ]
        refine wpAnyH_ready (rs := [6]) (by decide +kernel) (by simp) (AllReadyH.cons rfl (fun K hK => ?_) AllReadyH.nil)
        refine step_appS rfl (.tmp 32) (.tmp 35) rfl v0.heap.size nv _ rfl HO.out (v2.heap.size) v.nm rfl (by exact HC.out) HLL.out HB3.out.size ?_
        intro nv2 v4 ho hg hn
        have HB4 := Lib.hid (app_below HB3.out HO.out hg HB3.out.size)
        obtain ⟨B, e, rfl⟩ : ∃ B e, nv2 = .slice B ((a.labels).length + 1) e := by obtain ⟨B, e, h, -⟩ := ho.form; rw [List.length_append] at h; exact ⟨B, e, h⟩
        have HE := Lib.hid (end0 HW.out HB4.out ho)
        have HS : Hid ((v4.setCell ⟨w.heap.size + 1, 0, none⟩ (.slice B ((a.labels).length + 1) e)).cell? ⟨w.heap.size, 1, none⟩ = some (.string v.nm)) := (World.cell?_setCell_far _ _ _ _ (by show w.heap.size + 1 ≠ w.heap.size; omega)).trans (HF.out _ HB4.out).1
        clear ho hg hn
        refine hK.out _ _ (HF.out _ HB4.out).1 (fun hHeld4 => ?_)
        clear hK K
        try simp only [List.getElem_toArray, List.getElem_cons_zero, List.getElem_cons_succ, Act.put, List.setIfInBounds_toArray, List.set_cons_zero, List.set_cons_succ]
        (refine wpAnyH_take (i := 7) (v := ?_) rfl (by kernel_rfl) (by decide +kernel) (by decide +kernel) (fun _ _ _ h => h) (Or.inl ⟨by rfl, ?_⟩) (by assumption) ?_; rotate_left; (focus (intro w0 hSw; (try dsimp only at hSw); go_simp; (try with_reducible rfl); done)))
        try simp only [List.getElem_toArray, List.getElem_cons_zero, List.getElem_cons_succ, Act.put, List.setIfInBounds_toArray, List.set_cons_zero, List.set_cons_succ]
        refine wpAnyH_ready (rs := [8]) (by decide +kernel) (by simp) (AllReadyH.cons rfl (fun K hK => ?_) AllReadyH.nil)
        obtain ⟨-, -, q1, q2⟩ := HE.out
        go_simp
        refine hK.out _ _ HS.out (fun hHeld5 => ?_)
        clear hK K q1 q2
        try simp only [List.getElem_toArray, List.getElem_cons_zero, List.getElem_cons_succ, Act.put, List.setIfInBounds_toArray, List.set_cons_zero, List.set_cons_succ]
        refine wpAnyH_done (by kernel_rfl) ?_ _
        go_wp2_with fail
        go_meet
        exact ⟨_, _, Lib.hid ⟨HE.out.1, HE.out.2.1⟩⟩
      ·
        obtain ⟨q1, q2⟩ := HF.out _ HB0.out
        go_simp
        have HD := Lib.hid (below_alloc v0 (.cells #[.string v.nm] 9))
        have HB2 := Lib.hid (HB0.out.trans (HD.out.mono HB0.out.size))
        have HC : Hid ((v0.alloc (.cells #[.string v.nm] 9)).cell? ⟨v0.heap.size, 0, none⟩ = some (.string v.nm)) := by show _ = _; simp
        have HL : Hid (v0.heap.size < (v0.alloc (.cells #[.string v.nm] 9)).heap.size) := by show _ < _; simp
        refine hK.out _ _ (HF.out _ HB2.out).1 (fun hHeld2 => ?_)
        clear hK K q1 q2
        generalize v0.alloc (.cells #[.string v.nm] 9) = v2 at *
        try simp only [List.getElem_toArray, List.getElem_cons_zero, List.getElem_cons_succ, Act.put, List.setIfInBounds_toArray, List.set_cons_zero, List.set_cons_succ]
        refine wpAnyH_ready (rs := [2]) (by decide +kernel) (by simp) (AllReadyH.cons rfl (fun K hK => ?_) AllReadyH.nil)
        refine step_copyS rfl (.const (.slice none 0 0)) (.tmp 31) rfl rfl (z.la) (a.labels.length) (z.lc) (a.labels) rfl rfl (HST.out _ HB2.out) HLL.out ?_
        intro nv v3 ho hg hn
        have HG : Hid (Below v2.heap.size v2 v3) := grownN hg (Nat.le_refl _) fun _ hk => by cases hk
        have HB3 := Lib.hid (HB2.out.trans (HG.out.mono HB2.out.size))
        have HO := Lib.hid (OwnT.lower ho HB2.out.size)
        have HC2 := Lib.hid ((HG.out.cell (p := ⟨v0.heap.size, 0, none⟩) HL.out).trans HC.out)
        clear ho hg hn
        refine hK.out _ _ (HF.out _ HB3.out).1 (fun hHeld3 => ?_)
        clear hK K
        try simp only [List.getElem_toArray, List.getElem_cons_zero, List.getElem_cons_succ, Act.put, List.setIfInBounds_toArray, List.set_cons_zero, List.set_cons_succ]
        refine wpAnyH_ready (rs := [6]) (by decide +kernel) (by simp) (AllReadyH.cons rfl (fun K hK => ?_) AllReadyH.nil)
        refine step_appS rfl (.tmp 32) (.tmp 35) rfl v0.heap.size nv _ rfl HO.out (v0.heap.size) v.nm rfl (by exact HC2.out) HLL.out HB3.out.size ?_
        intro nv2 v4 ho hg hn
        have HB4 := Lib.hid (app_below HB3.out HO.out hg HB3.out.size)
        obtain ⟨B, e, rfl⟩ : ∃ B e, nv2 = .slice B ((a.labels).length + 1) e := by obtain ⟨B, e, h, -⟩ := ho.form; rw [List.length_append] at h; exact ⟨B, e, h⟩
        have HE := Lib.hid (end0 HW.out HB4.out ho)
        have HS : Hid ((v4.setCell ⟨w.heap.size + 1, 0, none⟩ (.slice B ((a.labels).length + 1) e)).cell? ⟨w.heap.size, 1, none⟩ = some (.string v.nm)) := (World.cell?_setCell_far _ _ _ _ (by show w.heap.size + 1 ≠ w.heap.size; omega)).trans (HF.out _ HB4.out).1
        clear ho hg hn
        refine hK.out _ _ (HF.out _ HB4.out).1 (fun hHeld4 => ?_)
        clear hK K
        try simp only [List.getElem_toArray, List.getElem_cons_zero, List.getElem_cons_succ, Act.put, List.setIfInBounds_toArray, List.set_cons_zero, List.set_cons_succ]
        (refine wpAnyH_take (i := 7) (v := ?_) rfl (by kernel_rfl) (by decide +kernel) (by decide +kernel) (fun _ _ _ h => h) (Or.inl ⟨by rfl, ?_⟩) (by assumption) ?_; rotate_left; (focus (intro w0 hSw; (try dsimp only at hSw); go_simp; (try with_reducible rfl); done)))
        try simp only [List.getElem_toArray, List.getElem_cons_zero, List.getElem_cons_succ, Act.put, List.setIfInBounds_toArray, List.set_cons_zero, List.set_cons_succ]
        refine wpAnyH_ready (rs := [8]) (by decide +kernel) (by simp) (AllReadyH.cons rfl (fun K hK => ?_) AllReadyH.nil)
        obtain ⟨-, -, q1, q2⟩ := HE.out
        go_simp
        refine hK.out _ _ HS.out (fun hHeld5 => ?_)
        clear hK K q1 q2
        try simp only [List.getElem_toArray, List.getElem_cons_zero, List.getElem_cons_succ, Act.put, List.setIfInBounds_toArray, List.set_cons_zero, List.set_cons_succ]
        refine wpAnyH_done (by kernel_rfl) ?_ _
        go_wp2_with fail
        go_meet
        exact ⟨_, _, Lib.hid ⟨HE.out.1, HE.out.2.1⟩⟩
    ·
      obtain ⟨q1, q2⟩ := HF.out _ HB0.out
      go_simp
      have HD := Lib.hid (below_alloc v0 (.cells #[.string v.nm] 9))
      have HB1 := Lib.hid (HB0.out.trans (HD.out.mono HB0.out.size))
      have HC : Hid ((v0.alloc (.cells #[.string v.nm] 9)).cell? ⟨v0.heap.size, 0, none⟩ = some (.string v.nm)) := by show _ = _; simp
      have HL : Hid (v0.heap.size < (v0.alloc (.cells #[.string v.nm] 9)).heap.size) := by show _ < _; simp
      refine hK.out _ _ (HF.out _ HB1.out).1 (fun hHeld1 => ?_)
      clear hK K q1 q2
      generalize v0.alloc (.cells #[.string v.nm] 9) = v1 at *
      try simp only [List.getElem_toArray, List.getElem_cons_zero, List.getElem_cons_succ, Act.put, List.setIfInBounds_toArray, List.set_cons_zero, List.set_cons_succ]
      refine wpAnyH_ready (rs := [1]) (by decide +kernel) (by simp) (AllReadyH.cons rfl (fun K hK => ?_) AllReadyH.nil)
      obtain ⟨q1, q2⟩ := HF.out _ HB1.out
      go_simp
      refine hK.out _ _ (HF.out _ HB1.out).1 (fun hHeld2 => ?_)
      clear hK K q1 q2
      try simp only [List.getElem_toArray, List.getElem_cons_zero, List.getElem_cons_succ, Act.put, List.setIfInBounds_toArray, List.set_cons_zero, List.set_cons_succ]
      refine wpAnyH_ready (rs := [2]) (by decide +kernel) (by simp) (AllReadyH.cons rfl (fun K hK => ?_) AllReadyH.nil)
      refine step_copyS rfl (.const (.slice none 0 0)) (.tmp 31) rfl rfl (z.la) (a.labels.length) (z.lc) (a.labels) rfl rfl (HST.out _ HB1.out) HLL.out ?_
      intro nv v3 ho hg hn
      have HG : Hid (Below v1.heap.size v1 v3) := grownN hg (Nat.le_refl _) fun _ hk => by cases hk
      have HB3 := Lib.hid (HB1.out.trans (HG.out.mono HB1.out.size))
      have HO := Lib.hid (OwnT.lower ho HB1.out.size)
      have HC2 := Lib.hid ((HG.out.cell (p := ⟨v0.heap.size, 0, none⟩) HL.out).trans HC.out)
      clear ho hg hn
      refine hK.out _ _ (HF.out _ HB3.out).1 (fun hHeld3 => ?_)
      clear hK K
      try simp only [List.getElem_toArray, List.getElem_cons_zero, List.getElem_cons_succ, Act.put, List.setIfInBounds_toArray, List.set_cons_zero, List.set_cons_succ]
      refine wpAnyH_ready (rs := [6]) (by decide +kernel) (by simp) (AllReadyH.cons rfl (fun K hK => ?_) AllReadyH.nil)
      refine step_appS rfl (.tmp 32) (.tmp 35) rfl v0.heap.size nv _ rfl HO.out (v0.heap.size) v.nm rfl (by exact HC2.out) HLL.out HB3.out.size ?_
      intro nv2 v4 ho hg hn
      have HB4 := Lib.hid (app_below HB3.out HO.out hg HB3.out.size)
      obtain ⟨B, e, rfl⟩ : ∃ B e, nv2 = .slice B ((a.labels).length + 1) e := by obtain ⟨B, e, h, -⟩ := ho.form; rw [List.length_append] at h; exact ⟨B, e, h⟩
      have HE := Lib.hid (end0 HW.out HB4.out ho)
      have HS : Hid ((v4.setCell ⟨w.heap.size + 1, 0, none⟩ (.slice B ((a.labels).length + 1) e)).cell? ⟨w.heap.size, 1, none⟩ = some (.string v.nm)) := (World.cell?_setCell_far _ _ _ _ (by show w.heap.size + 1 ≠ w.heap.size; omega)).trans (HF.out _ HB4.out).1
      clear ho hg hn
      refine hK.out _ _ (HF.out _ HB4.out).1 (fun hHeld4 => ?_)
      clear hK K
      try simp only [List.getElem_toArray, List.getElem_cons_zero, List.getElem_cons_succ, Act.put, List.setIfInBounds_toArray, List.set_cons_zero, List.set_cons_succ]
      (refine wpAnyH_take (i := 7) (v := ?_) rfl (by kernel_rfl) (by decide +kernel) (by decide +kernel) (fun _ _ _ h => h) (Or.inl ⟨by rfl, ?_⟩) (by assumption) ?_; rotate_left; (focus (intro w0 hSw; (try dsimp only at hSw); go_simp; (try with_reducible rfl); done)))
      try simp only [List.getElem_toArray, List.getElem_cons_zero, List.getElem_cons_succ, Act.put, List.setIfInBounds_toArray, List.set_cons_zero, List.set_cons_succ]
      refine wpAnyH_ready (rs := [8]) (by decide +kernel) (by simp) (AllReadyH.cons rfl (fun K hK => ?_) AllReadyH.nil)
      obtain ⟨-, -, q1, q2⟩ := HE.out
      go_simp
      refine hK.out _ _ HS.out (fun hHeld5 => ?_)
      clear hK K q1 q2
      try simp only [List.getElem_toArray, List.getElem_cons_zero, List.getElem_cons_succ, Act.put, List.setIfInBounds_toArray, List.set_cons_zero, List.set_cons_succ]
      refine wpAnyH_done (by kernel_rfl) ?_ _
      go_wp2_with fail
      go_meet
      exact ⟨_, _, Lib.hid ⟨HE.out.1, HE.out.2.1⟩⟩
  case rest =>
    obtain ⟨A1, c1, hcc⟩ := hcut
    have HWC := Lib.hid hcc.out.1
    have HOL := Lib.hid hcc.out.2
    clear hcc
    obtain ⟨g, o, y, rfl, hat, hy⟩ := HROW.out wc HWC.out.bl
    obtain ⟨yka, ykc, yla, ylc, rfl, -, -, -, -⟩ := hy.open
    obtain ⟨d0, d1, d2, d3, d4, d5⟩ := hat.six
    have c5 : wc.cell? ⟨w.heap.size, 5, none⟩ = some (.slice (some ⟨g, o, none⟩) v.l.length xlc) := (cell_of_row wc _ 5 _ _ _ HWC.out.n').trans rfl
    have HST : Hid (∃ W0, wc.alloc (.cells (X.cells ⟨t.k, t.nm, t.n, t.s, yka, t.ks.length, ykc, yla, t.l.length, ylc⟩) 25) = W0 ∧ Nd W0 wc.heap.size ⟨t.k, t.nm, t.n, t.s, yka, t.ks.length, ykc, yla, t.l.length, ylc⟩ ∧ Below wc.heap.size wc W0 ∧ IsB W0 w.heap.size t ⟨t.k, t.nm, t.n, t.s, yka, t.ks.length, ykc, yla, t.l.length, ylc⟩) := by
      have hbb := below_alloc wc (.cells (X.cells ⟨t.k, t.nm, t.n, t.s, yka, t.ks.length, ykc, yla, t.l.length, ylc⟩) 25)
      exact ⟨_, rfl, nd_new wc _, hbb, hy.to (hbb.mono HWC.out.bl.size) (Nat.le_refl _)⟩
    dsimp only [X.cells] at HST
    clear hat hy HROW
    go_wp2_with fail
    obtain ⟨W0, hW0, hnd, hbl, hiy⟩ := HST.out
    rw [hW0]
    have HN0 := Lib.hid hnd
    have HB0 := Lib.hid hbl
    have HI0 := Lib.hid hiy
    clear hW0 hnd hbl hiy HST d0 d1 d2 d3 d4 d5 c5
    go_loopg [] t.size (fun q wr => ∃ (u : V) (y : X), Hid (Nd wr wc.heap.size y) ∧ Hid (Below wc.heap.size wc wr) ∧ Hid (IsB wr w.heap.size u y) ∧ Hid (lbl u = lbl v) ∧ Hid (u.ok = true ∧ u.bulk ≤ 4194304) ∧ u.size ≤ q)
    case atStart => exact ⟨t, _, HN0, HB0, HI0, HLBT, HT, Nat.le_refl _⟩
    case round =>
      obtain ⟨u, y, h1, h3, h4, h5, h6, h7⟩ := hrel
      obtain ⟨yka, ykc, yla, ylc, rfl, -, -, -, hrow⟩ := h4.out.open
      obtain ⟨c0, c1', c2, c3, c4, c5⟩ := h1.out.at'.six
      by_cases h38 : u.k = 38
      · obtain ⟨t2, r2, hl⟩ : ∃ t r, u.l = t :: r := by
          rcases h : u.l with _ | ⟨t, r⟩
          · have h1 := h6.out.1
            rw [ok_eq, Bool.and_eq_true] at h1
            have h2 := (Bool.and_eq_true _ _ ▸ h1.1 : fields (ctch u) u = true ∧ kids u = true).2
            rw [kids_38 h38, h] at h2
            simp [are] at h2
          · exact ⟨t, r, rfl⟩
        have hlb := lbl_eq u
        rw [if_pos h38, hl] at hlb
        obtain ⟨g, o, hA, hg, y, hat, hy⟩ := hrow.at_ (i := 0) (by rw [hl]; simp)
        have hu : u.l[0]'(by rw [hl]; simp) = t2 := by simp [hl]
        rw [hu] at hy
        rw [Nat.zero_mul, Nat.add_zero] at hat
        have hmem : t2 ∈ u.l := by rw [hl]; simp
        have HT2 : Hid (t2.ok = true ∧ t2.bulk ≤ 4194304 ∧ t2.size < u.size) := by
          have h1 := h6.out.1
          rw [ok_eq, Bool.and_eq_true, oks_all', List.all_eq_true] at h1
          have h2 := bulk_le_of_mem hmem
          have h3 := bulk_parts u
          have h4 := h6.out.2
          refine ⟨h1.2 t2 hmem, by omega, ?_⟩
          rw [R.size_eq u, hl, V.sizes]
          omega
        obtain ⟨yka2, ykc2, yla2, ylc2, rfl, -, -, -, -⟩ := hy.open
        obtain ⟨d0, d1, d2, d3, d4, d5⟩ := hat.six
        have z0 := h1.out.fz 0
        have z1 := h1.out.fz 1
        have z2 := h1.out.fz 2
        have z3 := h1.out.fz 3
        have z4 := h1.out.fz 4
        have z5 := h1.out.fz 5
        have HLB : Hid (lbl t2 = lbl v) := by
          show lbl t2 = lbl v
          rw [← h5.out, hlb]
        have hn1 : 0 < u.l.length := by rw [hl]; simp
        have hlen : (u.l.length : Int) ≤ 4194304 := by have := bulk_parts u; have := length_le_bulks u.l; have := h6.out.2; omega
        have hn0 : (0 : Int) < (u.l.length : Int) := by omega
        have hbq := beqT h38
        have HP := Lib.hid (h1.out.put ⟨t2.k, t2.nm, t2.n, t2.s, yka2, t2.ks.length, ykc2, yla2, t2.l.length, ylc2⟩)
        have HPB := Lib.hid (put6_below h3.out wc.heap.size (Nat.le_refl _) ⟨t2.k, t2.nm, t2.n, t2.s, yka2, t2.ks.length, ykc2, yla2, t2.l.length, ylc2⟩)
        have HPY := Lib.hid (hy.to (put6_below (Below.refl w.heap.size wr) wc.heap.size HWC.out.bl.size ⟨t2.k, t2.nm, t2.n, t2.s, yka2, t2.ks.length, ykc2, yla2, t2.l.length, ylc2⟩) (Nat.le_refl _))
        simp only [put6] at HP HPB HPY
        subst hA
        clear hlb hl hu hmem hy hat hrow hg
        go_wp2_with fail
        go_roundg t2.size
        case measure => have := HT2.out.2.2; omega
        case rel => exact ⟨t2, _, HP, HPB, HPY, HLB, Lib.hid ⟨HT2.out.1, HT2.out.2.1⟩, Nat.le_refl _⟩
      · have hbq := beqF h38
        have HLB : Hid (isLp (lbl v) = kLp u.k) := by
          show isLp (lbl v) = kLp u.k
          rw [← h5.out, lbl_no h38]
          rfl
        have HLL2 := Lib.hid fun w' => rLoop_x ⟨u.k, u.nm, u.n, u.s, yka, u.ks.length, ykc, yla, u.l.length, ylc⟩ w'
        dsimp only [X.v] at HLL2
        have HWR := Lib.hid (HWC.out.low h3.out)
        have HOR := Lib.hid (HOL.out.low h3.out)
        clear HWC HOL h38 h7 hrow
        generalize kLp u.k = lp at *
        have HLP := HLB
        go_wp2_with fail
        refine (HLL2.out _).mono ?_
        rintro e w2 ⟨rfl, hb2⟩
        have HWC := Lib.hid (HWR.out.low hb2)
        have HOL := Lib.hid (HOR.out.low hb2)
        clear hb2 HWR HOR HLL2 c0 c1' c2 c3 c4 c5
        cases lp with
        | false =>
          have HLO2 : Hid (lo = a.loops) := by show lo = a.loops; rw [← HLO.out, HLP.out]; rfl
          obtain ⟨r0, r1, r2, r3, r4⟩ := HWC.out.cells
          obtain ⟨q0, q1, q2, q3, q4⟩ := HWC.out.ress
          have rf := fun j => (HWC.out.fz j).1
          have qf := fun j => (HWC.out.fz j).2
          go_wp2_with fail
          have HBF := (((((HWC.out.bl).setCell (p := ⟨w.heap.size + 1 + 1, 0, none⟩) (by show w.heap.size ≤ w.heap.size + 1 + 1; omega) (.slice A1 (a.labels.length + 1) c1)).setCell (p := ⟨w.heap.size + 1 + 1, 1, none⟩) (by show w.heap.size ≤ w.heap.size + 1 + 1; omega) (.slice z.pa (a.loops.length) z.pc)).setCell (p := ⟨w.heap.size + 1 + 1, 2, none⟩) (by show w.heap.size ≤ w.heap.size + 1 + 1; omega) (.bool a.loop)).setCell (p := ⟨w.heap.size + 1 + 1, 3, none⟩) (by show w.heap.size ≤ w.heap.size + 1 + 1; omega) (.bool a.breaks)).setCell (p := ⟨w.heap.size + 1 + 1, 4, none⟩) (by show w.heap.size ≤ w.heap.size + 1 + 1; omega) (.bool a.inside)
          refine bodyPost_ret (results_cell_row rfl _ _ (w.heap.size + 1 + 1) 46 _ (0, 0) _ rfl (set5_row HWC.out.q (.slice A1 (a.labels.length + 1) c1) (.slice z.pa (a.loops.length) z.pc) (.bool a.loop) (.bool a.breaks) (.bool a.inside)) Try.underlying46 rfl (by rw [hi5]; simp [hs5])) rfl ⟨⟨A1, c1, z.pa, z.pc⟩, ?_, ?_, HBF⟩
          · rw [HLO2.out]; simp
          · obtain ⟨g1, g2⟩ := own_form (HOL.out.set5 (.slice A1 (a.labels.length + 1) c1) (.slice z.pa (a.loops.length) z.pc) (.bool a.loop) (.bool a.breaks) (.bool a.inside))
            obtain ⟨g3, g4⟩ : StrsB _ _ z.pa a.loops ∧ a.loops.length ≤ z.pc := ⟨(HAR.out.to HBF HBF.size).ps, HAR.out.pc⟩
            rw [HLO2.out]
            have hl1 := HLN.out.1
            have hl2 := HLN.out.2
            exact ⟨g1, g2, g3, g4, by simp only [List.length_append, List.length_cons, List.length_nil]; omega, by show a.loops.length ≤ _; omega⟩
        | true =>
          have HLO2 : Hid (lo = a.loops ++ [v.nm]) := by show lo = a.loops ++ [v.nm]; rw [← HLO.out, HLP.out]; rfl
          have HLL := HLE2
          go_upto_region 14 with (fail)
          have hb := (Below.refl w2.heap.size w2).drew
          have HW := Lib.hid (HWC.out.low hb)
          have HOL := Lib.hid (HOL.out.low hb)
          have HST : Hid (∀ w', Below w2.drew.heap.size w2.drew w' → Strs w' (z.pa) (a.loops)) := fun w' h => (HAR.out.to (HW.out.bl.trans (h.mono HW.out.bl.size)) (HW.out.bl.trans (h.mono HW.out.bl.size)).size).ps
          have HF : Hid (∀ w', Below w2.drew.heap.size w2.drew w' → w'.cell? ⟨w.heap.size, 1, none⟩ = some (.string v.nm) ∧ w'.cell? ⟨w.heap.size + 1, 1, none⟩ = some (.slice (z.pa) (a.loops.length) (z.pc))) := fun w' h => by
            have h2 := HW.out.low h
            exact ⟨(cell_of_row w' _ 1 _ _ _ h2.n').trans rfl, h2.cells.2.1⟩
          have hF := HF.out _ (Below.refl _ _)
          clear hb
          refine wp_region_held_drew (S := fun w' => w'.cell? ⟨w.heap.size, 1, none⟩ = some (.string v.nm)) (by kernel_rfl) (by (try dsimp only); exact hF.1) (fun hHeld => ?_)
          clear hF
          iterate 3
            (first
              | (refine wpAnyH_take (i := 0) (v := ?_) rfl (by kernel_rfl) (by decide +kernel) (by decide +kernel) (fun _ _ _ h => h) (Or.inl ⟨by rfl, ?_⟩) (by assumption) ?_; rotate_left; (focus (intro w0 hSw; (try dsimp only at hSw); go_simp; (try with_reducible rfl); done)))
              | (refine wpAnyH_take (i := 3) (v := ?_) rfl (by kernel_rfl) (by decide +kernel) (by decide +kernel) (fun _ _ _ h => h) (Or.inl ⟨by rfl, ?_⟩) (by assumption) ?_; rotate_left; (focus (intro w0 hSw; (try dsimp only at hSw); go_simp; (try with_reducible rfl); done)))
              | (refine wpAnyH_take (i := 4) (v := ?_) rfl (by kernel_rfl) (by decide +kernel) (by decide +kernel) (fun _ _ _ h => h) (Or.inl ⟨by rfl, ?_⟩) (by assumption) ?_; rotate_left; (focus (intro w0 hSw; (try dsimp only at hSw); go_simp; (try with_reducible rfl); done)))
              )
          generalize w2.drew = v0 at *
          have HB0 := Lib.hid (Below.refl v0.heap.size v0)
          try simp only [List.getElem_toArray, List.getElem_cons_zero, List.getElem_cons_succ, Act.put, List.setIfInBounds_toArray, List.set_cons_zero, List.set_cons_succ]
          refine wpAnyH_ready (rs := [1, 5]) (by decide +kernel) (by simp) (AllReadyH.cons rfl (fun K hK => ?_) (AllReadyH.cons rfl (fun K hK => ?_) AllReadyH.nil))
          ·
            obtain ⟨q1, q2⟩ := HF.out _ HB0.out
            go_simp
            refine hK.out _ _ (HF.out _ HB0.out).1 (fun hHeld1 => ?_)
            clear hK K q1 q2
            try simp only [List.getElem_toArray, List.getElem_cons_zero, List.getElem_cons_succ, Act.put, List.setIfInBounds_toArray, List.set_cons_zero, List.set_cons_succ]
            refine wpAnyH_ready (rs := [2, 5]) (by decide +kernel) (by simp) (AllReadyH.cons rfl (fun K hK => ?_) (AllReadyH.cons rfl (fun K hK => ?_) AllReadyH.nil))
            ·
              refine step_copyS rfl (.const (.slice none 0 0)) (.tmp 52) rfl rfl (z.pa) (a.loops.length) (z.pc) (a.loops) rfl rfl (HST.out _ HB0.out) HLL.out ?_
              intro nv v2 ho hg hn
              have HG : Hid (Below v0.heap.size v0 v2) := grownN hg (Nat.le_refl _) fun _ hk => by cases hk
              have HB2 := Lib.hid (HB0.out.trans (HG.out.mono HB0.out.size))
              have HO := Lib.hid (OwnT.lower ho HB0.out.size)
              clear ho hg hn
              refine hK.out _ _ (HF.out _ HB2.out).1 (fun hHeld2 => ?_)
              clear hK K
              try simp only [List.getElem_toArray, List.getElem_cons_zero, List.getElem_cons_succ, Act.put, List.setIfInBounds_toArray, List.set_cons_zero, List.set_cons_succ]
              refine wpAnyH_ready (rs := [5]) (by decide +kernel) (by simp) (AllReadyH.cons rfl (fun K hK => ?_) AllReadyH.nil)
              obtain ⟨q1, q2⟩ := HF.out _ HB2.out
              go_simp
              have HD := Lib.hid (below_alloc v2 (.cells #[.string v.nm] 9))
              have HB3 := Lib.hid (HB2.out.trans (HD.out.mono HB2.out.size))
              have HC : Hid ((v2.alloc (.cells #[.string v.nm] 9)).cell? ⟨v2.heap.size, 0, none⟩ = some (.string v.nm)) := by show _ = _; simp
              have HL : Hid (v2.heap.size < (v2.alloc (.cells #[.string v.nm] 9)).heap.size) := by show _ < _; simp
              have HO := Lib.hid (OwnT.low HO.out HD.out)
              refine hK.out _ _ (HF.out _ HB3.out).1 (fun hHeld3 => ?_)
              clear hK K q1 q2
              generalize v2.alloc (.cells #[.string v.nm] 9) = v3 at *
              try simp only [List.getElem_toArray, List.getElem_cons_zero, List.getElem_cons_succ, Act.put, List.setIfInBounds_toArray, List.set_cons_zero, List.set_cons_succ]
              refine wpAnyH_ready (rs := [6]) (by decide +kernel) (by simp) (AllReadyH.cons rfl (fun K hK => ?_) AllReadyH.nil)
              refine step_appS rfl (.tmp 53) (.tmp 56) rfl v0.heap.size nv _ rfl HO.out (v2.heap.size) v.nm rfl (by exact HC.out) HLL.out HB3.out.size ?_
              intro nv2 v4 ho hg hn
              have HB4 := Lib.hid (app_below HB3.out HO.out hg HB3.out.size)
              obtain ⟨B, e, rfl⟩ : ∃ B e, nv2 = .slice B ((a.loops).length + 1) e := by obtain ⟨B, e, h, -⟩ := ho.form; rw [List.length_append] at h; exact ⟨B, e, h⟩
              have HEL : Hid (OwnT (v4.setCell ⟨w.heap.size + 1, 1, none⟩ (.slice B ((a.loops).length + 1) e)) (w.heap.size + 1 + 1 + 1) (.slice A1 (a.labels.length + 1) c1) (a.labels ++ [v.nm])) := (HOL.out.low HB4.out).set _ _ (by show w.heap.size + 1 < _; omega)
              have HE := Lib.hid (end1 HW.out HB4.out ho)
              have HS : Hid ((v4.setCell ⟨w.heap.size + 1, 1, none⟩ (.slice B ((a.loops).length + 1) e)).cell? ⟨w.heap.size, 1, none⟩ = some (.string v.nm)) := (World.cell?_setCell_far _ _ _ _ (by show w.heap.size + 1 ≠ w.heap.size; omega)).trans (HF.out _ HB4.out).1
              clear ho hg hn
              refine hK.out _ _ (HF.out _ HB4.out).1 (fun hHeld4 => ?_)
              clear hK K
              try simp only [List.getElem_toArray, List.getElem_cons_zero, List.getElem_cons_succ, Act.put, List.setIfInBounds_toArray, List.set_cons_zero, List.set_cons_succ]
              (refine wpAnyH_take (i := 7) (v := ?_) rfl (by kernel_rfl) (by decide +kernel) (by decide +kernel) (fun _ _ _ h => h) (Or.inl ⟨by rfl, ?_⟩) (by assumption) ?_; rotate_left; (focus (intro w0 hSw; (try dsimp only at hSw); go_simp; (try with_reducible rfl); done)))
              try simp only [List.getElem_toArray, List.getElem_cons_zero, List.getElem_cons_succ, Act.put, List.setIfInBounds_toArray, List.set_cons_zero, List.set_cons_succ]
              refine wpAnyH_ready (rs := [8]) (by decide +kernel) (by simp) (AllReadyH.cons rfl (fun K hK => ?_) AllReadyH.nil)
              obtain ⟨-, -, q1, q2⟩ := HE.out
              go_simp
              refine hK.out _ _ HS.out (fun hHeld5 => ?_)
              clear hK K q1 q2
              try simp only [List.getElem_toArray, List.getElem_cons_zero, List.getElem_cons_succ, Act.put, List.setIfInBounds_toArray, List.set_cons_zero, List.set_cons_succ]
              refine wpAnyH_done (by kernel_rfl) ?_ _
              have HWC := Lib.hid HE.out.1
              have HOL := Lib.hid HEL.out
              have HOP := Lib.hid HE.out.2.1
              clear HE HS HEL
              generalize v4.setCell ⟨w.heap.size + 1, 1, none⟩ (.slice B (a.loops.length + 1) e) = wd at *
              obtain ⟨r0, r1, r2, r3, r4⟩ := HWC.out.cells
              obtain ⟨q0, q1, q2, q3, q4⟩ := HWC.out.ress
              have rf := fun j => (HWC.out.fz j).1
              have qf := fun j => (HWC.out.fz j).2
              go_wp2_with fail
              have HBF := (((((HWC.out.bl).setCell (p := ⟨w.heap.size + 1 + 1, 0, none⟩) (by show w.heap.size ≤ w.heap.size + 1 + 1; omega) (.slice A1 (a.labels.length + 1) c1)).setCell (p := ⟨w.heap.size + 1 + 1, 1, none⟩) (by show w.heap.size ≤ w.heap.size + 1 + 1; omega) (.slice B (a.loops.length + 1) e)).setCell (p := ⟨w.heap.size + 1 + 1, 2, none⟩) (by show w.heap.size ≤ w.heap.size + 1 + 1; omega) (.bool a.loop)).setCell (p := ⟨w.heap.size + 1 + 1, 3, none⟩) (by show w.heap.size ≤ w.heap.size + 1 + 1; omega) (.bool a.breaks)).setCell (p := ⟨w.heap.size + 1 + 1, 4, none⟩) (by show w.heap.size ≤ w.heap.size + 1 + 1; omega) (.bool a.inside)
              refine bodyPost_ret (results_cell_row rfl _ _ (w.heap.size + 1 + 1) 46 _ (0, 0) _ rfl (set5_row HWC.out.q (.slice A1 (a.labels.length + 1) c1) (.slice B (a.loops.length + 1) e) (.bool a.loop) (.bool a.breaks) (.bool a.inside)) Try.underlying46 rfl (by rw [hi5]; simp [hs5])) rfl ⟨⟨A1, c1, B, e⟩, ?_, ?_, HBF⟩
              · rw [HLO2.out]; simp
              · obtain ⟨g1, g2⟩ := own_form (HOL.out.set5 (.slice A1 (a.labels.length + 1) c1) (.slice B (a.loops.length + 1) e) (.bool a.loop) (.bool a.breaks) (.bool a.inside))
                obtain ⟨g3, g4⟩ := own_form (HOP.out.set5 (.slice A1 (a.labels.length + 1) c1) (.slice B (a.loops.length + 1) e) (.bool a.loop) (.bool a.breaks) (.bool a.inside))
                rw [HLO2.out]
                have hl1 := HLN.out.1
                have hl2 := HLN.out.2
                exact ⟨g1, g2, g3, g4, by simp only [List.length_append, List.length_cons, List.length_nil]; omega, by simp only [List.length_append, List.length_cons, List.length_nil]; omega⟩
            ·
              obtain ⟨q1, q2⟩ := HF.out _ HB0.out
              go_simp
              have HD := Lib.hid (below_alloc v0 (.cells #[.string v.nm] 9))
              have HB2 := Lib.hid (HB0.out.trans (HD.out.mono HB0.out.size))
              have HC : Hid ((v0.alloc (.cells #[.string v.nm] 9)).cell? ⟨v0.heap.size, 0, none⟩ = some (.string v.nm)) := by show _ = _; simp
              have HL : Hid (v0.heap.size < (v0.alloc (.cells #[.string v.nm] 9)).heap.size) := by show _ < _; simp
              refine hK.out _ _ (HF.out _ HB2.out).1 (fun hHeld2 => ?_)
              clear hK K q1 q2
              generalize v0.alloc (.cells #[.string v.nm] 9) = v2 at *
              try simp only [List.getElem_toArray, List.getElem_cons_zero, List.getElem_cons_succ, Act.put, List.setIfInBounds_toArray, List.set_cons_zero, List.set_cons_succ]
              refine wpAnyH_ready (rs := [2]) (by decide +kernel) (by simp) (AllReadyH.cons rfl (fun K hK => ?_) AllReadyH.nil)
              refine step_copyS rfl (.const (.slice none 0 0)) (.tmp 52) rfl rfl (z.pa) (a.loops.length) (z.pc) (a.loops) rfl rfl (HST.out _ HB2.out) HLL.out ?_
              intro nv v3 ho hg hn
              have HG : Hid (Below v2.heap.size v2 v3) := grownN hg (Nat.le_refl _) fun _ hk => by cases hk
              have HB3 := Lib.hid (HB2.out.trans (HG.out.mono HB2.out.size))
              have HO := Lib.hid (OwnT.lower ho HB2.out.size)
              have HC2 := Lib.hid ((HG.out.cell (p := ⟨v0.heap.size, 0, none⟩) HL.out).trans HC.out)
              clear ho hg hn
              refine hK.out _ _ (HF.out _ HB3.out).1 (fun hHeld3 => ?_)
              clear hK K
              try simp only [List.getElem_toArray, List.getElem_cons_zero, List.getElem_cons_succ, Act.put, List.setIfInBounds_toArray, List.set_cons_zero, List.set_cons_succ]
              refine wpAnyH_ready (rs := [6]) (by decide +kernel) (by simp) (AllReadyH.cons rfl (fun K hK => ?_) AllReadyH.nil)
              refine step_appS rfl (.tmp 53) (.tmp 56) rfl v0.heap.size nv _ rfl HO.out (v0.heap.size) v.nm rfl (by exact HC2.out) HLL.out HB3.out.size ?_
              intro nv2 v4 ho hg hn
              have HB4 := Lib.hid (app_below HB3.out HO.out hg HB3.out.size)
              obtain ⟨B, e, rfl⟩ : ∃ B e, nv2 = .slice B ((a.loops).length + 1) e := by obtain ⟨B, e, h, -⟩ := ho.form; rw [List.length_append] at h; exact ⟨B, e, h⟩
              have HEL : Hid (OwnT (v4.setCell ⟨w.heap.size + 1, 1, none⟩ (.slice B ((a.loops).length + 1) e)) (w.heap.size + 1 + 1 + 1) (.slice A1 (a.labels.length + 1) c1) (a.labels ++ [v.nm])) := (HOL.out.low HB4.out).set _ _ (by show w.heap.size + 1 < _; omega)
              have HE := Lib.hid (end1 HW.out HB4.out ho)
              have HS : Hid ((v4.setCell ⟨w.heap.size + 1, 1, none⟩ (.slice B ((a.loops).length + 1) e)).cell? ⟨w.heap.size, 1, none⟩ = some (.string v.nm)) := (World.cell?_setCell_far _ _ _ _ (by show w.heap.size + 1 ≠ w.heap.size; omega)).trans (HF.out _ HB4.out).1
              clear ho hg hn
              refine hK.out _ _ (HF.out _ HB4.out).1 (fun hHeld4 => ?_)
              clear hK K
              try simp only [List.getElem_toArray, List.getElem_cons_zero, List.getElem_cons_succ, Act.put, List.setIfInBounds_toArray, List.set_cons_zero, List.set_cons_succ]
              (refine wpAnyH_take (i := 7) (v := ?_) rfl (by kernel_rfl) (by decide +kernel) (by decide +kernel) (fun _ _ _ h => h) (Or.inl ⟨by rfl, ?_⟩) (by assumption) ?_; rotate_left; (focus (intro w0 hSw; (try dsimp only at hSw); go_simp; (try with_reducible rfl); done)))
              try simp only [List.getElem_toArray, List.getElem_cons_zero, List.getElem_cons_succ, Act.put, List.setIfInBounds_toArray, List.set_cons_zero, List.set_cons_succ]
              refine wpAnyH_ready (rs := [8]) (by decide +kernel) (by simp) (AllReadyH.cons rfl (fun K hK => ?_) AllReadyH.nil)
              obtain ⟨-, -, q1, q2⟩ := HE.out
              go_simp
              refine hK.out _ _ HS.out (fun hHeld5 => ?_)
              clear hK K q1 q2
              try simp only [List.getElem_toArray, List.getElem_cons_zero, List.getElem_cons_succ, Act.put, List.setIfInBounds_toArray, List.set_cons_zero, List.set_cons_succ]
              refine wpAnyH_done (by kernel_rfl) ?_ _
              have HWC := Lib.hid HE.out.1
              have HOL := Lib.hid HEL.out
              have HOP := Lib.hid HE.out.2.1
              clear HE HS HEL
              generalize v4.setCell ⟨w.heap.size + 1, 1, none⟩ (.slice B (a.loops.length + 1) e) = wd at *
              obtain ⟨r0, r1, r2, r3, r4⟩ := HWC.out.cells
              obtain ⟨q0, q1, q2, q3, q4⟩ := HWC.out.ress
              have rf := fun j => (HWC.out.fz j).1
              have qf := fun j => (HWC.out.fz j).2
              go_wp2_with fail
              have HBF := (((((HWC.out.bl).setCell (p := ⟨w.heap.size + 1 + 1, 0, none⟩) (by show w.heap.size ≤ w.heap.size + 1 + 1; omega) (.slice A1 (a.labels.length + 1) c1)).setCell (p := ⟨w.heap.size + 1 + 1, 1, none⟩) (by show w.heap.size ≤ w.heap.size + 1 + 1; omega) (.slice B (a.loops.length + 1) e)).setCell (p := ⟨w.heap.size + 1 + 1, 2, none⟩) (by show w.heap.size ≤ w.heap.size + 1 + 1; omega) (.bool a.loop)).setCell (p := ⟨w.heap.size + 1 + 1, 3, none⟩) (by show w.heap.size ≤ w.heap.size + 1 + 1; omega) (.bool a.breaks)).setCell (p := ⟨w.heap.size + 1 + 1, 4, none⟩) (by show w.heap.size ≤ w.heap.size + 1 + 1; omega) (.bool a.inside)
              refine bodyPost_ret (results_cell_row rfl _ _ (w.heap.size + 1 + 1) 46 _ (0, 0) _ rfl (set5_row HWC.out.q (.slice A1 (a.labels.length + 1) c1) (.slice B (a.loops.length + 1) e) (.bool a.loop) (.bool a.breaks) (.bool a.inside)) Try.underlying46 rfl (by rw [hi5]; simp [hs5])) rfl ⟨⟨A1, c1, B, e⟩, ?_, ?_, HBF⟩
              · rw [HLO2.out]; simp
              · obtain ⟨g1, g2⟩ := own_form (HOL.out.set5 (.slice A1 (a.labels.length + 1) c1) (.slice B (a.loops.length + 1) e) (.bool a.loop) (.bool a.breaks) (.bool a.inside))
                obtain ⟨g3, g4⟩ := own_form (HOP.out.set5 (.slice A1 (a.labels.length + 1) c1) (.slice B (a.loops.length + 1) e) (.bool a.loop) (.bool a.breaks) (.bool a.inside))
                rw [HLO2.out]
                have hl1 := HLN.out.1
                have hl2 := HLN.out.2
                exact ⟨g1, g2, g3, g4, by simp only [List.length_append, List.length_cons, List.length_nil]; omega, by simp only [List.length_append, List.length_cons, List.length_nil]; omega⟩
          ·
            obtain ⟨q1, q2⟩ := HF.out _ HB0.out
            go_simp
            have HD := Lib.hid (below_alloc v0 (.cells #[.string v.nm] 9))
            have HB1 := Lib.hid (HB0.out.trans (HD.out.mono HB0.out.size))
            have HC : Hid ((v0.alloc (.cells #[.string v.nm] 9)).cell? ⟨v0.heap.size, 0, none⟩ = some (.string v.nm)) := by show _ = _; simp
            have HL : Hid (v0.heap.size < (v0.alloc (.cells #[.string v.nm] 9)).heap.size) := by show _ < _; simp
            refine hK.out _ _ (HF.out _ HB1.out).1 (fun hHeld1 => ?_)
            clear hK K q1 q2
            generalize v0.alloc (.cells #[.string v.nm] 9) = v1 at *
            try simp only [List.getElem_toArray, List.getElem_cons_zero, List.getElem_cons_succ, Act.put, List.setIfInBounds_toArray, List.set_cons_zero, List.set_cons_succ]
            refine wpAnyH_ready (rs := [1]) (by decide +kernel) (by simp) (AllReadyH.cons rfl (fun K hK => ?_) AllReadyH.nil)
            obtain ⟨q1, q2⟩ := HF.out _ HB1.out
            go_simp
            refine hK.out _ _ (HF.out _ HB1.out).1 (fun hHeld2 => ?_)
            clear hK K q1 q2
            try simp only [List.getElem_toArray, List.getElem_cons_zero, List.getElem_cons_succ, Act.put, List.setIfInBounds_toArray, List.set_cons_zero, List.set_cons_succ]
            refine wpAnyH_ready (rs := [2]) (by decide +kernel) (by simp) (AllReadyH.cons rfl (fun K hK => ?_) AllReadyH.nil)
            refine step_copyS rfl (.const (.slice none 0 0)) (.tmp 52) rfl rfl (z.pa) (a.loops.length) (z.pc) (a.loops) rfl rfl (HST.out _ HB1.out) HLL.out ?_
            intro nv v3 ho hg hn
            have HG : Hid (Below v1.heap.size v1 v3) := grownN hg (Nat.le_refl _) fun _ hk => by cases hk
            have HB3 := Lib.hid (HB1.out.trans (HG.out.mono HB1.out.size))
            have HO := Lib.hid (OwnT.lower ho HB1.out.size)
            have HC2 := Lib.hid ((HG.out.cell (p := ⟨v0.heap.size, 0, none⟩) HL.out).trans HC.out)
            clear ho hg hn
            refine hK.out _ _ (HF.out _ HB3.out).1 (fun hHeld3 => ?_)
            clear hK K
            try simp only [List.getElem_toArray, List.getElem_cons_zero, List.getElem_cons_succ, Act.put, List.setIfInBounds_toArray, List.set_cons_zero, List.set_cons_succ]
            refine wpAnyH_ready (rs := [6]) (by decide +kernel) (by simp) (AllReadyH.cons rfl (fun K hK => ?_) AllReadyH.nil)
            refine step_appS rfl (.tmp 53) (.tmp 56) rfl v0.heap.size nv _ rfl HO.out (v0.heap.size) v.nm rfl (by exact HC2.out) HLL.out HB3.out.size ?_
            intro nv2 v4 ho hg hn
            have HB4 := Lib.hid (app_below HB3.out HO.out hg HB3.out.size)
            obtain ⟨B, e, rfl⟩ : ∃ B e, nv2 = .slice B ((a.loops).length + 1) e := by obtain ⟨B, e, h, -⟩ := ho.form; rw [List.length_append] at h; exact ⟨B, e, h⟩
            have HEL : Hid (OwnT (v4.setCell ⟨w.heap.size + 1, 1, none⟩ (.slice B ((a.loops).length + 1) e)) (w.heap.size + 1 + 1 + 1) (.slice A1 (a.labels.length + 1) c1) (a.labels ++ [v.nm])) := (HOL.out.low HB4.out).set _ _ (by show w.heap.size + 1 < _; omega)
            have HE := Lib.hid (end1 HW.out HB4.out ho)
            have HS : Hid ((v4.setCell ⟨w.heap.size + 1, 1, none⟩ (.slice B ((a.loops).length + 1) e)).cell? ⟨w.heap.size, 1, none⟩ = some (.string v.nm)) := (World.cell?_setCell_far _ _ _ _ (by show w.heap.size + 1 ≠ w.heap.size; omega)).trans (HF.out _ HB4.out).1
            clear ho hg hn
            refine hK.out _ _ (HF.out _ HB4.out).1 (fun hHeld4 => ?_)
            clear hK K
            try simp only [List.getElem_toArray, List.getElem_cons_zero, List.getElem_cons_succ, Act.put, List.setIfInBounds_toArray, List.set_cons_zero, List.set_cons_succ]
            (refine wpAnyH_take (i := 7) (v := ?_) rfl (by kernel_rfl) (by decide +kernel) (by decide +kernel) (fun _ _ _ h => h) (Or.inl ⟨by rfl, ?_⟩) (by assumption) ?_; rotate_left; (focus (intro w0 hSw; (try dsimp only at hSw); go_simp; (try with_reducible rfl); done)))
            try simp only [List.getElem_toArray, List.getElem_cons_zero, List.getElem_cons_succ, Act.put, List.setIfInBounds_toArray, List.set_cons_zero, List.set_cons_succ]
            refine wpAnyH_ready (rs := [8]) (by decide +kernel) (by simp) (AllReadyH.cons rfl (fun K hK => ?_) AllReadyH.nil)
            obtain ⟨-, -, q1, q2⟩ := HE.out
            go_simp
            refine hK.out _ _ HS.out (fun hHeld5 => ?_)
            clear hK K q1 q2
            try simp only [List.getElem_toArray, List.getElem_cons_zero, List.getElem_cons_succ, Act.put, List.setIfInBounds_toArray, List.set_cons_zero, List.set_cons_succ]
            refine wpAnyH_done (by kernel_rfl) ?_ _
            have HWC := Lib.hid HE.out.1
            have HOL := Lib.hid HEL.out
            have HOP := Lib.hid HE.out.2.1
            clear HE HS HEL
            generalize v4.setCell ⟨w.heap.size + 1, 1, none⟩ (.slice B (a.loops.length + 1) e) = wd at *
            obtain ⟨r0, r1, r2, r3, r4⟩ := HWC.out.cells
            obtain ⟨q0, q1, q2, q3, q4⟩ := HWC.out.ress
            have rf := fun j => (HWC.out.fz j).1
            have qf := fun j => (HWC.out.fz j).2
            go_wp2_with fail
            have HBF := (((((HWC.out.bl).setCell (p := ⟨w.heap.size + 1 + 1, 0, none⟩) (by show w.heap.size ≤ w.heap.size + 1 + 1; omega) (.slice A1 (a.labels.length + 1) c1)).setCell (p := ⟨w.heap.size + 1 + 1, 1, none⟩) (by show w.heap.size ≤ w.heap.size + 1 + 1; omega) (.slice B (a.loops.length + 1) e)).setCell (p := ⟨w.heap.size + 1 + 1, 2, none⟩) (by show w.heap.size ≤ w.heap.size + 1 + 1; omega) (.bool a.loop)).setCell (p := ⟨w.heap.size + 1 + 1, 3, none⟩) (by show w.heap.size ≤ w.heap.size + 1 + 1; omega) (.bool a.breaks)).setCell (p := ⟨w.heap.size + 1 + 1, 4, none⟩) (by show w.heap.size ≤ w.heap.size + 1 + 1; omega) (.bool a.inside)
            refine bodyPost_ret (results_cell_row rfl _ _ (w.heap.size + 1 + 1) 46 _ (0, 0) _ rfl (set5_row HWC.out.q (.slice A1 (a.labels.length + 1) c1) (.slice B (a.loops.length + 1) e) (.bool a.loop) (.bool a.breaks) (.bool a.inside)) Try.underlying46 rfl (by rw [hi5]; simp [hs5])) rfl ⟨⟨A1, c1, B, e⟩, ?_, ?_, HBF⟩
            · rw [HLO2.out]; simp
            · obtain ⟨g1, g2⟩ := own_form (HOL.out.set5 (.slice A1 (a.labels.length + 1) c1) (.slice B (a.loops.length + 1) e) (.bool a.loop) (.bool a.breaks) (.bool a.inside))
              obtain ⟨g3, g4⟩ := own_form (HOP.out.set5 (.slice A1 (a.labels.length + 1) c1) (.slice B (a.loops.length + 1) e) (.bool a.loop) (.bool a.breaks) (.bool a.inside))
              rw [HLO2.out]
              have hl1 := HLN.out.1
              have hl2 := HLN.out.2
              exact ⟨g1, g2, g3, g4, by simp only [List.length_append, List.length_cons, List.length_nil]; omega, by simp only [List.length_append, List.length_cons, List.length_nil]; omega⟩
end Go.Proofs.Ytgehgccgologpaa.Z
