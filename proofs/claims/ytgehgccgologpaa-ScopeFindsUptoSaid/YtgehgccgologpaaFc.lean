/-
  detach: what a slice's nodes hang on becomes the call's own, list for list. (gen_fc.py)
-/
import Derived.Test.YtgehgccgologpaaFb
import Derived.Deep.RegionHeld3
import Derived.Deep.LoopGhost
namespace Go.Proofs.Ytgehgccgologpaa.Z
open Go.RowKit Go.Shelf Go.Proofs.Ytgehgccgologpaa Go.Proofs.Ytgehgccgologpaa.R Go.Proofs.Ytgehgccgologpaa.T

/-- a slice that is a list of the call's memory -/
def PcT (T : Ty) (p : Pc) (l : List V) : Prop := p.n = l.length ∧ p.n ≤ p.c ∧ (l = [] ∨ ∃ g, p.A = some ⟨g, 0, none⟩ ∧ T g = some l)
theorem PcT.mono {T T' : Ty} {p : Pc} {l : List V} (h : PcT T p l) (hT : ∀ n l, T n = some l → T' n = some l) : PcT T' p l := ⟨h.1, h.2.1, h.2.2.imp id fun ⟨g, h1, h2⟩ => ⟨g, h1, hT _ _ h2⟩⟩
/-- the lists that are to be gone through, and the memory -/
structure Dt (w : World) (lo : Nat) (T0 : Ty) (R : List (List V)) (lv : Value) (T : Ty) (K : Ky) (W : World) : Prop where
  hp : Hp W lo T K
  bl : Below lo w W
  lw : lo ≤ w.heap.size
  ex : ∀ n l, T0 n = some l → T n = some l
  rw : ∃ ps : List Pc, OwnS W lo lv ps ∧ ps.length = R.length ∧ ∀ q (_ : q < ps.length) (h2 : q < R.length), PcT T ps[q] R[q]
section
variable {w W : World} {lo : Nat} {T0 T : Ty} {K : Ky} {R : List (List V)} {lv : Value}
theorem Dt.le (h : Dt w lo T0 R lv T K W) : lo ≤ W.heap.size := Nat.le_trans h.lw h.bl.size
theorem Dt.el (h : Dt w lo T0 R lv T K W) {q : Nat} (hq : q < R.length) : ∃ g c A c', lv = .slice (some ⟨g, 0, none⟩) R.length c ∧ W.cell? ⟨g, q, none⟩ = some (.slice A R[q].length c') ∧ R[q].length ≤ c' ∧ (R[q] = [] ∨ ∃ m, A = some ⟨m, 0, none⟩ ∧ T m = some R[q]) ∧ Typ W g 23 := by
  obtain ⟨ps, h1, h2, h3⟩ := h.rw
  obtain ⟨k1, k2, k3⟩ := h3 q (by omega) hq
  have hcell := fun g hg => World.ownsRow.cells h1 (g := g) hg
  rcases h1.2 with ⟨rfl, h0⟩ | ⟨g, cap, cur, rfl, _, hg, _⟩
  · omega
  · have := hcell g rfl q (ps[q]'(by omega)).v (by rw [List.getElem?_map, List.getElem?_eq_getElem (by omega)]; rfl)
    rw [add_lit, Nat.zero_add] at this
    refine ⟨g, cap, (ps[q]'(by omega)).A, (ps[q]'(by omega)).c, by rw [h2], ?_, by omega, k3, cur, hg⟩
    rw [this]
    unfold Pc.v
    rw [k1]
theorem Dt.low (h : Dt w lo T0 R lv T K W) {W' : World} (hb : Below W.heap.size W W') : Dt w lo T0 R lv T K W' := by
  obtain ⟨ps, h1, h2, h3⟩ := h.rw
  exact ⟨h.hp.low h.le hb, h.bl.trans (hb.mono h.le), h.lw, h.ex, ps, own_sameB h1 fun k hk => hb.block k (World.ownsRow.lt h1 k hk).2, h2, h3⟩
/-- a node is made new -/
theorem Dt.step (h : Dt w lo T0 R lv T K W) {m j : Nat} {l : List V} (hm : T m = some l) (hj : j < l.length) {W' : World} (hb : Below W.heap.size W W') {ys : List X} {ka la : Option Addr} {kc lc : Nat} (hys : ys.length = l[j].l.length)
    (hey : ∀ i (h1 : i < ys.length) (h2 : i < l[j].l.length), Elem W lo T K l[j].l[i] ys[i]) (h1 : OwnT W' W.heap.size (.slice ka l[j].ks.length kc) l[j].ks) (h2 : OwnX W' W.heap.size (.slice la l[j].l.length lc) ys) :
    ∃ T' K', (∀ n l, T n = some l → T' n = some l) ∧ Dt w lo T0 R lv T' K' (putAt W' m (j * 6) ⟨l[j].k, l[j].nm, l[j].n, l[j].s, ka, l[j].ks.length, kc, la, l[j].l.length, lc⟩) ∧ PcT T' ⟨la, l[j].l.length, lc⟩ l[j].l := by
  obtain ⟨T', K', g1, g2, g3, g4⟩ := h.hp.grow h.le hb hys hey h1 h2
  have hm' := g1 _ _ hm
  obtain ⟨hlm, hty, _⟩ := g3.t m l hm'
  have hD := h.low hb
  obtain ⟨ps, o1, o2, o3⟩ := hD.rw
  obtain ⟨-, -, -, h5, h6⟩ := id g4
  refine ⟨T', K', g1, ⟨g3.put hm' hj g4, hD.bl.trans ((putAt_fr _ _ _ _).mono fun k (hk : k < lo) => by show k ≠ m; omega).below, h.lw, fun n l hn => g1 _ _ (h.ex n l hn), ps, own_sameB o1 fun k hk => putAt_heap _ _ _ _ _ ?_, o2, fun q a b => (o3 q a b).mono g1⟩, ⟨rfl, h5, h6⟩⟩
  obtain ⟨_, _ | ⟨g, cap, cur, rfl, _, hg, _⟩⟩ := o1
  · rename_i e
    rw [e.1] at hk
    cases hk
  · cases hk
    exact hty.ne ⟨cur, hg⟩ (by decide)
/-- a list more is to be gone through -/
theorem Dt.app (h : Dt w lo T0 R lv T K W) {W' : World} {lv' : Value} {A : Option Addr} {n c : Nat} {l : List V} (hp : PcT T ⟨A, n, c⟩ l) (hg : W.grownBy W' lv.ownBlock) {ps : List Pc} (hps : OwnS W lo lv ps) (hO : OwnS W' lo lv' (ps ++ [⟨A, n, c⟩]))
    (h2 : ps.length = R.length) (h3 : ∀ q (_ : q < ps.length) (h2 : q < R.length), PcT T ps[q] R[q]) : Dt w lo T0 (R ++ [l]) lv' T K W' := by
  have hf : Fr (FT lo T K) W W' := ⟨hg.os, hg.tape, hg.output, hg.size, fun k hk => hg.block k (h.hp.lt h.le k hk) fun e => by
    have hlt := (World.ownsRow.lt hps k e.symm).1
    obtain ⟨_, _ | ⟨g, cap, cur, rfl, _, hgc, _⟩⟩ := hps
    · rename_i e1
      rw [e1.1] at e
      cases e
    · cases e
      rcases hk with hk | hk | hk
      · omega
      · obtain ⟨l, hl⟩ := Option.ne_none_iff_exists'.1 hk
        exact (h.hp.t _ l hl).2.1.ne (e' := 23) ⟨cur, hgc⟩ (by decide) rfl
      · obtain ⟨l, hl⟩ := Option.ne_none_iff_exists'.1 hk
        exact (h.hp.k _ l hl).2.1.ne (e' := 23) ⟨cur, hgc⟩ (by decide) rfl⟩
  refine ⟨h.hp.fr hf, h.bl.trans (hf.mono fun k (hk : k < lo) => .inl hk).below, h.lw, h.ex, _, hO, by simp [h2], fun q a b => ?_⟩
  by_cases hq : q < R.length
  · rw [List.getElem_append_left (by omega), List.getElem_append_left hq]
    exact h3 q (by omega) hq
  · rw [List.length_append, List.length_singleton] at b
    have hqe : q = R.length := by omega
    rw [List.getElem_append_right (by omega), List.getElem_append_right (by omega)]
    simp only [h2, hqe, Nat.sub_self, List.getElem_cons_zero]
    exact hp
end
theorem szL_append : ∀ a b : List (List V), szL (a ++ b) = szL a + szL b
  | [], b => by simp [szL]
  | x :: r, b => by rw [List.cons_append, szL_cons, szL_cons, szL_append r b]; omega
theorem szL_cut {R : List (List V)} {k : Nat} (h : k < R.length) : szL (R.drop k) = V.sizes R[k] + szL (R.drop (k + 1)) := by rw [List.drop_eq_getElem_cons h, szL_cons]
theorem sizes_cut {l : List V} {j : Nat} (h : j < l.length) : V.sizes (l.drop j) = 1 + V.sizes l[j].l + V.sizes (l.drop (j + 1)) := by rw [List.drop_eq_getElem_cons h, sizes_cons]
/-- the box of a node that is made new: wr is the world ahead of it -/
structure Bx (wr : World) (y : X) (W : World) : Prop where
  bl : Below wr.heap.size wr W
  bx : W.heap[wr.heap.size]? = some (.cells y.cells 25)
section
variable {wr W : World} {y : X}
theorem Bx.new (wr : World) (y : X) : Bx wr y (wr.alloc (.cells y.cells 25)) := ⟨below_alloc _ _, World.alloc_heap_new _ _⟩
theorem Bx.lt (h : Bx wr y W) : wr.heap.size < W.heap.size := (Array.getElem?_eq_some_iff.1 h.bx).1
theorem Bx.at' (h : Bx wr y W) : At W wr.heap.size 0 y :=
  ⟨(cell_of_row W _ 0 _ _ _ h.bx).trans rfl, (cell_of_row W _ 1 _ _ _ h.bx).trans rfl, (cell_of_row W _ 2 _ _ _ h.bx).trans rfl, (cell_of_row W _ 3 _ _ _ h.bx).trans rfl, (cell_of_row W _ 4 _ _ _ h.bx).trans rfl, (cell_of_row W _ 5 _ _ _ h.bx).trans rfl⟩
theorem Bx.fz (h : Bx wr y W) (j : Nat) : W.frozen? ⟨wr.heap.size, j, none⟩ = false := by simp [World.frozen?, h.bx]
theorem Bx.low (h : Bx wr y W) {W' : World} (hb : Below W.heap.size W W') : Bx wr y W' := ⟨h.bl.trans (hb.mono h.bl.size), (hb.block _ h.lt).trans h.bx⟩
theorem Bx.far (h : Bx wr y W) (p : Addr) (u : Value) (hp : wr.heap.size < p.block) : Bx wr y (W.setCell p u) := ⟨h.bl.setCell (by omega) u, (Below.heap_setCell _ _ _ _ (by omega)).trans h.bx⟩
theorem Bx.set1 (h : Bx wr y W) : Bx wr y (W.setCell ⟨wr.heap.size, 1, none⟩ (.string y.nm)) := ⟨h.bl.setCell (p := ⟨wr.heap.size, 1, none⟩) (Nat.le_refl _) _, by
  have := h.bx
  cases y
  simp [World.setCell, Array.getElem?_modify, this, X.cells]⟩
theorem Bx.set3 (h : Bx wr y W) : Bx wr y (W.setCell ⟨wr.heap.size, 3, none⟩ (.string y.s)) := ⟨h.bl.setCell (p := ⟨wr.heap.size, 3, none⟩) (Nat.le_refl _) _, by
  have := h.bx
  cases y
  simp [World.setCell, Array.getElem?_modify, this, X.cells]⟩
theorem Bx.set4 (h : Bx wr y W) (A : Option Addr) (n c : Nat) : Bx wr { y with ka := A, kn := n, kc := c } (W.setCell ⟨wr.heap.size, 4, none⟩ (.slice A n c)) := ⟨h.bl.setCell (p := ⟨wr.heap.size, 4, none⟩) (Nat.le_refl _) _, by
  have := h.bx
  cases y
  simp [World.setCell, Array.getElem?_modify, this, X.cells]⟩
theorem Bx.set5 (h : Bx wr y W) (A : Option Addr) (n c : Nat) : Bx wr { y with la := A, ln := n, lc := c } (W.setCell ⟨wr.heap.size, 5, none⟩ (.slice A n c)) := ⟨h.bl.setCell (p := ⟨wr.heap.size, 5, none⟩) (Nat.le_refl _) _, by
  have := h.bx
  cases y
  simp [World.setCell, Array.getElem?_modify, this, X.cells]⟩
end
theorem box_at {w : World} {g : Nat} {y : X} (h : w.heap[g]? = some (.cells y.cells 25)) : At w g 0 y :=
  ⟨(cell_of_row w _ 0 _ _ _ h).trans rfl, (cell_of_row w _ 1 _ _ _ h).trans rfl, (cell_of_row w _ 2 _ _ _ h).trans rfl, (cell_of_row w _ 3 _ _ _ h).trans rfl, (cell_of_row w _ 4 _ _ _ h).trans rfl, (cell_of_row w _ 5 _ _ _ h).trans rfl⟩
theorem low_own {w w' : World} {B sz n : Nat} {e : TypeId} {v : Value} {xs : List Value} (h : w.ownsRow B e sz v n xs) (hb : Below w.heap.size w w') : w'.ownsRow B e sz v n xs := own_sameB h fun k hk => hb.block k (h.lt k hk).2
theorem set_own {w : World} {B sz n : Nat} {e : TypeId} {v : Value} {xs : List Value} (h : w.ownsRow B e sz v n xs) (p : Addr) (u : Value) (hp : p.block < B) : (w.setCell p u).ownsRow B e sz v n xs :=
  own_sameB h fun k hk => Below.heap_setCell _ _ _ _ (by have := (h.lt k hk).1; omega)
theorem lower_own {w : World} {B B' sz n : Nat} {e : TypeId} {v : Value} {xs : List Value} (h : w.ownsRow B e sz v n xs) (hB : B' ≤ B) : w.ownsRow B' e sz v n xs := ⟨h.1, h.2.imp id fun ⟨g, cap, cur, h1, h2, h3⟩ => ⟨g, cap, cur, h1, Nat.le_trans hB h2, h3⟩⟩
/-- a name stored where it lay -/
theorem same_own {w : World} {B n c g q : Nat} {L : List ByteArray} (h : OwnT w B (.slice (some ⟨g, 0, none⟩) n c) L) (hn : n = L.length) (hq : q < L.length) : OwnT (w.setCell ⟨g, q, none⟩ (.string L[q])) B (.slice (some ⟨g, 0, none⟩) n c) L := by
  subst hn
  have h' : w.ownsRow B 9 1 (.slice (some ⟨g, 0, none⟩) L.length c) L.length (strV L) := h
  have h2 := (World.ownsRow.stored h' q (.string L[q])).1
  have e : (strV L).set q (.string L[q]) = strV L := by
    apply List.ext_getElem?
    intro i
    rw [List.getElem?_set]
    split
    · rename_i e
      subst e
      simp [hq]
    · rfl
  rw [e] at h2
  exact h2
/-- append of one slice to a row of slices, in a plain statement -/
theorem app_pc {w : World} {ops : Array Oper} {rest : List Oper} {o : Oper} {a : Act} {Q : Exit → Act → World → Prop} (hgd : o.guard = none) (sl x : Operand)
    (ho : o.op = .call { callee := .builtin .append, args := #[sl, x], argTypes := #[60, 60] })
    (b : Nat) (v : Value) (ps : List Pc) (hs : a.eval sl = v) (hown : OwnS w b v ps) (g : Nat) (A : Option Addr) (n c : Nat) (hx : a.eval x = .slice (some ⟨g, 0, none⟩) 1 1) (hc : w.cell? ⟨g, 0, none⟩ = some (.slice A n c))
    (hlim : ps.length ≤ 8388608) (hb : b ≤ w.heap.size)
    (h : ∀ v' w', OwnS w' b v' (ps ++ [⟨A, n, c⟩]) → w.grownBy w' v.ownBlock → wpList Try.prog ops Q rest (a.put o.dst v') w') : wpList Try.prog ops Q (o :: rest) a w := by
  obtain ⟨i0, hi0, hz0, hz1, hz2⟩ := info_parts infoNs
  refine wpList_append_own_at w hgd sl x 60 ho b 23 i0 _ 1 24 (by kernel_rfl) hi0 hz0 hz1 hz2 rfl (by decide) v ps.length (vls ps) hs hown ⟨g, 0, none⟩ 1 1 [.slice A n c] hx rfl
    (fun j u hj => by
      match j with
      | 0 => rw [add_lit]; simp at hj; subst hj; exact hc
      | j + 1 => simp at hj) (fun u hu => by simp at hu; subst hu; rfl) (by unfold maxLen; omega) (by omega) hb fun v' w' h1 h2 _ _ => h v' w' ?_ h2
  show w'.ownsRow b 23 1 v' (ps ++ [Pc.mk A n c]).length (vls (ps ++ [Pc.mk A n c]))
  rw [List.length_append, vls, List.map_append]
  exact h1
set_option maxRecDepth 20000 in
set_option maxHeartbeats 8000000 in
theorem detach_any (lo : Nat) (fs : List V) (A : Option Addr) (n c : Nat) (T0 : Ty) (K0 : Ky) (w : World) (hn : n = fs.length) (hc : n ≤ c) (hp : Hp w lo T0 K0) (hlo : lo ≤ w.heap.size) (hA : fs = [] ∨ ∃ g, A = some ⟨g, 0, none⟩ ∧ T0 g = some fs) (hb : V.bulks fs ≤ 4194304) :
    Calls Try.prog 30 #[.slice A n c] w fun e w' => e = .returned (.tuple #[]) ∧ ∃ T K, (∀ n l, T0 n = some l → T n = some l) ∧ Hp w' lo T K ∧ Below lo w w' := by
  subst hn
  have HDT : Hid (Dt w lo T0 [fs] (.slice (some ⟨w.heap.size, 0, none⟩) 1 1) T0 K0 (w.alloc (.cells #[.slice A fs.length c] 23))) :=
    ⟨hp.low hlo (below_alloc _ _), (below_alloc _ _).mono hlo, hlo, fun _ _ h => h, ⟨[Pc.mk A fs.length c], ⟨rfl, .inr ⟨w.heap.size, 1, _, rfl, hlo, World.alloc_heap_new _ _, Nat.le_refl _, by decide, rfl, rfl⟩⟩, rfl, fun q h1 h2 => by
      have : q = 0 := by simpa using h1
      subst this
      exact ⟨rfl, hc, hA⟩⟩⟩
  have hsb := sizes_le_bulks fs
  obtain ⟨N, hN⟩ : ∃ N, 1 + V.sizes fs = N := ⟨_, rfl⟩
  have HSZ : Hid ([fs].length + szL ([fs].drop 0) ≤ N) := by
    show 1 + szL [fs] ≤ N
    rw [szL_cons]
    show 1 + (V.sizes fs + 0) ≤ N
    omega
  have HBK : Hid (∀ l ∈ [fs], V.bulks l ≤ 4194304) := fun l hl => by
    simp at hl
    subst hl
    exact hb
  have HN : Hid (N ≤ 4194305) := by show _ ≤ _; omega
  clear hp hlo hA hb hc hsb hN
  go_enter Try.func30, Try.ntmps30
  go_wp2_with fail
  obtain ⟨w1, hw1⟩ : ∃ w1, w.alloc (.cells #[.slice A fs.length c] 23) = w1 := ⟨_, rfl⟩
  rw [hw1] at HDT ⊢
  clear hw1
  go_loopw [2, 3] (fun lv i wr => ∃ (k : Nat) (T : Ty) (K : Ky) (R : List (List V)) (A2 : Option Addr) (c2 : Nat), i = .int .i64 k ∧ lv = .slice A2 R.length c2 ∧ k ≤ R.length ∧ Hid (Dt w lo T0 R (.slice A2 R.length c2) T K wr) ∧ Hid (R.length + szL (R.drop k) ≤ N) ∧ Hid (∀ l ∈ R, V.bulks l ≤ 4194304)) (fun _ i _ => N + 1 - (intOf i).toNat)
  case atStart => exact ⟨0, T0, K0, [fs], _, _, rfl, rfl, Nat.zero_le _, HDT, HSZ, HBK⟩
  case round =>
    obtain ⟨k, T, K, R, A2, c2, rfl, rfl, hk, HD, HS, HB⟩ := hrel
    have hRN : (R.length : Int) ≤ 4194305 := by have := HS.out; have := HN.out; omega
    by_cases hlt : k < R.length
    · obtain ⟨g2, c2', A3, c3, e, hce, hlc, hAl, -⟩ := HD.out.el hlt
      injection e with e1 e2 e3
      subst e1 e3
      have HCUT := Lib.hid (szL_cut hlt)
      have HRK : Hid (R[k]? = some R[k]) := List.getElem?_eq_getElem hlt
      have HBL := Lib.hid (HB.out _ (List.getElem_mem hlt))
      have hKN : k < N := by have := HS.out; omega
      generalize R[k] = l at *
      have HST : Hid (R.length + szL (R.drop (k + 1)) + V.sizes (l.drop 0) ≤ N) := by
        have h1 := HS.out
        rw [HCUT.out] at h1
        show R.length + szL (R.drop (k + 1)) + V.sizes l ≤ N
        omega
      have HAL := Lib.hid hAl
      have hll : (l.length : Int) ≤ 4194304 := by have := HBL.out; have := length_le_bulks l; omega
      have hli : (k : Int) < (R.length : Int) := by omega
      clear HCUT hAl HS
      go_wp2_with fail
      obtain ⟨w2, rfl⟩ : ∃ w2 : World, w2 = wr := ⟨_, rfl⟩
      go_loopw [2, 21] (fun lv i wr => ∃ (j : Nat) (T : Ty) (K : Ky) (R2 : List (List V)) (A2 : Option Addr) (c2 : Nat), i = .int .i64 j ∧ lv = .slice A2 R2.length c2 ∧ j ≤ l.length ∧ Hid (Dt w lo T0 R2 (.slice A2 R2.length c2) T K wr) ∧ Hid (R2[k]? = some l ∧ k < R2.length) ∧ Hid (R2.length + szL (R2.drop (k + 1)) + V.sizes (l.drop j) ≤ N) ∧ Hid (∀ l ∈ R2, V.bulks l ≤ 4194304) ∧ Hid (l = [] ∨ ∃ m, A3 = some ⟨m, 0, none⟩ ∧ T m = some l)) (fun _ i _ => l.length - (intOf i).toNat)
      case atStart => exact ⟨0, T, K, R, _, _, rfl, rfl, Nat.zero_le _, HD, Lib.hid ⟨HRK.out, hlt⟩, HST, HB, HAL⟩
      case round =>
        clear HD HRK HST HB HAL hce hli hRN hlt hk
        obtain ⟨wi, rfl⟩ : ∃ wi : World, wi = wr := ⟨_, rfl⟩
        obtain ⟨j, T, K, R, A2, c2, rfl, rfl, hj, HD, HRK, HST, HB, HAL⟩ := hrel
        have hRN : (R.length : Int) ≤ 4194305 := by have := HST.out; have := HN.out; omega
        by_cases hjl : j < l.length
        · obtain ⟨m, rfl, hm⟩ : ∃ m, A3 = some ⟨m, 0, none⟩ ∧ T m = some l := by
            rcases HAL.out with h | h
            · subst h
              simp at hjl
            · exact h
          obtain ⟨-, hty, hcs⟩ := HD.out.hp.t m l hm
          obtain ⟨y, hat, hel⟩ := hcs j hjl
          have his := HD.out.hp.read HD.out.le _ _ hel
          obtain ⟨ys, hyl, hya, hye⟩ := HD.out.hp.row HD.out.le hel
          have HSTEP := Lib.hid fun m' (hm' : T m' = some l) W' (hb : Below wi.heap.size wi W') ka la kc lc h1 h2 => HD.out.step (ka := ka) (la := la) (kc := kc) (lc := lc) hm' hjl (W' := W') hb hyl hye h1 h2
          have hub := bulk_le_of_mem (List.getElem_mem hjl)
          have HSC := Lib.hid (sizes_cut hjl)
          have HTY := Lib.hid hty
          have HM := Lib.hid hm
          have HM2 := Lib.hid hm
          have hel0 := HBL.out
          have hmem := List.getElem_mem hjl
          generalize l[j] = u at *
          clear hcs hel hye hmem HAL
          obtain ⟨yka, ykc, yla, ylc, rfl, hkc, hlc, hks, -⟩ := his.open
          have HYA := Lib.hid hya
          have HYL := Lib.hid hyl
          have HKS := Lib.hid hks
          have hbp := bulk_parts u
          have hks1 : u.ks.length ≤ 4194304 := by have := length_le_keysBulk u.ks; omega
          have hks2 : ∀ s ∈ u.ks, s.size ≤ 4194304 := fun s hs => by have := key_le_keysBulk hs; omega
          have hll1 : u.l.length ≤ 4194304 := by have := length_le_bulks u.l; omega
          have hksI : (u.ks.length : Int) ≤ 4194304 := by omega
          have HNM : Hid (u.nm.size ≤ 4194304 ∧ u.s.size ≤ 4194304) := by constructor <;> omega
          have HKS1 := Lib.hid hks1
          have HKS2 := Lib.hid hks2
          have HLL1 := Lib.hid hll1
          have HUL : Hid (V.bulks u.l ≤ 4194304) := by show _ ≤ _; omega
          obtain ⟨d0, d1, d2, d3, d4, d5⟩ := hat.six
          have hjI : (j : Int) < (l.length : Int) := by omega
          have HX := Lib.hid (Bx.new wi ⟨u.k, u.nm, u.n, u.s, yka, u.ks.length, ykc, yla, u.l.length, ylc⟩)
          dsimp only [X.cells] at HX
          clear his hat hya hyl hks hbp hks1 hks2 hll1 hub hel0 hty hm
          go_upto_region 7 with (fail)
          generalize wi.alloc (.cells #[.int .i64 u.k, .string u.nm, .int .i64 u.n, .string u.s, .slice yka u.ks.length ykc, .slice yla u.l.length ylc] 25) = W1 at *
          clear d0 d1 d2 d3 d4 d5
          have hx1 := HX.out.low (Below.refl _ _).drew
          refine wp_region_held_drew (S := fun w' => Bx wi ⟨u.k, u.nm, u.n, u.s, yka, u.ks.length, ykc, yla, u.l.length, ylc⟩ w') (by kernel_rfl) (by exact hx1) (fun hHeld => ?_)
          (refine wpAnyH_take (i := 0) (v := ?_) rfl (by kernel_rfl) (by decide +kernel) (by decide +kernel) (fun _ _ _ h => h) (Or.inl ⟨by rfl, ?_⟩) (by assumption) ?_; rotate_left; (focus (intro w0 hSw; obtain ⟨c0, c1, c2, c3, c4, c5⟩ := (Bx.at' hSw).six; go_simp; (try with_reducible rfl); done)))
          (refine wpAnyH_take (i := 1) (v := ?_) rfl (by kernel_rfl) (by decide +kernel) (by decide +kernel) (fun _ _ _ h => h) (Or.inl ⟨by rfl, ?_⟩) (by assumption) ?_; rotate_left; (focus (intro w0 hSw; obtain ⟨c0, c1, c2, c3, c4, c5⟩ := (Bx.at' hSw).six; go_simp; (try with_reducible rfl); done)))
          (refine wpAnyH_take (i := 3) (v := ?_) rfl (by kernel_rfl) (by decide +kernel) (by decide +kernel) (fun _ _ _ h => h) (Or.inl ⟨by rfl, ?_⟩) (by assumption) ?_; rotate_left; (focus (intro w0 hSw; obtain ⟨c0, c1, c2, c3, c4, c5⟩ := (Bx.at' hSw).six; go_simp; (try with_reducible rfl); done)))
          (refine wpAnyH_take (i := 4) (v := ?_) rfl (by kernel_rfl) (by decide +kernel) (by decide +kernel) (fun _ _ _ h => h) (Or.inl ⟨by rfl, ?_⟩) (by assumption) ?_; rotate_left; (focus (intro w0 hSw; obtain ⟨c0, c1, c2, c3, c4, c5⟩ := (Bx.at' hSw).six; go_simp; (try with_reducible rfl); done)))
          try simp only [List.getElem_toArray, List.getElem_cons_zero, List.getElem_cons_succ, Act.put, List.setIfInBounds_toArray, List.set_cons_zero, List.set_cons_succ]
          generalize W1.drew = v0 at *
          refine wpAnyH_ready (rs := [2]) (by decide +kernel) (by simp) (AllReadyH.cons rfl (fun K hK => ?_) AllReadyH.nil)
          go_simp
          refine (strClone_any u.nm _ HNM.out.1).mono ?_
          rintro e v1 ⟨rfl, hbb⟩
          have hx2 := hx1.low hbb
          refine hK.out _ _ hx2 (fun hHeld1 => ?_)
          clear hK K hbb hHeld
          try simp only [List.getElem_toArray, List.getElem_cons_zero, List.getElem_cons_succ, Act.put, List.setIfInBounds_toArray, List.set_cons_zero, List.set_cons_succ]
          (refine wpAnyH_take (i := 6) (v := ?_) rfl (by kernel_rfl) (by decide +kernel) (by decide +kernel) (fun _ _ _ h => h) (Or.inl ⟨by rfl, ?_⟩) (by assumption) ?_; rotate_left; (focus (intro w0 hSw; go_simp; (try with_reducible rfl); done)))
          try simp only [List.getElem_toArray, List.getElem_cons_zero, List.getElem_cons_succ, Act.put, List.setIfInBounds_toArray, List.set_cons_zero, List.set_cons_succ]
          refine wpAnyH_ready (rs := [5]) (by decide +kernel) (by simp) (AllReadyH.cons rfl (fun K hK => ?_) AllReadyH.nil)
          go_simp
          refine (strClone_any u.s _ HNM.out.2).mono ?_
          rintro e v2 ⟨rfl, hbb⟩
          have hx3 := hx2.low hbb
          refine hK.out _ _ hx3 (fun hHeld2 => ?_)
          clear hK K hbb hHeld1
          try simp only [List.getElem_toArray, List.getElem_cons_zero, List.getElem_cons_succ, Act.put, List.setIfInBounds_toArray, List.set_cons_zero, List.set_cons_succ]
          refine wpAnyH_ready (rs := [7]) (by decide +kernel) (by simp) (AllReadyH.cons rfl (fun K hK => ?_) AllReadyH.nil)
          obtain ⟨c0, c1, c2', c3', c4, c5⟩ := hx3.at'.six
          have z1 := hx3.fz 1
          go_simp
          refine hK.out _ _ hx3.set1 (fun hHeld3 => ?_)
          clear hK K hHeld2 c0 c1 c2' c3' c4 c5 z1
          try simp only [List.getElem_toArray, List.getElem_cons_zero, List.getElem_cons_succ, Act.put, List.setIfInBounds_toArray, List.set_cons_zero, List.set_cons_succ]
          (refine wpAnyH_take (i := 8) (v := ?_) rfl (by kernel_rfl) (by decide +kernel) (by decide +kernel) (fun _ _ _ h => h) (Or.inl ⟨by rfl, ?_⟩) (by assumption) ?_; rotate_left; (focus (intro w0 hSw; go_simp; (try with_reducible rfl); done)))
          try simp only [List.getElem_toArray, List.getElem_cons_zero, List.getElem_cons_succ, Act.put, List.setIfInBounds_toArray, List.set_cons_zero, List.set_cons_succ]
          refine wpAnyH_ready (rs := [9]) (by decide +kernel) (by simp) (AllReadyH.cons rfl (fun K hK => ?_) AllReadyH.nil)
          have hx4 := hx3.set1
          obtain ⟨c0, c1, c2', c3', c4, c5⟩ := hx4.at'.six
          have z3 := hx4.fz 3
          dsimp only at c0 c1 c2' c3' c4 c5 z3
          go_simp
          refine hK.out _ _ hx4.set3 (fun hHeld4 => ?_)
          clear hK K hHeld3 c0 c1 c2' c3' c4 c5 z3
          try simp only [List.getElem_toArray, List.getElem_cons_zero, List.getElem_cons_succ, Act.put, List.setIfInBounds_toArray, List.set_cons_zero, List.set_cons_succ]
          refine wpAnyH_done (by kernel_rfl) ?_ _
          have HX5 := Lib.hid hx4.set3
          dsimp only at HX5
          clear hHeld4 hx1 hx2 hx3 hx4 HX
          obtain ⟨W2, hW2⟩ : ∃ W2, (v2.setCell ⟨wi.heap.size, 1, none⟩ (.string u.nm)).setCell ⟨wi.heap.size, 3, none⟩ (.string u.s) = W2 := ⟨_, rfl⟩
          rw [hW2] at HX5 ⊢
          clear hW2
          have hsx := fun W (h : Bx wi ⟨u.k, u.nm, u.n, u.s, yka, u.ks.length, ykc, yla, u.l.length, ylc⟩ W) => HKS.out.below h.bl
          have HSX := Lib.hid (hsx W2 HX5.out)
          clear hsx
          obtain ⟨c0, c1, c2', c3', c4, c5⟩ := HX5.out.at'.six
          have z4 := HX5.out.fz 4
          go_wp2_with fail
          refine (cloneS_any u.ks yka _ ykc W2 rfl HSX.out HKS1.out).mono ?_
          rintro e W3 ⟨ka, kc, rfl, hok, hbb⟩
          have hx6 := HX5.out.low hbb
          have HXS := Lib.hid (hx6.set4 ka u.ks.length kc)
          have HOK : Hid (OwnT (W3.setCell ⟨wi.heap.size, 4, none⟩ (.slice ka u.ks.length kc)) (wi.heap.size + 1) (.slice ka u.ks.length kc) u.ks) := set_own (lower_own hok (by have := HX5.out.lt; omega)) _ _ (by show wi.heap.size < wi.heap.size + 1; omega)
          dsimp only at HXS
          clear c0 c1 c2' c3' c4 c5 z4 hok hbb HX5 HSX
          obtain ⟨c0, c1, c2', c3', c4, c5⟩ := hx6.at'.six
          have z4 := hx6.fz 4
          clear hx6
          go_upto_region 9 with (fail)
          obtain ⟨W4, hW4⟩ : ∃ W4, W3.setCell ⟨wi.heap.size, 4, none⟩ (.slice ka u.ks.length kc) = W4 := ⟨_, rfl⟩
          rw [hW4] at HXS HOK ⊢
          clear hW4 c0 c1 c2' c3' c4 c5 z4
          obtain ⟨c0, c1, c2', c3', c4, c5⟩ := HXS.out.at'.six
          go_wp2_with fail
          clear c0 c1 c2' c3' c4 c5
          go_loopw [41] (fun i wq => ∃ q : Nat, q ≤ u.ks.length ∧ i = .int .i64 q ∧ Hid (Bx wi ⟨u.k, u.nm, u.n, u.s, ka, u.ks.length, kc, yla, u.l.length, ylc⟩ wq) ∧ Hid (OwnT wq (wi.heap.size + 1) (.slice ka u.ks.length kc) u.ks)) (fun i _ => u.ks.length - (intOf i).toNat)
          case atStart => exact ⟨0, Nat.zero_le _, rfl, HXS, HOK⟩
          case round =>
            clear HXS HOK
            obtain ⟨wq, rfl⟩ : ∃ wq : World, wq = wr := ⟨_, rfl⟩
            obtain ⟨q, hq, rfl, HXS, HOK⟩ := hrel
            by_cases hql : q < u.ks.length
            · obtain ⟨g9, rfl⟩ : ∃ g, ka = some ⟨g, 0, none⟩ := by
                rcases (own_addr HOK.out).2.2 with ⟨_, h⟩ | h
                · omega
                · exact h
              have hg9 := (own_typ HOK.out).1
              have e1 := HOK.out.cell q hql
              have HSM := Lib.hid fun W h => same_own (w := W) (B := wi.heap.size + 1) (g := g9) (c := kc) h rfl hql
              have HSQ := Lib.hid (HKS2.out _ (List.getElem_mem hql))
              have hqI : (q : Int) < (u.ks.length : Int) := by omega
              have HGET : Hid ((strV u.ks)[q]? = some (.string u.ks[q])) := by show _ = _; rw [List.getElem?_map, List.getElem?_eq_getElem hql]; rfl
              generalize u.ks[q] = s at *
              go_upto_region 12 with (fail)
              clear e1
              have hx1 := HXS.out.low (Below.refl _ _).drew
              have ho1 := low_own HOK.out (Below.refl _ _).drew
              refine wp_region_held_drew (S := fun w' => Bx wi ⟨u.k, u.nm, u.n, u.s, some ⟨g9, 0, none⟩, u.ks.length, kc, yla, u.l.length, ylc⟩ w' ∧ OwnT w' (wi.heap.size + 1) (.slice (some ⟨g9, 0, none⟩) u.ks.length kc) u.ks) (by kernel_rfl) (by exact ⟨hx1, ho1⟩) (fun hHeld => ?_)
              (refine wpAnyH_take (i := 0) (v := ?_) rfl (by kernel_rfl) (by decide +kernel) (by decide +kernel) (fun _ _ _ h => h) (Or.inl ⟨by rfl, ?_⟩) (by assumption) ?_; rotate_left; (focus (intro w0 hSw; obtain ⟨c0, c1, c2, c3, c4, c5⟩ := (Bx.at' hSw.1).six; go_simp; (try with_reducible rfl); done)))
              (refine wpAnyH_take (i := 1) (v := ?_) rfl (by kernel_rfl) (by decide +kernel) (by decide +kernel) (fun _ _ _ h => h) (Or.inl ⟨by rfl, ?_⟩) (by assumption) ?_; rotate_left; (focus (intro w0 hSw; obtain ⟨c0, c1, c2, c3, c4, c5⟩ := (Bx.at' hSw.1).six; go_simp; (try with_reducible rfl); done)))
              (refine wpAnyH_take (i := 2) (v := ?_) rfl (by kernel_rfl) (by decide +kernel) (by decide +kernel) (fun _ _ _ h => h) (Or.inl ⟨by rfl, ?_⟩) (by assumption) ?_; rotate_left; (focus (intro w0 hSw; obtain ⟨c0, c1, c2, c3, c4, c5⟩ := (Bx.at' hSw.1).six; go_simp; (try with_reducible rfl); done)))
              (refine wpAnyH_take (i := 3) (v := ?_) rfl (by kernel_rfl) (by decide +kernel) (by decide +kernel) (fun _ _ _ h => h) (Or.inl ⟨by rfl, ?_⟩) (by assumption) ?_; rotate_left; (focus (intro w0 hSw; obtain ⟨c0, c1, c2, c3, c4, c5⟩ := (Bx.at' hSw.1).six; go_simp; (try with_reducible rfl); done)))
              try simp only [List.getElem_toArray, List.getElem_cons_zero, List.getElem_cons_succ, Act.put, List.setIfInBounds_toArray, List.set_cons_zero, List.set_cons_succ]
              generalize wq.drew = v0 at *
              refine wpAnyH_ready (rs := [4]) (by decide +kernel) (by simp) (AllReadyH.cons rfl (fun K hK => ?_) AllReadyH.nil)
              go_simp
              refine (strClone_any s _ HSQ.out).mono ?_
              rintro e v1 ⟨rfl, hbb⟩
              have hx2 := hx1.low hbb
              have ho2 := low_own ho1 hbb
              refine hK.out _ _ ⟨hx2, ho2⟩ (fun hHeld1 => ?_)
              clear hK K hbb hHeld
              try simp only [List.getElem_toArray, List.getElem_cons_zero, List.getElem_cons_succ, Act.put, List.setIfInBounds_toArray, List.set_cons_zero, List.set_cons_succ]
              (refine wpAnyH_take (i := 5) (v := ?_) rfl (by kernel_rfl) (by decide +kernel) (by decide +kernel) (fun _ _ _ h => h) (Or.inl ⟨by rfl, ?_⟩) (by assumption) ?_; rotate_left; (focus (intro w0 hSw; go_simp; (try with_reducible rfl); done)))
              try simp only [List.getElem_toArray, List.getElem_cons_zero, List.getElem_cons_succ, Act.put, List.setIfInBounds_toArray, List.set_cons_zero, List.set_cons_succ]
              refine wpAnyH_ready (rs := [6]) (by decide +kernel) (by simp) (AllReadyH.cons rfl (fun K hK => ?_) AllReadyH.nil)
              have e1 := World.ownsRow.cells ho2 (g := g9) rfl q (.string s) (HGET.out)
              rw [add_lit, Nat.zero_add] at e1
              have e2 := World.ownsRow.frozenAt ho2 q
              go_simp
              have ho3 := HSM.out _ ho2
              have hx3 := hx2.far ⟨g9, q, none⟩ (.string s) (by show wi.heap.size < g9; omega)
              refine hK.out _ _ ⟨hx3, ho3⟩ (fun hHeld2 => ?_)
              clear hK K hHeld1 e1 e2
              try simp only [List.getElem_toArray, List.getElem_cons_zero, List.getElem_cons_succ, Act.put, List.setIfInBounds_toArray, List.set_cons_zero, List.set_cons_succ]
              refine wpAnyH_done (by kernel_rfl) ?_ _
              have HXS := Lib.hid hx3
              have HOK := Lib.hid ho3
              clear hHeld2 hx1 hx2 hx3 ho1 ho2 ho3
              go_wp2_with fail
              go_roundw
              case rel => exact ⟨q + 1, by omega, by go_num, HXS, HOK⟩
              case measure => simp [intOf]; omega
            · obtain rfl : q = u.ks.length := by omega
              clear hq hql
              obtain ⟨c0, c1, c2', c3', c4, c5⟩ := HXS.out.at'.six
              have HYA2 : Hid (ys = [] ∨ ∃ g o, yla = some ⟨g, o, none⟩ ∧ ∀ i (h : i < ys.length), At wq g (o + i * 6) ys[i]) := by
                have hl := HYL.out
                rcases HYA.out with h | ⟨g, o, h1, h2, h3⟩
                · exact .inl (List.eq_nil_of_length_eq_zero (by rw [hl, h]; rfl))
                · exact .inr ⟨g, o, h1, fun i hi => (h3 i hi).below h2 HXS.out.bl⟩
              go_wp2_with fail
              refine (cloneN_any ys yla _ ylc wq HYL.out.symm HYA2.out (by rw [HYL.out]; exact HLL1.out)).mono ?_
              rintro e W5 ⟨la, lc, rfl, hol, hbb⟩
              have hx6 := HXS.out.low hbb
              have HXT := Lib.hid (hx6.set5 la u.l.length lc)
              have HOL : Hid (OwnX (W5.setCell ⟨wi.heap.size, 5, none⟩ (.slice la u.l.length lc)) wi.heap.size (.slice la u.l.length lc) ys) := lower_own (set_own (B := wi.heap.size + 1) (lower_own hol (by have := HXS.out.lt; omega)) ⟨wi.heap.size, 5, none⟩ (.slice la u.l.length lc) (by show wi.heap.size < wi.heap.size + 1; omega)) (Nat.le_succ _)
              have HOK2 : Hid (OwnT (W5.setCell ⟨wi.heap.size, 5, none⟩ (.slice la u.l.length lc)) wi.heap.size (.slice ka u.ks.length kc) u.ks) := lower_own (set_own (low_own HOK.out hbb) ⟨wi.heap.size, 5, none⟩ (.slice la u.l.length lc) (by show wi.heap.size < wi.heap.size + 1; omega)) (Nat.le_succ _)
              dsimp only at HXT
              clear c0 c1 c2' c3' c4 c5 hol hbb HXS HOK HYA2
              obtain ⟨c0, c1, c2', c3', c4, c5⟩ := hx6.at'.six
              have z5 := hx6.fz 5
              clear hx6
              go_upto_region 15 with (fail)
              obtain ⟨W6, hW6⟩ : ∃ W6, W5.setCell ⟨wi.heap.size, 5, none⟩ (.slice la u.l.length lc) = W6 := ⟨_, rfl⟩
              rw [hW6] at HXT HOL HOK2 ⊢
              clear hW6 c0 c1 c2' c3' c4 c5 z5
              have hD6 := HD.out.low HXT.out.bl
              obtain ⟨g2, c2'', A5, c5', e, hce, -, hAl, hg2⟩ := hD6.el HRK.out.2
              injection e with e1 e2 e3
              subst e1 e3
              have hRk : R[k]'HRK.out.2 = l := by have := HRK.out.1; rw [List.getElem?_eq_getElem HRK.out.2] at this; exact Option.some.inj this
              rw [hRk] at hce hAl
              obtain ⟨m', rfl, hm'⟩ : ∃ m, A5 = some ⟨m, 0, none⟩ ∧ T m = some l := by
                rcases hAl with h | h
                · subst h
                  simp at hjl
                · exact h
              obtain ⟨-, hty', hcs'⟩ := hD6.hp.t m' l hm'
              obtain ⟨z, hz, -⟩ := hcs' j hjl
              have hmw : m' < wi.heap.size := (HD.out.hp.t m' l hm').2.1.lt
              have hne : g2 ≠ m' := hty'.ne hg2 (by decide)
              have hb7 := (Below.refl W6.heap.size W6).drew
              have HPUT : Hid (∃ W7, putAt W6.drew m' (j * 6) ⟨u.k, u.nm, u.n, u.s, ka, u.ks.length, kc, la, u.l.length, lc⟩ = W7 ∧ (∃ T' K', (∀ n l, T n = some l → T' n = some l) ∧ Dt w lo T0 R (.slice (some ⟨g2, 0, none⟩) R.length c2) T' K' W7 ∧ PcT T' ⟨la, u.l.length, lc⟩ u.l) ∧ W7.heap[wi.heap.size]? = some (.cells (X.cells ⟨u.k, u.nm, u.n, u.s, ka, u.ks.length, kc, la, u.l.length, lc⟩) 25) ∧ W7.cell? ⟨g2, k, none⟩ = some (.slice (some ⟨m', 0, none⟩) l.length c5')) := by
                refine ⟨_, rfl, HSTEP.out m' hm' W6.drew (HXT.out.bl.trans (hb7.mono HXT.out.bl.size)) ka la kc lc (low_own HOK2.out hb7) (low_own HOL.out hb7), (putAt_heap _ _ _ _ _ (by omega)).trans (HXT.out.low hb7).bx, ?_⟩
                refine (World.cell?_of_block (a := ⟨g2, k, none⟩) (putAt_heap _ _ _ _ _ hne)).trans ?_
                exact (hb7.cell (p := ⟨g2, k, none⟩) (Typ.lt hg2)).trans hce
              have hzd := At.below hz (Typ.lt hty') hb7
              have fz : ∀ o, W6.drew.frozen? ⟨m', o, none⟩ = false := fun o => Typ.free (Typ.fr (F := fun k => k < W6.heap.size) hty' ⟨rfl, rfl, rfl, Nat.le_refl _, fun k hk => hb7.block k hk⟩ (Typ.lt hty'))
              have hxd := (HXT.out.low hb7).bx
              have hced := (hb7.cell (p := ⟨g2, k, none⟩) (Typ.lt hg2)).trans hce
              have hRI : (k : Int) < (R.length : Int) := by have := HRK.out.2; omega
              clear hD6 hce hAl hty' hcs' hz hmw hne hb7 hg2 hRk
              refine wp_region_held_drew (S := fun w' => w'.heap[wi.heap.size]? = some (.cells (X.cells ⟨u.k, u.nm, u.n, u.s, ka, u.ks.length, kc, la, u.l.length, lc⟩) 25) ∧ w'.cell? ⟨g2, k, none⟩ = some (.slice (some ⟨m', 0, none⟩) l.length c5')) (by kernel_rfl) (by exact ⟨hxd, hced⟩) (fun hHeld => ?_)
              (refine wpAnyH_take (i := 0) (v := ?_) rfl (by kernel_rfl) (by decide +kernel) (by decide +kernel) (fun _ _ _ h => h) (Or.inl ⟨by rfl, ?_⟩) (by assumption) ?_; rotate_left; (focus (intro w0 hSw; obtain ⟨c0, c1, c2, c3, c4, c5⟩ := (box_at hSw.1).six; have c6 := hSw.2; go_simp; (try with_reducible rfl); done)))
              (refine wpAnyH_take (i := 1) (v := ?_) rfl (by kernel_rfl) (by decide +kernel) (by decide +kernel) (fun _ _ _ h => h) (Or.inl ⟨by rfl, ?_⟩) (by assumption) ?_; rotate_left; (focus (intro w0 hSw; obtain ⟨c0, c1, c2, c3, c4, c5⟩ := (box_at hSw.1).six; have c6 := hSw.2; go_simp; (try with_reducible rfl); done)))
              (refine wpAnyH_take (i := 2) (v := ?_) rfl (by kernel_rfl) (by decide +kernel) (by decide +kernel) (fun _ _ _ h => h) (Or.inl ⟨by rfl, ?_⟩) (by assumption) ?_; rotate_left; (focus (intro w0 hSw; obtain ⟨c0, c1, c2, c3, c4, c5⟩ := (box_at hSw.1).six; have c6 := hSw.2; go_simp; (try with_reducible rfl); done)))
              (refine wpAnyH_take (i := 3) (v := ?_) rfl (by kernel_rfl) (by decide +kernel) (by decide +kernel) (fun _ _ _ h => h) (Or.inl ⟨by rfl, ?_⟩) (by assumption) ?_; rotate_left; (focus (intro w0 hSw; obtain ⟨c0, c1, c2, c3, c4, c5⟩ := (box_at hSw.1).six; have c6 := hSw.2; go_simp; (try with_reducible rfl); done)))
              (refine wpAnyH_take (i := 4) (v := ?_) rfl (by kernel_rfl) (by decide +kernel) (by decide +kernel) (fun _ _ _ h => h) (Or.inl ⟨by rfl, ?_⟩) (by assumption) ?_; rotate_left; (focus (intro w0 hSw; obtain ⟨c0, c1, c2, c3, c4, c5⟩ := (box_at hSw.1).six; have c6 := hSw.2; go_simp; (try with_reducible rfl); done)))
              (refine wpAnyH_take (i := 5) (v := ?_) rfl (by kernel_rfl) (by decide +kernel) (by decide +kernel) (fun _ _ _ h => h) (Or.inl ⟨by rfl, ?_⟩) (by assumption) ?_; rotate_left; (focus (intro w0 hSw; obtain ⟨c0, c1, c2, c3, c4, c5⟩ := (box_at hSw.1).six; have c6 := hSw.2; go_simp; (try with_reducible rfl); done)))
              (refine wpAnyH_take (i := 6) (v := ?_) rfl (by kernel_rfl) (by decide +kernel) (by decide +kernel) (fun _ _ _ h => h) (Or.inl ⟨by rfl, ?_⟩) (by assumption) ?_; rotate_left; (focus (intro w0 hSw; obtain ⟨c0, c1, c2, c3, c4, c5⟩ := (box_at hSw.1).six; have c6 := hSw.2; go_simp; (try with_reducible rfl); done)))
              try simp only [List.getElem_toArray, List.getElem_cons_zero, List.getElem_cons_succ, Act.put, List.setIfInBounds_toArray, List.set_cons_zero, List.set_cons_succ]
              refine wpAnyH_ready (rs := [7]) (by decide +kernel) (by simp) (AllReadyH.cons rfl (fun K hK => ?_) AllReadyH.nil)
              generalize W6.drew = v0 at *
              obtain ⟨f0, f1, f2, f3, f4, f5⟩ : At v0 m' (j * 6) z := hzd
              obtain ⟨W7, hW7, HD7, hx7, hc7⟩ := HPUT.out
              simp only [putAt] at hW7
              go_simp
              refine hK.out _ _ ⟨hx7, hc7⟩ (fun hHeld1 => ?_)
              clear hK K hHeld hW7 HPUT fz hxd hced f0 f1 f2 f3 f4 f5
              try simp only [List.getElem_toArray, List.getElem_cons_zero, List.getElem_cons_succ, Act.put, List.setIfInBounds_toArray, List.set_cons_zero, List.set_cons_succ]
              refine wpAnyH_done (by kernel_rfl) ?_ _
              obtain ⟨T', K', hTT, hdt, hpc⟩ := HD7
              obtain ⟨c0, c1, c2', c3', c4, c5⟩ := (box_at hx7).six
              have hb8 := below_alloc W7 (.cells #[.slice la u.l.length lc] 23)
              have hd8 := hdt.low hb8
              obtain ⟨ps, p1, p2, p3⟩ := hd8.rw
              have HP1 := Lib.hid p1
              have HD8 := Lib.hid hd8
              have HP3 := Lib.hid p3
              have HPC := Lib.hid hpc
              have HTT := Lib.hid hTT
              have HLO : Hid (lo ≤ (W7.alloc (.cells #[.slice la u.l.length lc] 23)).heap.size) := hd8.le
              have hpl : ps.length ≤ 8388608 := by omega
              have HPL := Lib.hid hpl
              have HP2 := Lib.hid p2
              clear hTT hdt hpc hb8 hd8 p1 p2 p3 hpl hx7 hc7 HXT HOL HOK2 HYA HYL HKS HSTEP HTY HM hHeld1 HNM HKS1 HKS2
              go_wp2_with (at_builtin; refine app_pc rfl (.tmp 64) (.tmp 67) (by rfl) lo _ ps (by rfl) HP1.out W7.heap.size la u.l.length lc (by rfl) (by simp) HPL.out HLO.out ?_)
              intro v' w9 h1 h2
              obtain ⟨A9, c9, rfl⟩ : ∃ A9 c9, v' = .slice A9 (R.length + 1) c9 := by
                have hl : (ps ++ [Pc.mk la u.l.length lc]).length = R.length + 1 := by rw [List.length_append, HP2.out]; rfl
                have h1' := h1
                rw [OwnS, hl] at h1'
                rcases h1'.2 with ⟨rfl, h0⟩ | ⟨g, cap, cur, rfl, _⟩
                · omega
                · exact ⟨_, _, rfl⟩
              have HD9 := Lib.hid (HD8.out.app HPC.out h2 HP1.out h1 HP2.out HP3.out)
              have hRl : (R ++ [u.l]).length = R.length + 1 := by simp
              have HRL := Lib.hid hRl
              have hjI2 : (j : Int) ≤ 4194304 := by omega
              have HRK9 : Hid ((R ++ [u.l])[k]? = some l ∧ k < (R ++ [u.l]).length) := ⟨by rw [List.getElem?_append_left HRK.out.2]; exact HRK.out.1, by have := HRK.out.2; omega⟩
              have HST9 : Hid ((R ++ [u.l]).length + szL ((R ++ [u.l]).drop (k + 1)) + V.sizes (l.drop (j + 1)) ≤ N) := by
                have h1 := HST.out
                have h2 := HSC.out
                have h3 := HRK.out.2
                show _ ≤ N
                rw [hRl, List.drop_append_of_le_length (by omega), szL_append, szL_cons]
                show R.length + 1 + (szL (R.drop (k + 1)) + (V.sizes u.l + 0)) + V.sizes (l.drop (j + 1)) ≤ N
                omega
              have HB9 : Hid (∀ l ∈ R ++ [u.l], V.bulks l ≤ 4194304) := fun l hl => by
                rcases List.mem_append.1 hl with h | h
                · exact HB.out l h
                · simp at h
                  subst h
                  exact HUL.out
              have HAL9 : Hid (l = [] ∨ ∃ m0, some (⟨m, 0, none⟩ : Addr) = some ⟨m0, 0, none⟩ ∧ T' m0 = some l) := .inr ⟨m, rfl, HTT.out _ _ HM2.out⟩
              clear h1 h2 hRl HRK HST HB HD8 HP1 HP2 HP3 HPC HTT HLO HPL HSC
              go_wp2_with fail
              go_roundw
              case rel => exact ⟨j + 1, T', K', R ++ [u.l], A9, c9, by go_num, by rw [HRL.out], by omega, Lib.hid (by rw [HRL.out]; exact HD9.out), HRK9, HST9, HB9, HAL9⟩
              case measure => simp [intOf]; omega
        · obtain rfl : j = l.length := by omega
          have hkI : (k : Int) ≤ 4194305 := by have := HN.out; omega
          go_wp2_with fail
          go_roundw
          case rel => exact ⟨k + 1, T, K, R, A2, c2, by go_num, rfl, HRK.out.2, HD, Lib.hid (by have := HST.out; rw [List.drop_length] at this; simpa [V.sizes] using this), HB⟩
          case measure => simp [intOf]; omega
    · obtain rfl : k = R.length := by omega
      go_wp2_with fail
      go_end0
      exact ⟨rfl, T, K, HD.out.ex, HD.out.hp, HD.out.bl⟩
end Go.Proofs.Ytgehgccgologpaa.Z
