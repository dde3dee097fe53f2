/-
 The reference's Enum, by contract.
-/
import Derived.Test.YtcahijpbkjplmaaGreatDoorMVn
import Derived.Test.YtcahijpbkjplmaaGreatDoorMZ0
set_option linter.unusedSimpArgs false
namespace Go.Proofs.YtcahijpbkjplmaaGreatDoor.G
open Go.RowKit Go.Shelf Go.Maps Go.Lib Go.Proofs.YtcahijpbkjplmaaGreatDoor
structure En2 (C : Nat) (w : World) (a b : Value) (st : List ByteArray × List ByteArray) : Prop where
 ra : w.ownsRow C 9 1 a st.1.length (st.1.map Value.string)
 rb : w.ownsRow C 9 1 b st.2.length (st.2.map Value.string)
 ne : ∀ g, a.ownBlock = some g → b.ownBlock ≠ some g
section
variable {C : Nat} {w w' : World} {a b : Value} {lo lm : List ByteArray} {st : List ByteArray × List ByteArray}
theorem En2.low (h : En2 C w a b st) (hb : Below w.heap.size w w') : En2 C w' a b st :=
 ⟨row_same h.ra fun k e => hb.block k (h.ra.lt k e).2, row_same h.rb fun k e => hb.block k (h.rb.lt k e).2, h.ne⟩
theorem En2.out (h : En2 C w a b (lo, lm)) {nv : Value} {s : ByteArray} (h1 : w'.ownsRow C 9 1 nv (lo.length + 1) (lo.map Value.string ++ [.string s])) (h2 : w.grownBy w' a.ownBlock) (h3 : nv.ownBlock = a.ownBlock ∨ nv.ownBlock = some w.heap.size) : En2 C w' nv b (lo ++ [s], lm) := by
 refine ⟨?_, row_same h.rb fun k e => h2.block k (h.rb.lt k e).2 fun e2 => h.ne k e2.symm e, fun g e => ?_⟩
 ·show w'.ownsRow C 9 1 nv (lo ++ [s]).length ((lo ++ [s]).map Value.string)
  rw [List.length_append, List.map_append]
  exact h1
 ·rcases h3 with e3 | e3
  ·exact h.ne g (e3.symm.trans e)
  ·intro e4
   rw [e3] at e
   cases e
   exact Nat.lt_irrefl _ (h.rb.lt _ e4).2
theorem En2.met (h : En2 C w a b (lo, lm)) {nv : Value} {s : ByteArray} (h1 : w'.ownsRow C 9 1 nv (lm.length + 1) (lm.map Value.string ++ [.string s])) (h2 : w.grownBy w' b.ownBlock) (h3 : nv.ownBlock = b.ownBlock ∨ nv.ownBlock = some w.heap.size) : En2 C w' a nv (lo, lm ++ [s]) := by
 refine ⟨row_same h.ra fun k e => h2.block k (h.ra.lt k e).2 fun e2 => h.ne k e e2.symm, ?_, fun g e => ?_⟩
 ·show w'.ownsRow C 9 1 nv (lm ++ [s]).length ((lm ++ [s]).map Value.string)
  rw [List.length_append, List.map_append]
  exact h1
 ·rcases h3 with e3 | e3
  ·intro e4
   exact h.ne g e (e3.symm.trans e4)
  ·intro e4
   rw [e3] at e4
   cases e4
   exact Nat.lt_irrefl _ (h.ra.lt _ e).2
theorem grow_low2 {w0 : World} {B n : Nat} {T : TypeId} {v : Value} {xs : List Value} {s : Nat} (hb : Below B w0 w) (hB : B ≤ w0.heap.size) (hC : B ≤ C) (ho : w.ownsRow C T s v n xs) (hg : w.grownBy w' v.ownBlock) : Below B w0 w' :=
 ((Fr.of (F := (· < B)) hb fun _ hk => hk).grown (fun _ hk => Nat.lt_of_lt_of_le hk hB) hg fun k e hk => Nat.lt_irrefl _ (Nat.lt_of_lt_of_le hk (Nat.le_trans hC (ho.lt k e).1))).below
theorem blk_grown {B n : Nat} {T : TypeId} {xs ys : List Value} {v : Value} (h : Blk w B T xs) (ho : w.ownsRow C 9 1 v n ys) (hT : T ≠ 9) (hg : w.grownBy w' v.ownBlock) : Blk w' B T xs := h.fr (hg.block B h.lt fun e => h.ne_row ho hT B e.symm rfl)
end
theorem set8_en {C g : Nat} {w : World} {x y : Value} {st : List ByteArray × List ByteArray} {T : TypeId} {xs : List Value} {a b c d e f i j : Value} (h : En2 C w x y st) (hz : Blk w g T xs) (hT : T ≠ 9) :
  En2 C ((((((((w.setCell ⟨g, 0, none⟩ a).setCell ⟨g, 1, none⟩ b).setCell ⟨g, 2, none⟩ c).setCell ⟨g, 3, none⟩ d).setCell ⟨g, 4, none⟩ e).setCell ⟨g, 5, none⟩ f).setCell ⟨g, 6, none⟩ i).setCell ⟨g, 7, none⟩ j) x y st := by
 have hk : ∀ (w : World) (q : Nat) (u : Value) (k : Nat), k ≠ g → (w.setCell ⟨g, q, none⟩ u).heap[k]? = w.heap[k]? := fun w q u k hk => Below.heap_setCell _ _ _ _ hk
 have n1 : ∀ k, x.ownBlock = some k → k ≠ g := fun k e1 e2 => hz.ne_row h.ra hT k e1 e2.symm
 have n2 : ∀ k, y.ownBlock = some k → k ≠ g := fun k e1 e2 => hz.ne_row h.rb hT k e1 e2.symm
 refine ⟨row_same h.ra fun k e => ?_, row_same h.rb fun k e => ?_, h.ne⟩
 ·have := n1 k e
  rw [hk _ _ _ _ this, hk _ _ _ _ this, hk _ _ _ _ this, hk _ _ _ _ this, hk _ _ _ _ this, hk _ _ _ _ this, hk _ _ _ _ this, hk _ _ _ _ this]
 ·have := n2 k e
  rw [hk _ _ _ _ this, hk _ _ _ _ this, hk _ _ _ _ this, hk _ _ _ _ this, hk _ _ _ _ this, hk _ _ _ _ this, hk _ _ _ _ this, hk _ _ _ _ this]
theorem set3_en {C g : Nat} {w : World} {x y : Value} {st : List ByteArray × List ByteArray} {T : TypeId} {xs : List Value} {a b c : Value} (h : En2 C w x y st) (hz : Blk w g T xs) (hT : T ≠ 9) : En2 C (((w.setCell ⟨g, 0, none⟩ a).setCell ⟨g, 1, none⟩ b).setCell ⟨g, 2, none⟩ c) x y st := by
 have hk : ∀ (w : World) (q : Nat) (u : Value) (k : Nat), k ≠ g → (w.setCell ⟨g, q, none⟩ u).heap[k]? = w.heap[k]? := fun w q u k hk => Below.heap_setCell _ _ _ _ hk
 have n1 : ∀ k, x.ownBlock = some k → k ≠ g := fun k e1 e2 => hz.ne_row h.ra hT k e1 e2.symm
 have n2 : ∀ k, y.ownBlock = some k → k ≠ g := fun k e1 e2 => hz.ne_row h.rb hT k e1 e2.symm
 refine ⟨row_same h.ra fun k e => ?_, row_same h.rb fun k e => ?_, h.ne⟩
 ·have := n1 k e
  rw [hk _ _ _ _ this, hk _ _ _ _ this, hk _ _ _ _ this]
 ·have := n2 k e
  rw [hk _ _ _ _ this, hk _ _ _ _ this, hk _ _ _ _ this]
theorem stp_is (st : List ByteArray × List ByteArray) (ps : List Pr) (k : Nat) (p : Pr) (hp : ps[k]? = some p) : (ps.take (k + 1)).foldl stp st = stp ((ps.take k).foldl stp st) p := by
 rw [List.take_add_one, hp, List.foldl_append]
 rfl
theorem at_refO {h : Hs} (k : Ok h) {i : Nat} {o : Ob} (ho : h.os[i]? = some o) : h.at (refO o.proto) = o.proto := by
 cases hp : o.proto with
 | none => exact nat_null h
 | some p =>
  have h1 := k.pw i o ho p hp
  have h2 := (List.getElem?_eq_some_iff.1 ho).1
  exact at_ref (by omega)
theorem stc_next {h : Hs} (k : Ok h) {i : Nat} {o : Ob} (ho : h.os[i]? = some o) (st : List ByteArray × List ByteArray) : (h.chain (some i)).foldl (stc h.os) st = (h.chain (h.at (refO o.proto))).foldl (stc h.os) (sto st o) := by
 rw [chain_some k ho, List.foldl_cons, at_refO k ho]
 congr 1
 unfold stc
 rw [ho]
theorem up_lt {os : List Ob} : ∀ (f : Nat) (q : Option Nat) (j : Nat), j ∈ up os f q → j < os.length
 | 0, _, _, h => by simp [up] at h
 | f + 1, none, _, h => by simp [up] at h
 | f + 1, some i, j, h => by
  rw [up] at h
  cases ho : os[i]? with
  | none =>
   rw [ho] at h
   cases h
  | some o =>
   rw [ho] at h
   rcases List.mem_cons.1 h with rfl | h
   ·exact (List.getElem?_eq_some_iff.1 ho).1
   ·exact up_lt f o.proto j h
theorem chain_lt {h : Hs} {q : Option Nat} {j : Nat} (hj : j ∈ h.chain q) : j < h.os.length := up_lt _ _ _ hj
structure Eo (w w1 : World) (B : Nat) (H : Hs) (T : List ByteArray × List ByteArray) (q : Nat) (a b : Value) (u : Vl) (st : List ByteArray × List ByteArray) (wr : World) : Prop where
 en : En2 w1.heap.size wr a b st
 bu : Blk wr B 29 u.cs
 low : Below w.heap.size w wr
 sz : w1.heap.size ≤ wr.heap.size
 tot : (H.chain (H.at u)).foldl (stc H.os) st = T
 dp : dpt (H.at u) ≤ q
 len : st.2.length + q * 100001 ≤ 10000200000 ∧ st.1.length ≤ st.2.length
section
variable {w w' : World} {ow : Nat → Option Nat} {A i : Nat} {H : Hs} {R : List Value} {o : Ob}
set_option maxRecDepth 8000 in
set_option maxHeartbeats 4000000 in
theorem renum_any (h : RH w A H ow R) (g : Gd H) (v : Vl) :
  Calls Tryz.prog 41 #[pv A, v.v] w fun e w' => ∃ r, e = .returned r ∧ Nm w' r (H.enum LK AR (H.at v)) ∧ Below w.heap.size w w' := by
 have hb0 := below_new w (.cells v.cs.toArray 29)
 have HB := Lib.hid hb0
 have HV := Lib.hid (Blk.new w 29 v.cs)
 have HAT := Lib.hid fun w' (hb : Below w.heap.size w w') (u : Vl) => rat_any (h.low hb) u g.os100
 have HOK := Lib.hid g.ok
 have HGD := Lib.hid g
 have HH := Lib.hid h
 have HEN : Hid (((H.chain (H.at v)).foldl (stc H.os) ([], [])).1 = H.enum LK AR (H.at v)) := by
  show _ = _
  rw [fold_enumC H.os _ _ (fun j hj => chain_lt hj)]
  rfl
 have HD0 : Hid (dpt (H.at v) ≤ 100000) := by
  show dpt (H.at v) ≤ 100000
  cases ha : H.at v with
  | none => exact Nat.zero_le _
  | some j => have := at_lt ha; have := g.os100; show j + 1 ≤ _; omega
 obtain ⟨T, HTT⟩ : ∃ T, Hid ((H.chain (H.at v)).foldl (stc H.os) ([], []) = T) := ⟨_, rfl⟩
 rw [HTT.out] at HEN
 rw [← HEN.out]
 have HWA : Hid (w.alloc (.cells v.cs.toArray 29) = w.alloc (.cells v.cs.toArray 29)) := rfl
 clear h g hb0
 obtain ⟨vk, vn, vs⟩ := v
 simp only [Vl.v, Vl.cs] at HB HV HAT ⊢
 have HE0 : Hid (Eo w (w.alloc (.cells #[.int .i64 vk, .int .i64 vn, .string vs] 29)) w.heap.size H T (dpt (H.at ⟨vk, vn, vs⟩)) (.slice none 0 0) (.slice none 0 0) ⟨vk, vn, vs⟩ ([], []) (w.alloc (.cells #[.int .i64 vk, .int .i64 vn, .string vs] 29))) :=
  ⟨⟨row_nil _ _ _ _, row_nil _ _ _ _, fun g e => by cases e⟩, HV.out, HB.out, Nat.le_refl _, HTT.out, Nat.le_refl _, by have := HD0.out; simp only [List.length_nil]; omega, Nat.le_refl _⟩
 clear HWA HV HTT HD0
 go_enter Tryz.func41, Tryz.ntmps41
 go_wp2_with fail
 have HS0 : Hid (w.heap.size + 1 = (w.alloc (.cells #[.int .i64 vk, .int .i64 vn, .string vs] 29)).heap.size) := (World.size_alloc _ _).symm
 generalize dpt (H.at ⟨vk, vn, vs⟩) = q0 at *
 generalize w.alloc (.cells #[.int .i64 vk, .int .i64 vn, .string vs] 29) = w1 at *
 go_loopg [5, 6] q0 (fun q a b wr => ∃ (u : Vl) (st : List ByteArray × List ByteArray), Hid (Eo w w1 w.heap.size H T q a b u st wr))
 case atStart => exact ⟨_, _, HE0⟩
 case round =>
  obtain ⟨⟨uk, un, us⟩, ⟨lo, lm⟩, HE⟩ := hrel
  obtain ⟨aA, ac, rfl⟩ := row_len HE.out.en.ra
  obtain ⟨bA, bc, rfl⟩ := row_len HE.out.en.rb
  dsimp only at HE
  have HLW := Lib.hid HE.out.low
  have hat := HAT.out _ HLW.out ⟨uk, un, us⟩
  obtain ⟨d0, d1, d2⟩ := Blk.three (v := ⟨uk, un, us⟩) HE.out.bu
  dsimp only at d0 d1 d2
  simp only [Vl.v] at hat
  cases ha : H.at ⟨uk, un, us⟩ with
  | none =>
   rw [ha] at hat
   have HR : Hid ((lo, lm) = T) := by
    have := HE.out.tot
    rw [ha, chain_none] at this
    exact this
   simp only [atI] at hat
   clear ha
   go_wp2_with fail
   refine hat.mono ?_
   rintro e w2 ⟨rfl, hb⟩
   have HN : Hid (Nm w2 (.slice aA lo.length ac) T.1) := by
    rw [← HR.out]
    exact own_nm (HE.out.en.low hb).ra rfl rfl
   have HL2 := Lib.hid (HLW.out.trans (hb.mono HLW.out.size))
   clear hb hat d0 d1 d2
   go_wp2_with fail
   go_ret
   exact ⟨_, rfl, HN.out, HL2.out⟩
  | some i =>
   obtain ⟨o, ho⟩ : ∃ o, H.os[i]? = some o := ⟨H.os[i]'(at_lt ha), List.getElem?_eq_getElem (at_lt ha)⟩
   have hi := at_lt ha
   have HA := Lib.hid ha
   have HO := Lib.hid ho
   rw [ha] at hat
   simp only [atI] at hat
   have hii : (0 : Int) ≤ (i : Int) := by omega
   have hi2 : (i : Int) < (H.os.length : Int) := by omega
   have hpl : o.ps.length ≤ 100000 := Nat.le_trans (HGD.out.og i o ho).l HGD.out.n100
   have hpli : (o.ps.length : Int) ≤ 100000 := by omega
   have HAT2 := Lib.hid fun w' (hb : Below w.heap.size w w') => HAT.out w' hb ⟨uk, un, us⟩
   rw [ha] at HAT2
   simp only [atI, Vl.v] at HAT2
   obtain ⟨gb, cap, rr, hro, hcap, hrr, -⟩ := HH.out.ro ho
   have HRO := Lib.hid hro
   obtain ⟨rA, rc, hre, -, -⟩ := HH.out.prow ho hrr
   have HPW := Lib.hid (HH.out.prow ho hrr)
   subst hre
   clear ha hro hrr ho
   go_wp2_with fail
   refine hat.mono ?_
   rintro e w2 ⟨rfl, hb⟩
   have hb2 := hb.drew
   have HB2 := Lib.hid (HLW.out.trans (hb2.mono HLW.out.size))
   have HU2 := Lib.hid (HE.out.bu.low hb2)
   have HN2 := Lib.hid (HE.out.en.low hb2)
   have HC2 := Lib.hid (Nat.le_trans HE.out.sz hb2.size)
   have hs2 : (fun w' : World => (w'.cell? ⟨w.heap.size, 0, none⟩ = some (.int .i64 uk) ∧ w'.cell? ⟨w.heap.size, 1, none⟩ = some (.int .i64 un) ∧ w'.cell? ⟨w.heap.size, 2, none⟩ = some (.string us)) ∧ w'.cell? ⟨A, 0, none⟩ = some (.slice (some ⟨gb, 0, none⟩) H.os.length cap) ∧ (w'.cell? ⟨gb, i * 8, none⟩ = some (.string o.cls) ∧ w'.cell? ⟨gb, i * 8 + 1, none⟩ = some (.int .i64 (refO o.proto).k) ∧ w'.cell? ⟨gb, i * 8 + 2, none⟩ = some (.int .i64 (refO o.proto).n) ∧ w'.cell? ⟨gb, i * 8 + 3, none⟩ = some (.string (refO o.proto).s) ∧ w'.cell? ⟨gb, i * 8 + 4, none⟩ = some (.slice rA o.ps.length rc) ∧ w'.cell? ⟨gb, i * 8 + 5, none⟩ = some (.bool o.closed) ∧ w'.cell? ⟨gb, i * 8 + 6, none⟩ = some (.int .i64 (o.len : Int)) ∧ w'.cell? ⟨gb, i * 8 + 7, none⟩ = some (.bool o.lw))) w2.drew := ⟨Blk.three (v := ⟨uk, un, us⟩) HU2.out, (HRO.out.low HB2.out).c0, ro_cells (HRO.out.low HB2.out)⟩
   dsimp only at hs2
   clear hb hb2 hat d0 d1 d2
   go_wp2_with fail
   refine wp_region_held_drew (S := (fun w' : World => (w'.cell? ⟨w.heap.size, 0, none⟩ = some (.int .i64 uk) ∧ w'.cell? ⟨w.heap.size, 1, none⟩ = some (.int .i64 un) ∧ w'.cell? ⟨w.heap.size, 2, none⟩ = some (.string us)) ∧ w'.cell? ⟨A, 0, none⟩ = some (.slice (some ⟨gb, 0, none⟩) H.os.length cap) ∧ (w'.cell? ⟨gb, i * 8, none⟩ = some (.string o.cls) ∧ w'.cell? ⟨gb, i * 8 + 1, none⟩ = some (.int .i64 (refO o.proto).k) ∧ w'.cell? ⟨gb, i * 8 + 2, none⟩ = some (.int .i64 (refO o.proto).n) ∧ w'.cell? ⟨gb, i * 8 + 3, none⟩ = some (.string (refO o.proto).s) ∧ w'.cell? ⟨gb, i * 8 + 4, none⟩ = some (.slice rA o.ps.length rc) ∧ w'.cell? ⟨gb, i * 8 + 5, none⟩ = some (.bool o.closed) ∧ w'.cell? ⟨gb, i * 8 + 6, none⟩ = some (.int .i64 (o.len : Int)) ∧ w'.cell? ⟨gb, i * 8 + 7, none⟩ = some (.bool o.lw)))) (by kernel_rfl) (hs2) (fun hHeld0 => ?_)
   generalize w2.drew = w3 at *
   have HB3 := HB2
   have HU3 := HU2
   have HN3 := HN2
   have HC3 := HC2
   clear hs2 HB2 HU2 HN2 HC2
   refine tk 0 ?_ ‹_› ?_ ?_; rotate_left; focus (intro w0 hSw; obtain ⟨⟨e0, e1, e2⟩, e3, ⟨f0, f1, f2, f3, f4, f5, f6, f7⟩⟩ := hSw; go_simp; try with_reducible rfl)
   refine tk 1 ?_ ‹_› ?_ ?_; rotate_left; focus (intro w0 hSw; obtain ⟨⟨e0, e1, e2⟩, e3, ⟨f0, f1, f2, f3, f4, f5, f6, f7⟩⟩ := hSw; go_simp; try with_reducible rfl)
   refine tk 2 ?_ ‹_› ?_ ?_; rotate_left; focus (intro w0 hSw; obtain ⟨⟨e0, e1, e2⟩, e3, ⟨f0, f1, f2, f3, f4, f5, f6, f7⟩⟩ := hSw; go_simp; try with_reducible rfl)
   refine tk 3 ?_ ‹_› ?_ ?_; rotate_left; focus (intro w0 hSw; obtain ⟨⟨e0, e1, e2⟩, e3, ⟨f0, f1, f2, f3, f4, f5, f6, f7⟩⟩ := hSw; go_simp; try with_reducible rfl)
   refine tk 4 ?_ ‹_› ?_ ?_; rotate_left; focus (intro w0 hSw; obtain ⟨⟨e0, e1, e2⟩, e3, ⟨f0, f1, f2, f3, f4, f5, f6, f7⟩⟩ := hSw; go_simp; try with_reducible rfl)
   refine tk 5 ?_ ‹_› ?_ ?_; rotate_left; focus (intro w0 hSw; obtain ⟨⟨e0, e1, e2⟩, e3, ⟨f0, f1, f2, f3, f4, f5, f6, f7⟩⟩ := hSw; go_simp; try with_reducible rfl)
   try simp only [PT]
   refine wpAnyH_ready (rs := [6, 9]) (by decide +kernel) (by simp) (AllReadyH.cons rfl (fun K hK => ?_) (AllReadyH.cons rfl (fun K hK => ?_) AllReadyH.nil))
   ·
    go_simp
    refine (HAT2.out _ HB3.out).mono ?_
    rintro e w4 ⟨rfl, hb⟩
    have HB4 := Lib.hid (HB3.out.trans (hb.mono HB3.out.size))
    have HU4 := Lib.hid (HU3.out.low hb)
    have HN4 := Lib.hid (HN3.out.low hb)
    have HC4 := Lib.hid (Nat.le_trans HC3.out hb.size)
    have hs4 : (fun w' : World => (w'.cell? ⟨w.heap.size, 0, none⟩ = some (.int .i64 uk) ∧ w'.cell? ⟨w.heap.size, 1, none⟩ = some (.int .i64 un) ∧ w'.cell? ⟨w.heap.size, 2, none⟩ = some (.string us)) ∧ w'.cell? ⟨A, 0, none⟩ = some (.slice (some ⟨gb, 0, none⟩) H.os.length cap) ∧ (w'.cell? ⟨gb, i * 8, none⟩ = some (.string o.cls) ∧ w'.cell? ⟨gb, i * 8 + 1, none⟩ = some (.int .i64 (refO o.proto).k) ∧ w'.cell? ⟨gb, i * 8 + 2, none⟩ = some (.int .i64 (refO o.proto).n) ∧ w'.cell? ⟨gb, i * 8 + 3, none⟩ = some (.string (refO o.proto).s) ∧ w'.cell? ⟨gb, i * 8 + 4, none⟩ = some (.slice rA o.ps.length rc) ∧ w'.cell? ⟨gb, i * 8 + 5, none⟩ = some (.bool o.closed) ∧ w'.cell? ⟨gb, i * 8 + 6, none⟩ = some (.int .i64 (o.len : Int)) ∧ w'.cell? ⟨gb, i * 8 + 7, none⟩ = some (.bool o.lw))) w4 := ⟨Blk.three (v := ⟨uk, un, us⟩) HU4.out, (HRO.out.low HB4.out).c0, ro_cells (HRO.out.low HB4.out)⟩
    dsimp only at hs4
    clear hb HB3 HU3 HN3 HC3
    refine hK.out _ _ hs4 (fun hHeld1 => ?_)
    clear hK K hHeld0 
    try simp only [PT]
    refine tk 7 ?_ ‹_› ?_ ?_; rotate_left; focus (intro w0 hSw; obtain ⟨⟨e0, e1, e2⟩, e3, ⟨f0, f1, f2, f3, f4, f5, f6, f7⟩⟩ := hSw; go_simp; try with_reducible rfl)
    refine tk 8 ?_ ‹_› ?_ ?_; rotate_left; focus (intro w0 hSw; obtain ⟨⟨e0, e1, e2⟩, e3, ⟨f0, f1, f2, f3, f4, f5, f6, f7⟩⟩ := hSw; go_simp; try with_reducible rfl)
    try simp only [PT]
    refine wpAnyH_ready (rs := [9]) (by decide +kernel) (by simp) (AllReadyH.cons rfl (fun K hK => ?_) AllReadyH.nil)
    go_simp
    have hb := below_new w4 (.cells ob0.toArray 73)
    simp only [ob0] at hb
    have HBx := Lib.hid (HB4.out.trans (hb.mono HB4.out.size))
    have HUx := Lib.hid (HU4.out.low hb)
    have HNx := Lib.hid (HN4.out.low hb)
    have HCx := Lib.hid (Nat.le_trans HC4.out hb.size)
    have HZx : Hid (Blk (w4.alloc (.cells #[.string ⟨#[]⟩, .int .i64 0, .int .i64 0, .string ⟨#[]⟩, .slice none 0 0, .bool false, .int .i64 0, .bool false] 73)) w4.heap.size 73 ob0) := Blk.new w4 73 ob0
    have HZW : Hid (w1.heap.size ≤ w4.heap.size) := HC4.out
    generalize w4.heap.size = z at *
    generalize (w4.alloc (.cells #[.string ⟨#[]⟩, .int .i64 0, .int .i64 0, .string ⟨#[]⟩, .slice none 0 0, .bool false, .int .i64 0, .bool false] 73)) = w5 at *
    have HB5 := HBx
    have HU5 := HUx
    have HN5 := HNx
    have HC5 := HCx
    have HZ5 := HZx
    clear HBx HUx HNx HCx HZx
    have hs5 : (fun w' : World => (w'.cell? ⟨w.heap.size, 0, none⟩ = some (.int .i64 uk) ∧ w'.cell? ⟨w.heap.size, 1, none⟩ = some (.int .i64 un) ∧ w'.cell? ⟨w.heap.size, 2, none⟩ = some (.string us)) ∧ w'.cell? ⟨A, 0, none⟩ = some (.slice (some ⟨gb, 0, none⟩) H.os.length cap) ∧ (w'.cell? ⟨gb, i * 8, none⟩ = some (.string o.cls) ∧ w'.cell? ⟨gb, i * 8 + 1, none⟩ = some (.int .i64 (refO o.proto).k) ∧ w'.cell? ⟨gb, i * 8 + 2, none⟩ = some (.int .i64 (refO o.proto).n) ∧ w'.cell? ⟨gb, i * 8 + 3, none⟩ = some (.string (refO o.proto).s) ∧ w'.cell? ⟨gb, i * 8 + 4, none⟩ = some (.slice rA o.ps.length rc) ∧ w'.cell? ⟨gb, i * 8 + 5, none⟩ = some (.bool o.closed) ∧ w'.cell? ⟨gb, i * 8 + 6, none⟩ = some (.int .i64 (o.len : Int)) ∧ w'.cell? ⟨gb, i * 8 + 7, none⟩ = some (.bool o.lw))) w5 := ⟨Blk.three (v := ⟨uk, un, us⟩) HU5.out, (HRO.out.low HB5.out).c0, ro_cells (HRO.out.low HB5.out)⟩
    dsimp only at hs5
    clear hb HB4 HU4 HN4 HC4
    refine hK.out _ _ hs5 (fun hHeld2 => ?_)
    clear hK K hHeld1 
    try simp only [PT]
    refine wpAnyH_ready (rs := [10]) (by decide +kernel) (by simp) (AllReadyH.cons rfl (fun K hK => ?_) AllReadyH.nil)
    have zc := fun (j : Nat) (u : Value) (hj : ob0[j]? = some u) => HZ5.out.cell hj
    have z0 := zc 0 _ rfl
    have z1 := zc 1 _ rfl
    have z2 := zc 2 _ rfl
    have z3 := zc 3 _ rfl
    have z4 := zc 4 _ rfl
    have z5 := zc 5 _ rfl
    have z6 := zc 6 _ rfl
    have z7 := zc 7 _ rfl
    have zf := HZ5.out.fz
    clear zc
    go_simp
    have HBx := Lib.hid (set8_below (a := .string o.cls) (b := .int .i64 (refO o.proto).k) (c := .int .i64 (refO o.proto).n) (d := .string (refO o.proto).s) (e := .slice rA o.ps.length rc) (f := .bool o.closed) (i := .int .i64 (o.len : Int)) (j := .bool o.lw) HB5.out (Nat.le_trans HB.out.size HZW.out))
    have HCx : Hid (w1.heap.size ≤ (((((((((w5.setCell ⟨z, 0, none⟩ (.string o.cls)).setCell ⟨z, 1, none⟩ (.int .i64 (refO o.proto).k)).setCell ⟨z, 2, none⟩ (.int .i64 (refO o.proto).n)).setCell ⟨z, 3, none⟩ (.string (refO o.proto).s)).setCell ⟨z, 4, none⟩ (.slice rA o.ps.length rc)).setCell ⟨z, 5, none⟩ (.bool o.closed)).setCell ⟨z, 6, none⟩ (.int .i64 (o.len : Int))).setCell ⟨z, 7, none⟩ (.bool o.lw))).heap.size) := by show w1.heap.size ≤ _; have := HC5.out; simpa [World.setCell] using this
    have HZx := Lib.hid (set8_new (a := .string o.cls) (b := .int .i64 (refO o.proto).k) (c := .int .i64 (refO o.proto).n) (d := .string (refO o.proto).s) (e := .slice rA o.ps.length rc) (f := .bool o.closed) (i := .int .i64 (o.len : Int)) (j := .bool o.lw) HZ5.out)
    have HUx := Lib.hid (set8_keep (a := .string o.cls) (b := .int .i64 (refO o.proto).k) (c := .int .i64 (refO o.proto).n) (d := .string (refO o.proto).s) (e := .slice rA o.ps.length rc) (f := .bool o.closed) (i := .int .i64 (o.len : Int)) (j := .bool o.lw) HU5.out (by have := HS0.out; have := HZW.out; omega : z ≠ w.heap.size))
    have HNx := Lib.hid (set8_en (a := .string o.cls) (b := .int .i64 (refO o.proto).k) (c := .int .i64 (refO o.proto).n) (d := .string (refO o.proto).s) (e := .slice rA o.ps.length rc) (f := .bool o.closed) (i := .int .i64 (o.len : Int)) (j := .bool o.lw) HN5.out HZ5.out (by decide))
    generalize ((((((((w5.setCell ⟨z, 0, none⟩ (.string o.cls)).setCell ⟨z, 1, none⟩ (.int .i64 (refO o.proto).k)).setCell ⟨z, 2, none⟩ (.int .i64 (refO o.proto).n)).setCell ⟨z, 3, none⟩ (.string (refO o.proto).s)).setCell ⟨z, 4, none⟩ (.slice rA o.ps.length rc)).setCell ⟨z, 5, none⟩ (.bool o.closed)).setCell ⟨z, 6, none⟩ (.int .i64 (o.len : Int))).setCell ⟨z, 7, none⟩ (.bool o.lw)) = w6 at *
    have HB6 := HBx
    have HU6 := HUx
    have HN6 := HNx
    have HC6 := HCx
    have HZ6 := HZx
    clear HBx HUx HNx HCx HZx z0 z1 z2 z3 z4 z5 z6 z7 zf HB5 HU5 HN5 HC5 HZ5
    have hs6 : (fun w' : World => (w'.cell? ⟨w.heap.size, 0, none⟩ = some (.int .i64 uk) ∧ w'.cell? ⟨w.heap.size, 1, none⟩ = some (.int .i64 un) ∧ w'.cell? ⟨w.heap.size, 2, none⟩ = some (.string us)) ∧ w'.cell? ⟨A, 0, none⟩ = some (.slice (some ⟨gb, 0, none⟩) H.os.length cap) ∧ (w'.cell? ⟨gb, i * 8, none⟩ = some (.string o.cls) ∧ w'.cell? ⟨gb, i * 8 + 1, none⟩ = some (.int .i64 (refO o.proto).k) ∧ w'.cell? ⟨gb, i * 8 + 2, none⟩ = some (.int .i64 (refO o.proto).n) ∧ w'.cell? ⟨gb, i * 8 + 3, none⟩ = some (.string (refO o.proto).s) ∧ w'.cell? ⟨gb, i * 8 + 4, none⟩ = some (.slice rA o.ps.length rc) ∧ w'.cell? ⟨gb, i * 8 + 5, none⟩ = some (.bool o.closed) ∧ w'.cell? ⟨gb, i * 8 + 6, none⟩ = some (.int .i64 (o.len : Int)) ∧ w'.cell? ⟨gb, i * 8 + 7, none⟩ = some (.bool o.lw))) w6 := ⟨Blk.three (v := ⟨uk, un, us⟩) HU6.out, (HRO.out.low HB6.out).c0, ro_cells (HRO.out.low HB6.out)⟩
    dsimp only at hs6
    refine hK.out _ _ hs6 (fun hHeld3 => ?_)
    clear hK K hHeld2 
    try simp only [PT]
    refine wpAnyH_done (by kernel_rfl) ?_ _
    clear hHeld3 hs6
    have z4 := HZ6.out.cell (k := 4) (v := .slice rA o.ps.length rc) rfl
    go_wp2_with fail
    clear z4
    go_loopw [5, 6, 26] (fun a b x wr => ∃ (k : Nat) (st : List ByteArray × List ByteArray), k ≤ o.ps.length ∧ x = .int .i64 k ∧ Hid ((o.ps.take k).foldl stp (lo, lm) = st) ∧ Hid (En2 w1.heap.size wr a b st) ∧ Hid (Below w.heap.size w wr ∧ w1.heap.size ≤ wr.heap.size ∧ Blk wr w.heap.size 29 [.int .i64 uk, .int .i64 un, .string us] ∧ Blk wr z 73 [.string o.cls, .int .i64 (refO o.proto).k, .int .i64 (refO o.proto).n, .string (refO o.proto).s, .slice rA o.ps.length rc, .bool o.closed, .int .i64 (o.len : Int), .bool o.lw])) (fun _ _ x _ => o.ps.length - (intOf x).toNat)
    case atStart => exact ⟨0, (lo, lm), Nat.zero_le _, rfl, Lib.hid rfl, HN6, HB6.out, HC6.out, HU6.out, HZ6.out⟩
    case round =>
     obtain ⟨k, ⟨qo, qm⟩, hk, rfl, HST, HEI, HKP⟩ := hrel
     obtain ⟨aA2, ac2, rfl⟩ := row_len HEI.out.ra
     obtain ⟨bA2, bc2, rfl⟩ := row_len HEI.out.rb
     dsimp only at HEI
     have HLEN : Hid (qm.length = lm.length + k ∧ qo.length ≤ lo.length + k) := by
      have h1 := stp_len (o.ps.take k) (lo, lm)
      rw [HST.out, List.length_take, Nat.min_eq_left hk] at h1
      exact h1
     have hq1 : qo.length ≤ 100000000000 := by have := HLEN.out.2; have := HE.out.len; dsimp only at this; omega
     have hq2 : qm.length ≤ 100000000000 := by have := HLEN.out.1; have := HE.out.len; dsimp only at this; omega
     have hq1i : (qo.length : Int) ≤ 100000000000 := by omega
     have hq2i : (qm.length : Int) ≤ 100000000000 := by omega
     by_cases hlt : k < o.ps.length
     ·obtain ⟨p, HP⟩ : ∃ p, Hid (o.ps[k]? = some p) := ⟨_, List.getElem?_eq_getElem hlt⟩
      obtain ⟨rA', rc', e1, -, hpc⟩ := HPW.out.low HKP.out.1
      obtain ⟨gp, e2, -, hcell⟩ := hpc k p HP.out
      injection e1 with e3 _ e5
      subst e5
      rw [e2] at e3
      subst e3
      have d0 := hcell 0 _ rfl
      have d1 := hcell 1 _ rfl
      have d2 := hcell 2 _ rfl
      have d3 := hcell 3 _ rfl
      have d4 := hcell 4 _ rfl
      have d5 := hcell 5 _ rfl
      have d6 := hcell 6 _ rfl
      simp only [Nat.add_zero] at d0
      have HNX : Hid ((o.ps.take (k + 1)).foldl stp (lo, lm) = (if p.e && !qm.contains p.key then qo ++ [p.key] else qo, qm ++ [p.key])) := by
       show _ = _
       rw [stp_is _ _ _ _ HP.out, HST.out]
       rfl
      have hbp := below_new wr (.cells (Pr.cs p).toArray 31)
      have HN5 := Lib.hid (HEI.out.low hbp)
      have HP5 := Lib.hid (Blk.new wr 31 (Pr.cs p))
      have HU5 := Lib.hid (HKP.out.2.2.1.low hbp)
      have HZ5 := Lib.hid (HKP.out.2.2.2.low hbp)
      have HC5 := Lib.hid (Nat.le_trans HKP.out.2.1 hbp.size)
      have HB5 := Lib.hid (HKP.out.1.trans (hbp.mono HKP.out.1.size))
      clear hpc hcell e2 hbp
      have hst := stands_any qm p.key (.slice bA2 qm.length bc2) _ (own_nm HN5.out.rb rfl rfl) hq2
      obtain ⟨pk, ⟨pvk, pvn, pvs⟩, pw, pe, pf⟩ := p
      simp only [Pr.cs] at d0 d1 d2 d3 d4 d5 d6 HN5 HP5 HU5 HZ5 HC5 HB5 hst HNX
      cases pe with
      | false =>
       simp only [Bool.false_and, Bool.false_eq_true, if_false] at HNX
       clear hst
       obtain ⟨W7, hW7, -, hx7, hl7⟩ := two_new wr 31 9 [.string pk, .int .i64 pvk, .int .i64 pvn, .string pvs, .bool pw, .bool false, .bool pf] [.string pk]
       have HW7 := Lib.hid hW7
       have HX7 := Lib.hid hx7
       have HN7 := Lib.hid (HEI.out.low hl7)
       have HU7 := Lib.hid (HKP.out.2.2.1.low hl7)
       have HZ7 := Lib.hid (HKP.out.2.2.2.low hl7)
       have HC7 := Lib.hid (Nat.le_trans HKP.out.2.1 hl7.size)
       have HB7 := Lib.hid (HKP.out.1.trans (hl7.mono HKP.out.1.size))
       clear hW7 hx7 hl7
       go_wp2_with (at_builtin; rw [HW7.out]; refine list_app2 rfl (.tmp 44) (.tmp 47) 41 9 _ 16 Tryz.underlying41 infoSt rfl (by decide) rfl w1.heap.size (.slice bA2 qm.length bc2) qm.length _ (by rfl) HN7.out.rb (wr.heap.size + 1) (.string pk) (by rfl) (HX7.out.cell rfl) rfl hq2 HC7.out ?_; intro nv w9 h1 h2 h3; obtain ⟨nA, nc, rfl⟩ := row_len h1; have HN9 := Lib.hid (HN7.out.met h1 h2 h3); have HU9 := Lib.hid (blk_grown HU7.out HN7.out.rb (by decide) h2); have HZ9 := Lib.hid (blk_grown HZ7.out HN7.out.rb (by decide) h2); have HC9 := Lib.hid (Nat.le_trans HC7.out h2.size); have HB9 := Lib.hid (grow_low2 HB7.out (Nat.le_refl _) HB.out.size HN7.out.rb h2); clear h1 h2 h3)
       go_roundw
       case rel => exact ⟨k + 1, (qo, qm ++ [pk]), hlt, by go_num, HNX, HN9, HB9.out, HC9.out, HU9.out, HZ9.out⟩
       case measure => simp [intOf]; omega
      | true =>
       simp only [Bool.true_and] at HNX
       cases hct : qm.contains pk with
       | true =>
        rw [hct] at HNX hst
        simp only [Bool.not_true, Bool.false_eq_true, if_false] at HNX
        clear hct
        go_wp2_with fail
        refine hst.mono ?_
        rintro e w6 ⟨rfl, hb⟩
        have HN6 := Lib.hid (HN5.out.low hb)
        have HP6 := Lib.hid (HP5.out.low hb)
        have HU6 := Lib.hid (HU5.out.low hb)
        have HZ6 := Lib.hid (HZ5.out.low hb)
        have HC6 := Lib.hid (Nat.le_trans HC5.out hb.size)
        have HB6 := Lib.hid (HB5.out.trans (hb.mono HB5.out.size))
        clear hb hst d0 d1 d2 d3 d4 d5 d6
        have hp0 := HP6.out.cell (k := 0) (v := .string pk) rfl
        have hb := below_new w6 (.cells #[.string pk] 9)
        have HX7 := Lib.hid (Blk.new w6 9 [.string pk])
        have HN7 := Lib.hid (HN6.out.low hb)
        have HU7 := Lib.hid (HU6.out.low hb)
        have HZ7 := Lib.hid (HZ6.out.low hb)
        have HC7 := Lib.hid (Nat.le_trans HC6.out hb.size)
        have HB7 := Lib.hid (HB6.out.trans (hb.mono HB6.out.size))
        clear hb
        go_wp2_with (at_builtin; refine list_app2 rfl (.tmp 44) (.tmp 47) 41 9 _ 16 Tryz.underlying41 infoSt rfl (by decide) rfl w1.heap.size (.slice bA2 qm.length bc2) qm.length _ (by rfl) HN7.out.rb w6.heap.size (.string pk) (by rfl) (HX7.out.cell rfl) rfl hq2 HC7.out ?_; intro nv w9 h1 h2 h3; obtain ⟨nA, nc, rfl⟩ := row_len h1; have HN9 := Lib.hid (HN7.out.met h1 h2 h3); have HU9 := Lib.hid (blk_grown HU7.out HN7.out.rb (by decide) h2); have HZ9 := Lib.hid (blk_grown HZ7.out HN7.out.rb (by decide) h2); have HC9 := Lib.hid (Nat.le_trans HC7.out h2.size); have HB9 := Lib.hid (grow_low2 HB7.out (Nat.le_refl _) HB.out.size HN7.out.rb h2); clear h1 h2 h3)
        clear hp0
        go_roundw
        case rel => exact ⟨k + 1, (qo, qm ++ [pk]), hlt, by go_num, HNX, HN9, HB9.out, HC9.out, HU9.out, HZ9.out⟩
        case measure => simp [intOf]; omega
       | false =>
        rw [hct] at HNX hst
        simp only [Bool.not_false, if_true] at HNX
        clear hct
        go_wp2_with fail
        refine hst.mono ?_
        rintro e w6 ⟨rfl, hb⟩
        have HN6 := Lib.hid (HN5.out.low hb)
        have HP6 := Lib.hid (HP5.out.low hb)
        have HU6 := Lib.hid (HU5.out.low hb)
        have HZ6 := Lib.hid (HZ5.out.low hb)
        have HC6 := Lib.hid (Nat.le_trans HC5.out hb.size)
        have HB6 := Lib.hid (HB5.out.trans (hb.mono HB5.out.size))
        clear hb hst d0 d1 d2 d3 d4 d5 d6
        have hp0 := HP6.out.cell (k := 0) (v := .string pk) rfl
        have hb := below_new w6 (.cells #[.string pk] 9)
        have HX7 := Lib.hid (Blk.new w6 9 [.string pk])
        have HN7 := Lib.hid (HN6.out.low hb)
        have HP7 := Lib.hid (HP6.out.low hb)
        have HU7 := Lib.hid (HU6.out.low hb)
        have HZ7 := Lib.hid (HZ6.out.low hb)
        have HC7 := Lib.hid (Nat.le_trans HC6.out hb.size)
        have HB7 := Lib.hid (HB6.out.trans (hb.mono HB6.out.size))
        clear hb
        go_wp2_with (at_builtin; first | (refine list_app2 rfl (.tmp 39) (.tmp 42) 41 9 _ 16 Tryz.underlying41 infoSt rfl (by decide) rfl w1.heap.size (.slice aA2 qo.length ac2) qo.length _ (by rfl) HN7.out.ra w6.heap.size (.string pk) (by rfl) (HX7.out.cell rfl) rfl hq1 HC7.out ?_; intro nv w8 h1 h2 h3; obtain ⟨mA, mc, rfl⟩ := row_len h1; have HN8 := Lib.hid (HN7.out.out h1 h2 h3); have HP8 := Lib.hid (blk_grown HP7.out HN7.out.ra (by decide) h2); have HU8 := Lib.hid (blk_grown HU7.out HN7.out.ra (by decide) h2); have HZ8 := Lib.hid (blk_grown HZ7.out HN7.out.ra (by decide) h2); have HC8 := Lib.hid (Nat.le_trans HC7.out h2.size); have HB8 := Lib.hid (grow_low2 HB7.out (Nat.le_refl _) HB.out.size HN7.out.ra h2); clear h1 h2 h3 HN7 HP7 HU7 HZ7 HC7 HB7 HX7 hp0; have hp0 := HP8.out.cell (k := 0) (v := .string pk) rfl; have hb := below_new w8 (.cells #[.string pk] 9); have HX7 := Lib.hid (Blk.new w8 9 [.string pk]); have HN7 := Lib.hid (HN8.out.low hb); have HU7 := Lib.hid (HU8.out.low hb); have HZ7 := Lib.hid (HZ8.out.low hb); have HC7 := Lib.hid (Nat.le_trans HC8.out hb.size); have HB7 := Lib.hid (HB8.out.trans (hb.mono HB8.out.size)); clear hb) | (refine list_app2 rfl (.tmp 44) (.tmp 47) 41 9 _ 16 Tryz.underlying41 infoSt rfl (by decide) rfl w1.heap.size (.slice bA2 qm.length bc2) qm.length _ (by rfl) HN7.out.rb _ (.string pk) (by rfl) (HX7.out.cell rfl) rfl hq2 HC7.out ?_; intro nv w9 h1 h2 h3; obtain ⟨nA, nc, rfl⟩ := row_len h1; have HN9 := Lib.hid (HN7.out.met h1 h2 h3); have HU9 := Lib.hid (blk_grown HU7.out HN7.out.rb (by decide) h2); have HZ9 := Lib.hid (blk_grown HZ7.out HN7.out.rb (by decide) h2); have HC9 := Lib.hid (Nat.le_trans HC7.out h2.size); have HB9 := Lib.hid (grow_low2 HB7.out (Nat.le_refl _) HB.out.size HN7.out.rb h2); clear h1 h2 h3))
        clear hp0
        go_roundw
        case rel => exact ⟨k + 1, (qo ++ [pk], qm ++ [pk]), hlt, by go_num, HNX, HN9, HB9.out, HC9.out, HU9.out, HZ9.out⟩
        case measure => simp [intOf]; omega
     ·obtain rfl : k = o.ps.length := by omega
      rw [List.take_length] at HST
      have c0 := HKP.out.2.2.2.cell (k := 0) (v := .string o.cls) rfl
      have c1 := HKP.out.2.2.2.cell (k := 1) (v := .int .i64 (refO o.proto).k) rfl
      have c2 := HKP.out.2.2.2.cell (k := 2) (v := .int .i64 (refO o.proto).n) rfl
      have c3 := HKP.out.2.2.2.cell (k := 3) (v := .string (refO o.proto).s) rfl
      obtain ⟨d0, d1, d2⟩ := Blk.three (v := ⟨uk, un, us⟩) HKP.out.2.2.1
      have zu := HKP.out.2.2.1.fz
      dsimp only at d0 d1 d2
      have HDQ : Hid (i + 1 ≤ gk) := by have := HE.out.dp; rw [HA.out] at this; exact this
      have HTO : Hid ((H.chain (H.at (refO o.proto))).foldl (stc H.os) (sto (lo, lm) o) = T) := by
       have := HE.out.tot
       rw [HA.out, stc_next HOK.out HO.out] at this
       exact this
      have HDP : Hid (dpt (H.at (refO o.proto)) ≤ i) := by
       show dpt (H.at (refO o.proto)) ≤ i
       rw [at_refO HOK.out HO.out]
       cases hp : o.proto with
       | none => exact Nat.zero_le _
       | some p => exact HOK.out.pw i o HO.out p hp
      have HSTO : Hid (sto (lo, lm) o = if o.cls = AR then (qo, qm ++ [LK]) else (qo, qm)) := by
       show sto (lo, lm) o = _
       unfold sto
       rw [HST.out]
      have HARC := Lib.hid (ar_eq o.cls)
      by_cases hcl : o.cls = AR
      ·have hca := HARC.out.trans (decide_eq_true hcl)
       rw [if_pos hcl] at HSTO
       clear hcl HARC
       go_wp2_with fail
       refine (ulen_any _).mono ?_
       rintro e w7 ⟨rfl, hb⟩
       have HN7 := Lib.hid (HEI.out.low hb)
       have HU7 := Lib.hid (HKP.out.2.2.1.low hb)
       have HZ7 := Lib.hid (HKP.out.2.2.2.low hb)
       have HC7 := Lib.hid (Nat.le_trans HKP.out.2.1 hb.size)
       have HB7 := Lib.hid (HKP.out.1.trans (hb.mono HKP.out.1.size))
       clear hb c0 c1 c2 c3 d0 d1 d2 zu
       have hb := below_new w7 (.cells #[.string LK] 9)
       have HX8 := Lib.hid (Blk.new w7 9 [.string LK])
       have HN8 := Lib.hid (HN7.out.low hb)
       have HU8 := Lib.hid (HU7.out.low hb)
       have HZ8 := Lib.hid (HZ7.out.low hb)
       have HC8 := Lib.hid (Nat.le_trans HC7.out hb.size)
       have HB8 := Lib.hid (HB7.out.trans (hb.mono HB7.out.size))
       clear hb
       go_wp2_with (at_builtin; refine list_app2 rfl (.tmp 53) (.tmp 55) 41 9 _ 16 Tryz.underlying41 infoSt rfl (by decide) rfl w1.heap.size (.slice bA2 qm.length bc2) qm.length _ (by rfl) HN8.out.rb w7.heap.size (.string LK) (by rfl) (HX8.out.cell rfl) rfl hq2 HC8.out ?_; intro nv w9 h1 h2 h3; obtain ⟨nA, nc, rfl⟩ := row_len h1; have HN9 := Lib.hid (HN8.out.met h1 h2 h3); have HU9 := Lib.hid (blk_grown HU8.out HN8.out.rb (by decide) h2); have HZ9 := Lib.hid (blk_grown HZ8.out HN8.out.rb (by decide) h2); have HC9 := Lib.hid (Nat.le_trans HC8.out h2.size); have HB9 := Lib.hid (grow_low2 HB8.out (Nat.le_refl _) HB.out.size HN8.out.rb h2); clear h1 h2 h3; have c1 := HZ9.out.cell (k := 1) (v := .int .i64 (refO o.proto).k) rfl; have c2 := HZ9.out.cell (k := 2) (v := .int .i64 (refO o.proto).n) rfl; have c3 := HZ9.out.cell (k := 3) (v := .string (refO o.proto).s) rfl; obtain ⟨d0, d1, d2⟩ := Blk.three (v := ⟨uk, un, us⟩) HU9.out; have zu := HU9.out.fz; dsimp only at d0 d1 d2)
       go_roundg (gk - 1)
       case measure => have := HDQ.out; omega
       case rel =>
        refine ⟨refO o.proto, (qo, qm ++ [LK]), ?_⟩
        refine ⟨set3_en HN9.out HU9.out (by decide), set3_new' HU9.out, set3_below HB9.out (Nat.le_refl _), by have := HC9.out; simpa [World.setCell] using this, ?_, by have := HDP.out; have := HDQ.out; omega, ?_⟩
        ·rw [← HSTO.out]
         exact HTO.out
        ·have h1 := HLEN.out
         have h2 := HE.out.len
         have h3 := HDQ.out
         dsimp only at h2
         simp only [List.length_append, List.length_cons, List.length_nil]
         constructor
         ·have : gk * 100001 = (gk - 1) * 100001 + 100001 := by omega
          omega
         ·omega
      ·have hca := HARC.out.trans (decide_eq_false hcl)
       rw [if_neg hcl] at HSTO
       clear hcl HARC
       go_wp2_with fail
       go_roundg (gk - 1)
       case measure => have := HDQ.out; omega
       case rel =>
        refine ⟨refO o.proto, (qo, qm), ?_⟩
        refine ⟨set3_en HEI.out HKP.out.2.2.1 (by decide), set3_new' HKP.out.2.2.1, set3_below HKP.out.1 (Nat.le_refl _), by have := HKP.out.2.1; simpa [World.setCell] using this, ?_, by have := HDP.out; have := HDQ.out; omega, ?_⟩
        ·rw [← HSTO.out]
         exact HTO.out
        ·have h1 := HLEN.out
         have h2 := HE.out.len
         have h3 := HDQ.out
         dsimp only at h2
         simp only [List.length_append, List.length_cons, List.length_nil]
         constructor
         ·have : gk * 100001 = (gk - 1) * 100001 + 100001 := by omega
          omega
         ·omega
   ·
    go_simp
    have hb := below_new w3 (.cells ob0.toArray 73)
    simp only [ob0] at hb
    have HBx := Lib.hid (HB3.out.trans (hb.mono HB3.out.size))
    have HUx := Lib.hid (HU3.out.low hb)
    have HNx := Lib.hid (HN3.out.low hb)
    have HCx := Lib.hid (Nat.le_trans HC3.out hb.size)
    have HZx : Hid (Blk (w3.alloc (.cells #[.string ⟨#[]⟩, .int .i64 0, .int .i64 0, .string ⟨#[]⟩, .slice none 0 0, .bool false, .int .i64 0, .bool false] 73)) w3.heap.size 73 ob0) := Blk.new w3 73 ob0
    have HZW : Hid (w1.heap.size ≤ w3.heap.size) := HC3.out
    generalize w3.heap.size = z at *
    generalize (w3.alloc (.cells #[.string ⟨#[]⟩, .int .i64 0, .int .i64 0, .string ⟨#[]⟩, .slice none 0 0, .bool false, .int .i64 0, .bool false] 73)) = w4 at *
    have HB4 := HBx
    have HU4 := HUx
    have HN4 := HNx
    have HC4 := HCx
    have HZ4 := HZx
    clear HBx HUx HNx HCx HZx
    have hs4 : (fun w' : World => (w'.cell? ⟨w.heap.size, 0, none⟩ = some (.int .i64 uk) ∧ w'.cell? ⟨w.heap.size, 1, none⟩ = some (.int .i64 un) ∧ w'.cell? ⟨w.heap.size, 2, none⟩ = some (.string us)) ∧ w'.cell? ⟨A, 0, none⟩ = some (.slice (some ⟨gb, 0, none⟩) H.os.length cap) ∧ (w'.cell? ⟨gb, i * 8, none⟩ = some (.string o.cls) ∧ w'.cell? ⟨gb, i * 8 + 1, none⟩ = some (.int .i64 (refO o.proto).k) ∧ w'.cell? ⟨gb, i * 8 + 2, none⟩ = some (.int .i64 (refO o.proto).n) ∧ w'.cell? ⟨gb, i * 8 + 3, none⟩ = some (.string (refO o.proto).s) ∧ w'.cell? ⟨gb, i * 8 + 4, none⟩ = some (.slice rA o.ps.length rc) ∧ w'.cell? ⟨gb, i * 8 + 5, none⟩ = some (.bool o.closed) ∧ w'.cell? ⟨gb, i * 8 + 6, none⟩ = some (.int .i64 (o.len : Int)) ∧ w'.cell? ⟨gb, i * 8 + 7, none⟩ = some (.bool o.lw))) w4 := ⟨Blk.three (v := ⟨uk, un, us⟩) HU4.out, (HRO.out.low HB4.out).c0, ro_cells (HRO.out.low HB4.out)⟩
    dsimp only at hs4
    clear hb HB3 HU3 HN3 HC3
    refine hK.out _ _ hs4 (fun hHeld1 => ?_)
    clear hK K hHeld0 
    try simp only [PT]
    refine wpAnyH_ready (rs := [6]) (by decide +kernel) (by simp) (AllReadyH.cons rfl (fun K hK => ?_) AllReadyH.nil)
    go_simp
    refine (HAT2.out _ HB4.out).mono ?_
    rintro e w5 ⟨rfl, hb⟩
    have HB5 := Lib.hid (HB4.out.trans (hb.mono HB4.out.size))
    have HU5 := Lib.hid (HU4.out.low hb)
    have HN5 := Lib.hid (HN4.out.low hb)
    have HC5 := Lib.hid (Nat.le_trans HC4.out hb.size)
    have HZ5 := Lib.hid (HZ4.out.low hb)
    have hs5 : (fun w' : World => (w'.cell? ⟨w.heap.size, 0, none⟩ = some (.int .i64 uk) ∧ w'.cell? ⟨w.heap.size, 1, none⟩ = some (.int .i64 un) ∧ w'.cell? ⟨w.heap.size, 2, none⟩ = some (.string us)) ∧ w'.cell? ⟨A, 0, none⟩ = some (.slice (some ⟨gb, 0, none⟩) H.os.length cap) ∧ (w'.cell? ⟨gb, i * 8, none⟩ = some (.string o.cls) ∧ w'.cell? ⟨gb, i * 8 + 1, none⟩ = some (.int .i64 (refO o.proto).k) ∧ w'.cell? ⟨gb, i * 8 + 2, none⟩ = some (.int .i64 (refO o.proto).n) ∧ w'.cell? ⟨gb, i * 8 + 3, none⟩ = some (.string (refO o.proto).s) ∧ w'.cell? ⟨gb, i * 8 + 4, none⟩ = some (.slice rA o.ps.length rc) ∧ w'.cell? ⟨gb, i * 8 + 5, none⟩ = some (.bool o.closed) ∧ w'.cell? ⟨gb, i * 8 + 6, none⟩ = some (.int .i64 (o.len : Int)) ∧ w'.cell? ⟨gb, i * 8 + 7, none⟩ = some (.bool o.lw))) w5 := ⟨Blk.three (v := ⟨uk, un, us⟩) HU5.out, (HRO.out.low HB5.out).c0, ro_cells (HRO.out.low HB5.out)⟩
    dsimp only at hs5
    clear hb HB4 HU4 HN4 HC4 HZ4
    refine hK.out _ _ hs5 (fun hHeld2 => ?_)
    clear hK K hHeld1 
    try simp only [PT]
    refine tk 7 ?_ ‹_› ?_ ?_; rotate_left; focus (intro w0 hSw; obtain ⟨⟨e0, e1, e2⟩, e3, ⟨f0, f1, f2, f3, f4, f5, f6, f7⟩⟩ := hSw; go_simp; try with_reducible rfl)
    refine tk 8 ?_ ‹_› ?_ ?_; rotate_left; focus (intro w0 hSw; obtain ⟨⟨e0, e1, e2⟩, e3, ⟨f0, f1, f2, f3, f4, f5, f6, f7⟩⟩ := hSw; go_simp; try with_reducible rfl)
    try simp only [PT]
    refine wpAnyH_ready (rs := [10]) (by decide +kernel) (by simp) (AllReadyH.cons rfl (fun K hK => ?_) AllReadyH.nil)
    have zc := fun (j : Nat) (u : Value) (hj : ob0[j]? = some u) => HZ5.out.cell hj
    have z0 := zc 0 _ rfl
    have z1 := zc 1 _ rfl
    have z2 := zc 2 _ rfl
    have z3 := zc 3 _ rfl
    have z4 := zc 4 _ rfl
    have z5 := zc 5 _ rfl
    have z6 := zc 6 _ rfl
    have z7 := zc 7 _ rfl
    have zf := HZ5.out.fz
    clear zc
    go_simp
    have HBx := Lib.hid (set8_below (a := .string o.cls) (b := .int .i64 (refO o.proto).k) (c := .int .i64 (refO o.proto).n) (d := .string (refO o.proto).s) (e := .slice rA o.ps.length rc) (f := .bool o.closed) (i := .int .i64 (o.len : Int)) (j := .bool o.lw) HB5.out (Nat.le_trans HB.out.size HZW.out))
    have HCx : Hid (w1.heap.size ≤ (((((((((w5.setCell ⟨z, 0, none⟩ (.string o.cls)).setCell ⟨z, 1, none⟩ (.int .i64 (refO o.proto).k)).setCell ⟨z, 2, none⟩ (.int .i64 (refO o.proto).n)).setCell ⟨z, 3, none⟩ (.string (refO o.proto).s)).setCell ⟨z, 4, none⟩ (.slice rA o.ps.length rc)).setCell ⟨z, 5, none⟩ (.bool o.closed)).setCell ⟨z, 6, none⟩ (.int .i64 (o.len : Int))).setCell ⟨z, 7, none⟩ (.bool o.lw))).heap.size) := by show w1.heap.size ≤ _; have := HC5.out; simpa [World.setCell] using this
    have HZx := Lib.hid (set8_new (a := .string o.cls) (b := .int .i64 (refO o.proto).k) (c := .int .i64 (refO o.proto).n) (d := .string (refO o.proto).s) (e := .slice rA o.ps.length rc) (f := .bool o.closed) (i := .int .i64 (o.len : Int)) (j := .bool o.lw) HZ5.out)
    have HUx := Lib.hid (set8_keep (a := .string o.cls) (b := .int .i64 (refO o.proto).k) (c := .int .i64 (refO o.proto).n) (d := .string (refO o.proto).s) (e := .slice rA o.ps.length rc) (f := .bool o.closed) (i := .int .i64 (o.len : Int)) (j := .bool o.lw) HU5.out (by have := HS0.out; have := HZW.out; omega : z ≠ w.heap.size))
    have HNx := Lib.hid (set8_en (a := .string o.cls) (b := .int .i64 (refO o.proto).k) (c := .int .i64 (refO o.proto).n) (d := .string (refO o.proto).s) (e := .slice rA o.ps.length rc) (f := .bool o.closed) (i := .int .i64 (o.len : Int)) (j := .bool o.lw) HN5.out HZ5.out (by decide))
    generalize ((((((((w5.setCell ⟨z, 0, none⟩ (.string o.cls)).setCell ⟨z, 1, none⟩ (.int .i64 (refO o.proto).k)).setCell ⟨z, 2, none⟩ (.int .i64 (refO o.proto).n)).setCell ⟨z, 3, none⟩ (.string (refO o.proto).s)).setCell ⟨z, 4, none⟩ (.slice rA o.ps.length rc)).setCell ⟨z, 5, none⟩ (.bool o.closed)).setCell ⟨z, 6, none⟩ (.int .i64 (o.len : Int))).setCell ⟨z, 7, none⟩ (.bool o.lw)) = w6 at *
    have HB6 := HBx
    have HU6 := HUx
    have HN6 := HNx
    have HC6 := HCx
    have HZ6 := HZx
    clear HBx HUx HNx HCx HZx z0 z1 z2 z3 z4 z5 z6 z7 zf HB5 HU5 HN5 HC5 HZ5
    have hs6 : (fun w' : World => (w'.cell? ⟨w.heap.size, 0, none⟩ = some (.int .i64 uk) ∧ w'.cell? ⟨w.heap.size, 1, none⟩ = some (.int .i64 un) ∧ w'.cell? ⟨w.heap.size, 2, none⟩ = some (.string us)) ∧ w'.cell? ⟨A, 0, none⟩ = some (.slice (some ⟨gb, 0, none⟩) H.os.length cap) ∧ (w'.cell? ⟨gb, i * 8, none⟩ = some (.string o.cls) ∧ w'.cell? ⟨gb, i * 8 + 1, none⟩ = some (.int .i64 (refO o.proto).k) ∧ w'.cell? ⟨gb, i * 8 + 2, none⟩ = some (.int .i64 (refO o.proto).n) ∧ w'.cell? ⟨gb, i * 8 + 3, none⟩ = some (.string (refO o.proto).s) ∧ w'.cell? ⟨gb, i * 8 + 4, none⟩ = some (.slice rA o.ps.length rc) ∧ w'.cell? ⟨gb, i * 8 + 5, none⟩ = some (.bool o.closed) ∧ w'.cell? ⟨gb, i * 8 + 6, none⟩ = some (.int .i64 (o.len : Int)) ∧ w'.cell? ⟨gb, i * 8 + 7, none⟩ = some (.bool o.lw))) w6 := ⟨Blk.three (v := ⟨uk, un, us⟩) HU6.out, (HRO.out.low HB6.out).c0, ro_cells (HRO.out.low HB6.out)⟩
    dsimp only at hs6
    refine hK.out _ _ hs6 (fun hHeld3 => ?_)
    clear hK K hHeld2 
    try simp only [PT]
    refine wpAnyH_done (by kernel_rfl) ?_ _
    clear hHeld3 hs6
    have z4 := HZ6.out.cell (k := 4) (v := .slice rA o.ps.length rc) rfl
    go_wp2_with fail
    clear z4
    go_loopw [5, 6, 26] (fun a b x wr => ∃ (k : Nat) (st : List ByteArray × List ByteArray), k ≤ o.ps.length ∧ x = .int .i64 k ∧ Hid ((o.ps.take k).foldl stp (lo, lm) = st) ∧ Hid (En2 w1.heap.size wr a b st) ∧ Hid (Below w.heap.size w wr ∧ w1.heap.size ≤ wr.heap.size ∧ Blk wr w.heap.size 29 [.int .i64 uk, .int .i64 un, .string us] ∧ Blk wr z 73 [.string o.cls, .int .i64 (refO o.proto).k, .int .i64 (refO o.proto).n, .string (refO o.proto).s, .slice rA o.ps.length rc, .bool o.closed, .int .i64 (o.len : Int), .bool o.lw])) (fun _ _ x _ => o.ps.length - (intOf x).toNat)
    case atStart => exact ⟨0, (lo, lm), Nat.zero_le _, rfl, Lib.hid rfl, HN6, HB6.out, HC6.out, HU6.out, HZ6.out⟩
    case round =>
     obtain ⟨k, ⟨qo, qm⟩, hk, rfl, HST, HEI, HKP⟩ := hrel
     obtain ⟨aA2, ac2, rfl⟩ := row_len HEI.out.ra
     obtain ⟨bA2, bc2, rfl⟩ := row_len HEI.out.rb
     dsimp only at HEI
     have HLEN : Hid (qm.length = lm.length + k ∧ qo.length ≤ lo.length + k) := by
      have h1 := stp_len (o.ps.take k) (lo, lm)
      rw [HST.out, List.length_take, Nat.min_eq_left hk] at h1
      exact h1
     have hq1 : qo.length ≤ 100000000000 := by have := HLEN.out.2; have := HE.out.len; dsimp only at this; omega
     have hq2 : qm.length ≤ 100000000000 := by have := HLEN.out.1; have := HE.out.len; dsimp only at this; omega
     have hq1i : (qo.length : Int) ≤ 100000000000 := by omega
     have hq2i : (qm.length : Int) ≤ 100000000000 := by omega
     by_cases hlt : k < o.ps.length
     ·obtain ⟨p, HP⟩ : ∃ p, Hid (o.ps[k]? = some p) := ⟨_, List.getElem?_eq_getElem hlt⟩
      obtain ⟨rA', rc', e1, -, hpc⟩ := HPW.out.low HKP.out.1
      obtain ⟨gp, e2, -, hcell⟩ := hpc k p HP.out
      injection e1 with e3 _ e5
      subst e5
      rw [e2] at e3
      subst e3
      have d0 := hcell 0 _ rfl
      have d1 := hcell 1 _ rfl
      have d2 := hcell 2 _ rfl
      have d3 := hcell 3 _ rfl
      have d4 := hcell 4 _ rfl
      have d5 := hcell 5 _ rfl
      have d6 := hcell 6 _ rfl
      simp only [Nat.add_zero] at d0
      have HNX : Hid ((o.ps.take (k + 1)).foldl stp (lo, lm) = (if p.e && !qm.contains p.key then qo ++ [p.key] else qo, qm ++ [p.key])) := by
       show _ = _
       rw [stp_is _ _ _ _ HP.out, HST.out]
       rfl
      have hbp := below_new wr (.cells (Pr.cs p).toArray 31)
      have HN5 := Lib.hid (HEI.out.low hbp)
      have HP5 := Lib.hid (Blk.new wr 31 (Pr.cs p))
      have HU5 := Lib.hid (HKP.out.2.2.1.low hbp)
      have HZ5 := Lib.hid (HKP.out.2.2.2.low hbp)
      have HC5 := Lib.hid (Nat.le_trans HKP.out.2.1 hbp.size)
      have HB5 := Lib.hid (HKP.out.1.trans (hbp.mono HKP.out.1.size))
      clear hpc hcell e2 hbp
      have hst := stands_any qm p.key (.slice bA2 qm.length bc2) _ (own_nm HN5.out.rb rfl rfl) hq2
      obtain ⟨pk, ⟨pvk, pvn, pvs⟩, pw, pe, pf⟩ := p
      simp only [Pr.cs] at d0 d1 d2 d3 d4 d5 d6 HN5 HP5 HU5 HZ5 HC5 HB5 hst HNX
      cases pe with
      | false =>
       simp only [Bool.false_and, Bool.false_eq_true, if_false] at HNX
       clear hst
       obtain ⟨W7, hW7, -, hx7, hl7⟩ := two_new wr 31 9 [.string pk, .int .i64 pvk, .int .i64 pvn, .string pvs, .bool pw, .bool false, .bool pf] [.string pk]
       have HW7 := Lib.hid hW7
       have HX7 := Lib.hid hx7
       have HN7 := Lib.hid (HEI.out.low hl7)
       have HU7 := Lib.hid (HKP.out.2.2.1.low hl7)
       have HZ7 := Lib.hid (HKP.out.2.2.2.low hl7)
       have HC7 := Lib.hid (Nat.le_trans HKP.out.2.1 hl7.size)
       have HB7 := Lib.hid (HKP.out.1.trans (hl7.mono HKP.out.1.size))
       clear hW7 hx7 hl7
       go_wp2_with (at_builtin; rw [HW7.out]; refine list_app2 rfl (.tmp 44) (.tmp 47) 41 9 _ 16 Tryz.underlying41 infoSt rfl (by decide) rfl w1.heap.size (.slice bA2 qm.length bc2) qm.length _ (by rfl) HN7.out.rb (wr.heap.size + 1) (.string pk) (by rfl) (HX7.out.cell rfl) rfl hq2 HC7.out ?_; intro nv w9 h1 h2 h3; obtain ⟨nA, nc, rfl⟩ := row_len h1; have HN9 := Lib.hid (HN7.out.met h1 h2 h3); have HU9 := Lib.hid (blk_grown HU7.out HN7.out.rb (by decide) h2); have HZ9 := Lib.hid (blk_grown HZ7.out HN7.out.rb (by decide) h2); have HC9 := Lib.hid (Nat.le_trans HC7.out h2.size); have HB9 := Lib.hid (grow_low2 HB7.out (Nat.le_refl _) HB.out.size HN7.out.rb h2); clear h1 h2 h3)
       go_roundw
       case rel => exact ⟨k + 1, (qo, qm ++ [pk]), hlt, by go_num, HNX, HN9, HB9.out, HC9.out, HU9.out, HZ9.out⟩
       case measure => simp [intOf]; omega
      | true =>
       simp only [Bool.true_and] at HNX
       cases hct : qm.contains pk with
       | true =>
        rw [hct] at HNX hst
        simp only [Bool.not_true, Bool.false_eq_true, if_false] at HNX
        clear hct
        go_wp2_with fail
        refine hst.mono ?_
        rintro e w6 ⟨rfl, hb⟩
        have HN6 := Lib.hid (HN5.out.low hb)
        have HP6 := Lib.hid (HP5.out.low hb)
        have HU6 := Lib.hid (HU5.out.low hb)
        have HZ6 := Lib.hid (HZ5.out.low hb)
        have HC6 := Lib.hid (Nat.le_trans HC5.out hb.size)
        have HB6 := Lib.hid (HB5.out.trans (hb.mono HB5.out.size))
        clear hb hst d0 d1 d2 d3 d4 d5 d6
        have hp0 := HP6.out.cell (k := 0) (v := .string pk) rfl
        have hb := below_new w6 (.cells #[.string pk] 9)
        have HX7 := Lib.hid (Blk.new w6 9 [.string pk])
        have HN7 := Lib.hid (HN6.out.low hb)
        have HU7 := Lib.hid (HU6.out.low hb)
        have HZ7 := Lib.hid (HZ6.out.low hb)
        have HC7 := Lib.hid (Nat.le_trans HC6.out hb.size)
        have HB7 := Lib.hid (HB6.out.trans (hb.mono HB6.out.size))
        clear hb
        go_wp2_with (at_builtin; refine list_app2 rfl (.tmp 44) (.tmp 47) 41 9 _ 16 Tryz.underlying41 infoSt rfl (by decide) rfl w1.heap.size (.slice bA2 qm.length bc2) qm.length _ (by rfl) HN7.out.rb w6.heap.size (.string pk) (by rfl) (HX7.out.cell rfl) rfl hq2 HC7.out ?_; intro nv w9 h1 h2 h3; obtain ⟨nA, nc, rfl⟩ := row_len h1; have HN9 := Lib.hid (HN7.out.met h1 h2 h3); have HU9 := Lib.hid (blk_grown HU7.out HN7.out.rb (by decide) h2); have HZ9 := Lib.hid (blk_grown HZ7.out HN7.out.rb (by decide) h2); have HC9 := Lib.hid (Nat.le_trans HC7.out h2.size); have HB9 := Lib.hid (grow_low2 HB7.out (Nat.le_refl _) HB.out.size HN7.out.rb h2); clear h1 h2 h3)
        clear hp0
        go_roundw
        case rel => exact ⟨k + 1, (qo, qm ++ [pk]), hlt, by go_num, HNX, HN9, HB9.out, HC9.out, HU9.out, HZ9.out⟩
        case measure => simp [intOf]; omega
       | false =>
        rw [hct] at HNX hst
        simp only [Bool.not_false, if_true] at HNX
        clear hct
        go_wp2_with fail
        refine hst.mono ?_
        rintro e w6 ⟨rfl, hb⟩
        have HN6 := Lib.hid (HN5.out.low hb)
        have HP6 := Lib.hid (HP5.out.low hb)
        have HU6 := Lib.hid (HU5.out.low hb)
        have HZ6 := Lib.hid (HZ5.out.low hb)
        have HC6 := Lib.hid (Nat.le_trans HC5.out hb.size)
        have HB6 := Lib.hid (HB5.out.trans (hb.mono HB5.out.size))
        clear hb hst d0 d1 d2 d3 d4 d5 d6
        have hp0 := HP6.out.cell (k := 0) (v := .string pk) rfl
        have hb := below_new w6 (.cells #[.string pk] 9)
        have HX7 := Lib.hid (Blk.new w6 9 [.string pk])
        have HN7 := Lib.hid (HN6.out.low hb)
        have HP7 := Lib.hid (HP6.out.low hb)
        have HU7 := Lib.hid (HU6.out.low hb)
        have HZ7 := Lib.hid (HZ6.out.low hb)
        have HC7 := Lib.hid (Nat.le_trans HC6.out hb.size)
        have HB7 := Lib.hid (HB6.out.trans (hb.mono HB6.out.size))
        clear hb
        go_wp2_with (at_builtin; first | (refine list_app2 rfl (.tmp 39) (.tmp 42) 41 9 _ 16 Tryz.underlying41 infoSt rfl (by decide) rfl w1.heap.size (.slice aA2 qo.length ac2) qo.length _ (by rfl) HN7.out.ra w6.heap.size (.string pk) (by rfl) (HX7.out.cell rfl) rfl hq1 HC7.out ?_; intro nv w8 h1 h2 h3; obtain ⟨mA, mc, rfl⟩ := row_len h1; have HN8 := Lib.hid (HN7.out.out h1 h2 h3); have HP8 := Lib.hid (blk_grown HP7.out HN7.out.ra (by decide) h2); have HU8 := Lib.hid (blk_grown HU7.out HN7.out.ra (by decide) h2); have HZ8 := Lib.hid (blk_grown HZ7.out HN7.out.ra (by decide) h2); have HC8 := Lib.hid (Nat.le_trans HC7.out h2.size); have HB8 := Lib.hid (grow_low2 HB7.out (Nat.le_refl _) HB.out.size HN7.out.ra h2); clear h1 h2 h3 HN7 HP7 HU7 HZ7 HC7 HB7 HX7 hp0; have hp0 := HP8.out.cell (k := 0) (v := .string pk) rfl; have hb := below_new w8 (.cells #[.string pk] 9); have HX7 := Lib.hid (Blk.new w8 9 [.string pk]); have HN7 := Lib.hid (HN8.out.low hb); have HU7 := Lib.hid (HU8.out.low hb); have HZ7 := Lib.hid (HZ8.out.low hb); have HC7 := Lib.hid (Nat.le_trans HC8.out hb.size); have HB7 := Lib.hid (HB8.out.trans (hb.mono HB8.out.size)); clear hb) | (refine list_app2 rfl (.tmp 44) (.tmp 47) 41 9 _ 16 Tryz.underlying41 infoSt rfl (by decide) rfl w1.heap.size (.slice bA2 qm.length bc2) qm.length _ (by rfl) HN7.out.rb _ (.string pk) (by rfl) (HX7.out.cell rfl) rfl hq2 HC7.out ?_; intro nv w9 h1 h2 h3; obtain ⟨nA, nc, rfl⟩ := row_len h1; have HN9 := Lib.hid (HN7.out.met h1 h2 h3); have HU9 := Lib.hid (blk_grown HU7.out HN7.out.rb (by decide) h2); have HZ9 := Lib.hid (blk_grown HZ7.out HN7.out.rb (by decide) h2); have HC9 := Lib.hid (Nat.le_trans HC7.out h2.size); have HB9 := Lib.hid (grow_low2 HB7.out (Nat.le_refl _) HB.out.size HN7.out.rb h2); clear h1 h2 h3))
        clear hp0
        go_roundw
        case rel => exact ⟨k + 1, (qo ++ [pk], qm ++ [pk]), hlt, by go_num, HNX, HN9, HB9.out, HC9.out, HU9.out, HZ9.out⟩
        case measure => simp [intOf]; omega
     ·obtain rfl : k = o.ps.length := by omega
      rw [List.take_length] at HST
      have c0 := HKP.out.2.2.2.cell (k := 0) (v := .string o.cls) rfl
      have c1 := HKP.out.2.2.2.cell (k := 1) (v := .int .i64 (refO o.proto).k) rfl
      have c2 := HKP.out.2.2.2.cell (k := 2) (v := .int .i64 (refO o.proto).n) rfl
      have c3 := HKP.out.2.2.2.cell (k := 3) (v := .string (refO o.proto).s) rfl
      obtain ⟨d0, d1, d2⟩ := Blk.three (v := ⟨uk, un, us⟩) HKP.out.2.2.1
      have zu := HKP.out.2.2.1.fz
      dsimp only at d0 d1 d2
      have HDQ : Hid (i + 1 ≤ gk) := by have := HE.out.dp; rw [HA.out] at this; exact this
      have HTO : Hid ((H.chain (H.at (refO o.proto))).foldl (stc H.os) (sto (lo, lm) o) = T) := by
       have := HE.out.tot
       rw [HA.out, stc_next HOK.out HO.out] at this
       exact this
      have HDP : Hid (dpt (H.at (refO o.proto)) ≤ i) := by
       show dpt (H.at (refO o.proto)) ≤ i
       rw [at_refO HOK.out HO.out]
       cases hp : o.proto with
       | none => exact Nat.zero_le _
       | some p => exact HOK.out.pw i o HO.out p hp
      have HSTO : Hid (sto (lo, lm) o = if o.cls = AR then (qo, qm ++ [LK]) else (qo, qm)) := by
       show sto (lo, lm) o = _
       unfold sto
       rw [HST.out]
      have HARC := Lib.hid (ar_eq o.cls)
      by_cases hcl : o.cls = AR
      ·have hca := HARC.out.trans (decide_eq_true hcl)
       rw [if_pos hcl] at HSTO
       clear hcl HARC
       go_wp2_with fail
       refine (ulen_any _).mono ?_
       rintro e w7 ⟨rfl, hb⟩
       have HN7 := Lib.hid (HEI.out.low hb)
       have HU7 := Lib.hid (HKP.out.2.2.1.low hb)
       have HZ7 := Lib.hid (HKP.out.2.2.2.low hb)
       have HC7 := Lib.hid (Nat.le_trans HKP.out.2.1 hb.size)
       have HB7 := Lib.hid (HKP.out.1.trans (hb.mono HKP.out.1.size))
       clear hb c0 c1 c2 c3 d0 d1 d2 zu
       have hb := below_new w7 (.cells #[.string LK] 9)
       have HX8 := Lib.hid (Blk.new w7 9 [.string LK])
       have HN8 := Lib.hid (HN7.out.low hb)
       have HU8 := Lib.hid (HU7.out.low hb)
       have HZ8 := Lib.hid (HZ7.out.low hb)
       have HC8 := Lib.hid (Nat.le_trans HC7.out hb.size)
       have HB8 := Lib.hid (HB7.out.trans (hb.mono HB7.out.size))
       clear hb
       go_wp2_with (at_builtin; refine list_app2 rfl (.tmp 53) (.tmp 55) 41 9 _ 16 Tryz.underlying41 infoSt rfl (by decide) rfl w1.heap.size (.slice bA2 qm.length bc2) qm.length _ (by rfl) HN8.out.rb w7.heap.size (.string LK) (by rfl) (HX8.out.cell rfl) rfl hq2 HC8.out ?_; intro nv w9 h1 h2 h3; obtain ⟨nA, nc, rfl⟩ := row_len h1; have HN9 := Lib.hid (HN8.out.met h1 h2 h3); have HU9 := Lib.hid (blk_grown HU8.out HN8.out.rb (by decide) h2); have HZ9 := Lib.hid (blk_grown HZ8.out HN8.out.rb (by decide) h2); have HC9 := Lib.hid (Nat.le_trans HC8.out h2.size); have HB9 := Lib.hid (grow_low2 HB8.out (Nat.le_refl _) HB.out.size HN8.out.rb h2); clear h1 h2 h3; have c1 := HZ9.out.cell (k := 1) (v := .int .i64 (refO o.proto).k) rfl; have c2 := HZ9.out.cell (k := 2) (v := .int .i64 (refO o.proto).n) rfl; have c3 := HZ9.out.cell (k := 3) (v := .string (refO o.proto).s) rfl; obtain ⟨d0, d1, d2⟩ := Blk.three (v := ⟨uk, un, us⟩) HU9.out; have zu := HU9.out.fz; dsimp only at d0 d1 d2)
       go_roundg (gk - 1)
       case measure => have := HDQ.out; omega
       case rel =>
        refine ⟨refO o.proto, (qo, qm ++ [LK]), ?_⟩
        refine ⟨set3_en HN9.out HU9.out (by decide), set3_new' HU9.out, set3_below HB9.out (Nat.le_refl _), by have := HC9.out; simpa [World.setCell] using this, ?_, by have := HDP.out; have := HDQ.out; omega, ?_⟩
        ·rw [← HSTO.out]
         exact HTO.out
        ·have h1 := HLEN.out
         have h2 := HE.out.len
         have h3 := HDQ.out
         dsimp only at h2
         simp only [List.length_append, List.length_cons, List.length_nil]
         constructor
         ·have : gk * 100001 = (gk - 1) * 100001 + 100001 := by omega
          omega
         ·omega
      ·have hca := HARC.out.trans (decide_eq_false hcl)
       rw [if_neg hcl] at HSTO
       clear hcl HARC
       go_wp2_with fail
       go_roundg (gk - 1)
       case measure => have := HDQ.out; omega
       case rel =>
        refine ⟨refO o.proto, (qo, qm), ?_⟩
        refine ⟨set3_en HEI.out HKP.out.2.2.1 (by decide), set3_new' HKP.out.2.2.1, set3_below HKP.out.1 (Nat.le_refl _), by have := HKP.out.2.1; simpa [World.setCell] using this, ?_, by have := HDP.out; have := HDQ.out; omega, ?_⟩
        ·rw [← HSTO.out]
         exact HTO.out
        ·have h1 := HLEN.out
         have h2 := HE.out.len
         have h3 := HDQ.out
         dsimp only at h2
         simp only [List.length_append, List.length_cons, List.length_nil]
         constructor
         ·have : gk * 100001 = (gk - 1) * 100001 + 100001 := by omega
          omega
         ·omega
end
end Go.Proofs.YtcahijpbkjplmaaGreatDoor.G
