/-
 A cell of a reference's object is written.
 The reference's Close, by contract.
 The reference's isLen, by contract.
 The reference's digit, by contract: it answers.
 A reference's properties in memory; the place of a key.
-/
import Derived.Test.YtcahijpbkjplmaaGreatDoorMTd
set_option linter.unusedSimpArgs false
namespace Go.Proofs.YtcahijpbkjplmaaGreatDoor.G
open Go.RowKit Go.Shelf Go.Maps Go.Lib Go.Proofs.YtcahijpbkjplmaaGreatDoor
theorem flat_set {α : Type} (f : α → List Value) (k : Nat) (hk : ∀ a, (f a).length = k) : ∀ (l : List α) (i j : Nat) (a a' : α) (u : Value), j < k → l[i]? = some a → f a' = (f a).set j u → ((l.set i a').map f).flatten = ((l.map f).flatten).set (i * k + j) u
 | [], i, j, a, a', u, _, h, _ => by simp at h
 | b :: l, 0, j, a, a', u, hj, h, he => by
  simp only [List.getElem?_cons_zero, Option.some.injEq] at h
  subst h
  rw [List.set_cons_zero, List.map_cons, List.flatten_cons, List.map_cons, List.flatten_cons, he, Nat.zero_mul, Nat.zero_add, List.set_append_left _ _ (by rw [hk]; exact hj)]
 | b :: l, i + 1, j, a, a', u, hj, h, he => by
  rw [List.set_cons_succ, List.map_cons, List.flatten_cons, List.map_cons, List.flatten_cons, flat_set f k hk l i j a a' u hj (by simpa using h) he, List.set_append_right _ _ (by rw [hk, Nat.succ_mul]; omega), hk, show (i + 1) * k + j - k = i * k + j by rw [Nat.succ_mul]; omega]
theorem row_set {w : World} {B n s : Nat} {T : TypeId} {g cap : Nat} {v : Value} {xs : List Value} (h : w.ownsRow B T s v n xs) (e : v = .slice (some ⟨g, 0, none⟩) n cap) {k : Nat} (hk : k < n * s) (u : Value) : (w.setCell ⟨g, k, none⟩ u).ownsRow B T s v n (xs.set k u) := by
 obtain ⟨hx, h2⟩ := h
 rcases h2 with ⟨e2, h0⟩ | ⟨g', cap', cur, e2, hb, hg, hn, hc, hs, htk⟩
 ·rw [h0, Nat.zero_mul] at hk
  omega
 ·have e3 := e.symm.trans e2
  injection e3 with e4 _ _
  injection e4 with e4
  injection e4 with e4 _ _
  subst e4
  refine ⟨by rw [List.length_set]; exact hx, .inr ⟨g, cap', cur.setIfInBounds k u, e2, hb, ?_, hn, hc, by rw [Array.size_setIfInBounds]; exact hs, ?_⟩⟩
  ·show (w.heap.modify g _)[g]? = _
   rw [Array.getElem?_modify, if_pos rfl, hg]
   rfl
  ·rw [← htk, Array.toList_setIfInBounds, List.take_set]
theorem zip_set {os : List Ob} {R : List Value} {i : Nat} {o' : Ob} {r : Value} (hr : R[i]? = some r) : (os.set i o').zip R = (os.zip R).set i (o', r) := by
 apply List.ext_getElem?
 intro j
 rw [List.getElem?_set]
 by_cases e : i = j
 ·subst e
  rw [if_pos rfl]
  by_cases hl : i < os.length
  ·have hz : i < (os.zip R).length := by
    rw [List.length_zip]
    have := (List.getElem?_eq_some_iff.1 hr).1
    omega
   rw [if_pos hz]
   exact List.getElem?_zip_eq_some.2 ⟨by rw [List.getElem?_set_self hl], hr⟩
  ·rw [if_neg (by rw [List.length_zip]; omega), List.getElem?_eq_none]
   rw [List.length_zip, List.length_set]
   omega
 ·rw [if_neg e]
  simp only [List.zip, List.getElem?_zipWith, List.getElem?_set_ne e]
section
variable {w w' : World} {ow : Nat → Option Nat} {A : Nat} {H : Hs} {R : List Value}
theorem RH.put (h : RH w A H ow R) {i j g cap : Nat} {o o' : Ob} {r u : Value} (ho : H.os[i]? = some o) (hr : R[i]? = some r) (hc : w.cell? ⟨A, 0, none⟩ = some (.slice (some ⟨g, 0, none⟩) H.os.length cap)) (hj : j < 8) (he : objV (o', r) = (objV (o, r)).set j u) (hps : o'.ps = o.ps) :
  RH (w.setCell ⟨g, i * 8 + j, none⟩ u) A (H.set i o') ow R := by
 obtain ⟨⟨ov, h1, h2, h3⟩, h4, h5, h6, h7, h8⟩ := h
 have hov : ov = .slice (some ⟨g, 0, none⟩) H.os.length cap := by
  have := h1.cell (k := 0) (v := ov) rfl
  rw [hc] at this
  exact (Option.some.inj this).symm
 have hgb : ov.ownBlock = some g := by rw [hov]; rfl
 have hi : i < H.os.length := (List.getElem?_eq_some_iff.1 ho).1
 have hAg : A ≠ g := h1.ne_row h2 (by decide) g hgb
 have hk : ∀ k, k ≠ g → (w.setCell ⟨g, i * 8 + j, none⟩ u).heap[k]? = w.heap[k]? := fun k hk => Below.heap_setCell _ _ _ _ hk
 have hlen : (H.set i o').os.length = H.os.length := by simp [Hs.set]
 refine ⟨⟨ov, h1.fr (hk A hAg), ?_, h3⟩, h4, by rw [hlen]; exact h5, fun k a b => ?_, h7, fun k hk => by simpa [World.setCell] using h8 k hk⟩
 ·rw [hlen]
  show World.ownsRow _ 0 _ 8 ov H.os.length ((((H.os.set i o').zip R).map objV).flatten)
  rw [zip_set hr, flat_set objV 8 objV_len (H.os.zip R) i j (o, r) (o', r) u hj (List.getElem?_zip_eq_some.2 ⟨ho, hr⟩) he]
  exact row_set h2 hov (by omega) u
 ·have hb : k < H.os.length := by rw [← hlen]; exact b
  have hne : ∀ q, R[k].ownBlock = some q → q ≠ g := fun q e => by
   have e1 := h7 k a q e
   have e2 := h3 g hgb
   rintro rfl
   rw [e2] at e1
   have := Option.some.inj e1
   omega
  have hpp : (H.set i o').os[k].ps = H.os[k].ps := by
   show ((H.os.set i o')[k]'(by simpa [Hs.set] using b)).ps = _
   by_cases e : i = k
   ·subst e
    rw [List.getElem_set_self, hps]
    rw [List.getElem?_eq_getElem hb] at ho
    rw [Option.some.inj ho]
   ·rw [List.getElem_set_ne e]
  rw [hpp]
  exact row_same (h6 k a hb) fun q e => hk q (hne q e)
end
structure Rch (w : World) (A : Nat) (ow : Nat → Option Nat) (H' : Hs) (w' : World) (ow' : Nat → Option Nat) (R' : List Value) : Prop where
 ph : RH w' A H' ow' R'
 new : ∀ k, ow' k ≠ none → ow k ≠ none ∨ w.heap.size ≤ k
 fr : Fr (Aw w ow) w w'
def RpR (w : World) (A : Nat) (ow : Nat → Option Nat) (v : Value) (H' : Hs) (e : Ending) (w' : World) : Prop := e = .returned v ∧ ∃ ow' R', Rch w A ow H' w' ow' R'
section
variable {w w' : World} {ow : Nat → Option Nat} {A : Nat} {H : Hs} {R : List Value}
set_option maxRecDepth 8000 in
theorem rclose_any (h : RH w A H ow R) (v : Vl) (hl : H.os.length ≤ 100000) :
  Calls Tryz.prog 42 #[pv A, v.v] w (RpR w A ow (.bool (H.close v).2) (H.close v).1) := by
 have hb0 := below_new w (.cells v.cs.toArray 29)
 have HH := Lib.hid (h.low hb0)
 have HLT := Lib.hid h.lt
 have HB := Lib.hid hb0
 have HT := Lib.hid (rat_any (h.low hb0) v hl)
 obtain ⟨r0, HR⟩ : ∃ r, Hid (H.close v = r) := ⟨_, rfl⟩
 rw [HR.out]
 clear h hb0
 cases hat : H.at v with
 | none =>
  have HV : Hid (H.close v = (H, false)) := by show H.close v = _; unfold Hs.close; rw [hat]
  rw [hat] at HT
  clear hat
  obtain ⟨vk, vn, vs⟩ := v
  simp only [Vl.v, Vl.cs, atI] at HB HT HH ⊢
  go_enter Tryz.func42, Tryz.ntmps42
  go_wp2_with fail
  refine HT.out.mono ?_
  rintro e w1 ⟨rfl, hb⟩
  go_wp2_with fail
  refine bodyPost_ret (results_tmp rfl _ _ _) rfl ?_
  rw [← HR.out, HV.out]
  exact ⟨rfl, ow, R, HH.out.low hb, fun _ e => .inl e, Fr.of (HB.out.trans (hb.mono HB.out.size)) fun _ hk => hk.1⟩
 | some i =>
  have hi := at_lt hat
  obtain ⟨o, ho⟩ : ∃ o, H.os[i]? = some o := ⟨H.os[i], List.getElem?_eq_getElem hi⟩
  have HV : Hid (H.close v = (H.set i { o with closed := true }, true)) := by show H.close v = _; unfold Hs.close; rw [hat]; dsimp only; rw [ho]
  rw [hat] at HT
  clear hat
  obtain ⟨vk, vn, vs⟩ := v
  simp only [Vl.v, Vl.cs, atI] at HB HT HH ⊢
  go_enter Tryz.func42, Tryz.ntmps42
  go_wp2_with fail
  refine HT.out.mono ?_
  rintro e w1 ⟨rfl, hb⟩
  have HH1 := Lib.hid (HH.out.low hb)
  obtain ⟨g, cap, r, c0, hcap, hr, hcell, hog⟩ := HH1.out.row ho
  have k5 := (hcell 5 _ rfl).1
  have z5 := (hcell 5 _ rfl).2
  have hii : (i : Int) < (H.os.length : Int) := by omega
  have HBB := Lib.hid (HB.out.trans (hb.mono HB.out.size))
  have HPU := Lib.hid (HH1.out.put (j := 5) (o' := { o with closed := true }) (u := .bool true) ho hr c0 (by decide) rfl rfl)
  clear hcell hb HT HB
  go_wp2_with fail
  refine bodyPost_ret (results_tmp rfl _ _ _) rfl ?_
  rw [← HR.out, HV.out]
  refine ⟨rfl, ow, R, HPU.out, fun _ e => .inl e, (Fr.of HBB.out fun _ hk => hk.1).setCell (p := ⟨g, i * 8 + 5, none⟩) (fun hk => ?_) _⟩
  have := hk.2
  rw [hog] at this
  cases this
end
theorem toList_eq_is (a b : ByteArray) : (a.toList == b.toList) = decide (a = b) := by
 rw [← beq_toListBytes, beq_bytes]
section
variable {w w' : World} {ow : Nat → Option Nat} {A : Nat} {H : Hs} {R : List Value}
set_option maxRecDepth 8000 in
theorem rislen_any (h : RH w A H ow R) (v : Vl) (key : ByteArray) (hl : H.os.length ≤ 100000) :
  Calls Tryz.prog 72 #[pv A, v.v, .string key] w fun e w' => e = .returned (.bool (decide (clsR (H.obj v) = AR) && decide (key = LK))) ∧ Below w.heap.size w w' := by
 have hb0 := below_new w (.cells v.cs.toArray 29)
 have HC := Lib.hid (rclass_any (h.low hb0) v hl)
 have HB := Lib.hid hb0
 have HU := Lib.hid ulen_any
 have HK := Lib.hid (toList_eq_is key LK)
 clear h hb0
 generalize clsR (H.obj v) = cls at *
 have HA := Lib.hid (ar_eq cls)
 obtain ⟨vk, vn, vs⟩ := v
 simp only [Vl.v, Vl.cs] at HB HC ⊢
 by_cases hc : cls = AR
 ·have ha := HA.out
  rw [decide_eq_true hc] at ha ⊢
  rw [Bool.true_and]
  clear HA hc
  go_enter Tryz.func72, Tryz.ntmps72
  go_wp2_with fail
  refine HC.out.mono ?_
  rintro e w1 ⟨rfl, hb⟩
  have HB1 := Lib.hid (HB.out.trans (hb.mono HB.out.size))
  clear hb HB HC
  go_wp2_with fail
  refine (HU.out _).mono ?_
  rintro e w2 ⟨rfl, hb⟩
  have HB2 := Lib.hid (HB1.out.trans (hb.mono HB1.out.size))
  have hk := HK.out
  clear hb HB1 HU HK
  go_wp2_with fail
  refine bodyPost_ret (results_tmp rfl _ _ _) rfl ⟨rfl, HB2.out⟩
 ·have ha := HA.out
  rw [decide_eq_false hc] at ha ⊢
  rw [Bool.false_and]
  clear HA hc
  go_enter Tryz.func72, Tryz.ntmps72
  go_wp2_with fail
  refine HC.out.mono ?_
  rintro e w1 ⟨rfl, hb⟩
  have HB1 := Lib.hid (HB.out.trans (hb.mono HB.out.size))
  clear hb HB HC
  go_wp2_with fail
  refine bodyPost_ret (results_tmp rfl _ _ _) rfl ⟨rfl, HB1.out⟩
end
def SomeB (w : World) (e : Ending) (w' : World) : Prop := ∃ b, e = .returned (.bool b) ∧ w = w'
theorem rdigit_any (key : ByteArray) (w : World) : Calls Tryz.prog 90 #[.string key] w (SomeB w) := by
 by_cases h1 : (1 : Int) < key.size
 ·go_enter Tryz.func90, Tryz.ntmps90
  go_wp2_with fail
  all_goals exact bodyPost_ret (results_tmp rfl _ _ _) rfl ⟨_, rfl, rfl⟩
 ·go_enter Tryz.func90, Tryz.ntmps90
  go_wp2_with fail
  exact bodyPost_ret (results_tmp rfl _ _ _) rfl ⟨_, rfl, rfl⟩
theorem idx_of {ps : List Pr} (hn : (ps.map (·.key)).Nodup) {n : Nat} {p : Pr} {key : ByteArray} (hp : ps[n]? = some p) (hk : p.key = key) : ps.findIdx? (has key) = some n := by
 have hl := (List.getElem?_eq_some_iff.1 hp).1
 rw [List.findIdx?_eq_some_iff_getElem]
 refine ⟨hl, decide_eq_true (by rw [(List.getElem?_eq_some_iff.1 hp).2]; exact hk), fun j hj => ?_⟩
 have hjl : j < ps.length := by omega
 have hne : ¬ ps[j].key = key := fun e => by
  have h1 : (ps.map (·.key))[j]'(by rw [List.length_map]; exact hjl) = (ps.map (·.key))[n]'(by rw [List.length_map]; exact hl) := by
   rw [List.getElem_map, List.getElem_map, e, (List.getElem?_eq_some_iff.1 hp).2, hk]
  have := (List.getElem_inj hn).1 h1
  omega
 simp [has, hne]
section
variable {w w' : World} {ow : Nat → Option Nat} {A : Nat} {H : Hs} {R : List Value}
theorem RH.props (h : RH w A H ow R) {i : Nat} {o : Ob} {r : Value} (ho : H.os[i]? = some o) (hr : R[i]? = some r) : w.ownsRow 0 31 7 r o.ps.length (o.ps.map Pr.cs).flatten ∧ ∀ g, r.ownBlock = some g → ow g = some (i + 1) := by
 have h1 := (List.getElem?_eq_some_iff.1 hr)
 have h2 := (List.getElem?_eq_some_iff.1 ho)
 have h3 := h.ps i h1.1 h2.1
 rw [h1.2, h2.2] at h3
 refine ⟨h3, fun g e => h.ra i h1.1 g (by rw [h1.2]; exact e)⟩
theorem prop_cell {T : TypeId} {r : Value} {ps : List Pr} {g cap k : Nat} {p : Pr} (h : w.ownsRow 0 T 7 r ps.length (ps.map Pr.cs).flatten) (e : r = .slice (some ⟨g, 0, none⟩) ps.length cap) (hp : ps[k]? = some p) {j : Nat} {u : Value} (hj : (Pr.cs p)[j]? = some u) :
  w.cell? ⟨g, k * 7 + j, none⟩ = some u ∧ w.frozen? ⟨g, k * 7 + j, none⟩ = false := by
 have hj7 : j < 7 := by
  have := (List.getElem?_eq_some_iff.1 hj).1
  rw [prV_len] at this
  exact this
 refine rows_cell h e ?_
 rw [flat_get Pr.cs 7 prV_len _ k j hj7, hp]
 exact hj
end
end Go.Proofs.YtcahijpbkjplmaaGreatDoor.G
