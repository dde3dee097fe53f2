/-
 append of elements of more cells than one; the reference's Make, by contract.
 A reference's object: its properties' slice is replaced.
 The reference's index, by contract: a number as a key.
 The reference's Array, by contract.
 The reference's Array, by contract.
-/
import Derived.Test.YtcahijpbkjplmaaGreatDoorMKf
import Derived.Test.YtcahijpbkjplmaaGreatDoorMFn
import Derived.Test.YtcahijpbkjplmaaGreatDoorMZ0
import Derived.Test.YtcahijpbkjplmaaGreatDoorMGh
set_option linter.unusedSimpArgs false
namespace Go.Proofs.YtcahijpbkjplmaaGreatDoor.G
open Go.RowKit Go.Shelf Go.Maps Go.Lib Go.Proofs.YtcahijpbkjplmaaGreatDoor
theorem run_appK {w : World} (t e ty : TypeId) (z : Value) (s bytes : Nat) (ht : Tryz.prog.underlying t = some (.slice e))
  (hin : (Tryz.prog.info? e).map (fun i => (i.zero, i.size, i.bytes)) = some (some z, s, bytes)) (hz : z.cells.size = s) (hs0 : 0 < s) (hbt : bytes ≤ 128)
  (C : Nat) (nv : Value) (n : Nat) (xs : List Value) (hown : w.ownsRow C e s nv n xs) (g p m c : Nat) (ys : List Value) (hyl : ys.length = m * s) (hc : ∀ j u, ys[j]? = some u → w.cell? ⟨g, p + j, none⟩ = some u) (h1 : ∀ u ∈ ys, u.oneCell' = true) (hl : n + m ≤ 4194304) (hb : C ≤ w.heap.size) :
  ∃ v' w', (Builtin.append_ #[t, t] ty #[nv, .slice (some ⟨g, p, none⟩) m c]).run Tryz.prog w = .ok v' w' ∧ w'.ownsRow C e s v' (n + m) (xs ++ ys) ∧ w.grownBy w' nv.ownBlock ∧ (v'.ownBlock = nv.ownBlock ∨ v'.ownBlock = some w.heap.size) := by
 obtain ⟨i0, hi0, hz0, hz1, hz2⟩ := info_parts hin
 obtain ⟨nv', w', hr, q2, q3, -, q5⟩ := run_append_own_at (P := Tryz.prog) w C t ty e i0 z s bytes ht hi0 hz0 hz1 hz2 hz hs0 nv n xs hown ⟨g, p, none⟩ m c ys hyl
  (fun j u hj => by rw [add_lit]; exact hc j u hj) h1 (by unfold maxLen; omega)
  (Nat.le_trans (Nat.mul_le_mul hl hbt) (by decide)) hb
 exact ⟨nv', w', hr, q2, q3, q5⟩
theorem step_appK {ops : Array Oper} {o : Oper} {a : Act} {w : World} {K : Act → World → Prop} {Q : Exit → Act → World → Prop} {E : Prop} (hgd : o.guard = none) (s x : Operand) (t : TypeId)
  (ho : o.op = .call { callee := .builtin .append, args := #[s, x], argTypes := #[t, t] }) (nv y : Value) (hs : a.eval s = nv) (hx : a.eval x = y) (nv' : Value) (w' : World)
  (hr : (Builtin.append_ #[t, t] o.type #[nv, y]).run Tryz.prog w = .ok nv' w') (h : K (a.put o.dst nv') w') :
  if Region.wanted o (yielded ops a.tmps) = true then Oper.wp Tryz.prog o a w K Q else E := by
 have hw : Region.wanted o (yielded ops a.tmps) = true := by simp [Region.wanted, hgd]
 rw [if_pos hw]
 unfold Oper.wp execOp
 simp only [ho, resolve, invoke, builtin, Sem.run_bind, Sem.run_pure, Result.andThen_ok, List.map_toArray, List.map_cons, List.map_nil, hs, hx, hr]
 exact h
theorem infoOb : (Tryz.prog.info? 73).map (fun i => (i.zero, i.size, i.bytes)) = some (some (.agg ob0.toArray), 8, 96) := by kernel_rfl
theorem infoPr' : (Tryz.prog.info? 31).map (fun i => (i.zero, i.size, i.bytes)) = some (some pr0.v', 7, 56) := by kernel_rfl
section
variable {w w' w1 w2 : World} {ow ow1 ow2 : Nat → Option Nat} {A i : Nat} {H H1 H2 : Hs} {R R1 R2 : List Value} {o : Ob}
theorem Rch.below (h : RH w A H ow R) (hb : Below w.heap.size w w1) : Rch w A ow H w1 ow R := ⟨h.low hb, fun _ e => .inl e, Fr.of hb fun _ hk => hk.1⟩
theorem Rch.trans (h : Rch w A ow H1 w1 ow1 R1) (k : Rch w1 A ow1 H2 w2 ow2 R2) : Rch w A ow H2 w2 ow2 R2 := by
 refine ⟨k.ph, fun j hj => ?_, h.fr.trans (k.fr.mono fun j hj => ?_)⟩
 ·rcases k.new j hj with e | e
  ·exact h.new j e
  ·exact .inr (Nat.le_trans h.fr.size e)
 ·refine ⟨Nat.lt_of_lt_of_le hj.1 h.fr.size, ?_⟩
  cases e : ow1 j with
  | none => rfl
  | some r =>
   rcases h.new j (by rw [e]; simp) with e2 | e2
   ·exact absurd hj.2 e2
   ·have := hj.1; omega
theorem Rch.low (h : Rch w1 A ow H1 w2 ow1 R1) (hb : Below w.heap.size w w1) : Rch w A ow H1 w2 ow1 R1 :=
 ⟨h.ph, fun _ hj => (h.new _ hj).imp id fun e => Nat.le_trans hb.size e, (Fr.of (F := Aw w ow) hb fun _ hk => hk.1).trans (h.fr.mono fun _ hj => ⟨Nat.lt_of_lt_of_le hj.1 hb.size, hj.2⟩)⟩
theorem RH.off (h : RH w A H ow R) {k : Nat} (hk : w.heap.size ≤ k) : ow k = none := by
 cases e : ow k with
 | none => rfl
 | some r => exact absurd (h.lt k (by rw [e]; simp)) (by omega)
theorem RH.set3 (h : RH w A H ow R) {g : Nat} {x y z : Value} (ho : ow g = none) : RH (((w.setCell ⟨g, 0, none⟩ x).setCell ⟨g, 1, none⟩ y).setCell ⟨g, 2, none⟩ z) A H ow R := by
 have hzo : ∀ j, ow j ≠ none → j ≠ g := fun j hj e => hj (by rw [e]; exact ho)
 exact h.fr (fun j hj => by rw [Below.heap_setCell _ _ _ _ (hzo j hj), Below.heap_setCell _ _ _ _ (hzo j hj), Below.heap_setCell _ _ _ _ (hzo j hj)]) (by simp [World.setCell])
theorem RH.push (h : RH w A H ow R) {nv ov : Value} {o : Ob} {m : Nat} (ho : o.ps = []) (hov : w.cell? ⟨A, 0, none⟩ = some ov) (hA : Blk w1 A 39 [nv, .int .i64 (H.most : Int), .int .i64 (m : Int)])
  (hrow : w1.ownsRow 0 73 8 nv (H.os.length + 1) (((H.os.zip R).map objV).flatten ++ objV (o, .slice none 0 0)))
  (hnv : nv.ownBlock = ov.ownBlock ∨ ∀ k, nv.ownBlock = some k → w.heap.size ≤ k) (hf : ∀ k r, ow k = some r → r ≠ 0 → w1.heap[k]? = w.heap[k]?) (hs : w.heap.size ≤ w1.heap.size) :
  ∃ ow', RH w1 A { os := H.os ++ [o], most := H.most, n := m } ow' (R ++ [.slice none 0 0]) ∧ ∀ k, ow' k ≠ none → ow k ≠ none ∨ w.heap.size ≤ k := by
 obtain ⟨⟨ov', h1, h2, h3⟩, h4, h5, h6, h7, h8⟩ := h
 have hov' : ov = ov' := by
  have := h1.cell (k := 0) (v := ov') rfl
  rw [hov] at this
  exact Option.some.inj this
 subst hov'
 have old : ∀ k r, ow k = some r → (if nv.ownBlock = some k then some 0 else ow k) = some r := fun k r e => by
  by_cases e2 : nv.ownBlock = some k
  ·rw [if_pos e2]
   rcases hnv with e3 | e3
   ·rw [e3] at e2
    rw [← e, h3 k e2]
   ·have := e3 k e2
    have := h8 k (by rw [e]; simp)
    omega
  ·rw [if_neg e2]
   exact e
 refine ⟨fun k => if nv.ownBlock = some k then some 0 else ow k, ⟨⟨nv, hA, ?_, fun g e => if_pos e⟩, old A 0 h4, ?_, ?_, ?_, ?_⟩, fun k hk => ?_⟩
 ·show w1.ownsRow 0 _ 8 nv (H.os ++ [o]).length ((((H.os ++ [o]).zip (R ++ [.slice none 0 0])).map objV).flatten)
  rw [List.length_append, List.zip_append h5.symm, List.map_append, List.flatten_append]
  exact hrow
 ·show (R ++ [_]).length = (H.os ++ [o]).length
  rw [List.length_append, List.length_append, h5]
  rfl
 ·intro j a b
  have hjb : j < (H.os ++ [o]).length := b
  rw [List.length_append, List.length_singleton] at hjb
  by_cases hj : j < H.os.length
  ·have e1 : (R ++ [Value.slice none 0 0])[j] = R[j]'(by rw [h5]; exact hj) := List.getElem_append_left (by rw [h5]; exact hj)
   have e2 : (H.os ++ [o])[j]'b = H.os[j] := List.getElem_append_left hj
   show w1.ownsRow 0 _ 7 (R ++ [Value.slice none 0 0])[j] ((H.os ++ [o])[j]'b).ps.length (((H.os ++ [o])[j]'b).ps.map Pr.cs).flatten
   rw [e1, e2]
   exact row_same (h6 j (by rw [h5]; exact hj) hj) fun k e => hf k (j + 1) (h7 j (by rw [h5]; exact hj) k e) (by omega)
  ·have hje : j = H.os.length := by omega
   subst hje
   have e1 : (R ++ [Value.slice none 0 0])[H.os.length] = .slice none 0 0 := by
    rw [List.getElem_append_right (by omega)]
    simp [h5]
   have e2 : (H.os ++ [o])[H.os.length]'b = o := by
    rw [List.getElem_append_right (by omega)]
    simp
   show w1.ownsRow 0 _ 7 (R ++ [Value.slice none 0 0])[H.os.length] ((H.os ++ [o])[H.os.length]'b).ps.length (((H.os ++ [o])[H.os.length]'b).ps.map Pr.cs).flatten
   rw [e1, e2, ho]
   exact row_nil _ _ _ _
 ·intro j a g e
  by_cases hj : j < R.length
  ·have e1 : (R ++ [Value.slice none 0 0])[j] = R[j] := List.getElem_append_left hj
   rw [e1] at e
   exact old g _ (h7 j hj g e)
  ·have hja : j < (R ++ [Value.slice none 0 0]).length := a
   rw [List.length_append, List.length_singleton] at hja
   have e1 : (R ++ [Value.slice none 0 0])[j] = .slice none 0 0 := by
    rw [List.getElem_append_right (by omega)]
    simp
   rw [e1] at e
   cases e
 ·intro k hk
  split at hk
  ·rename_i e
   exact (hrow.lt k e).2
  ·exact Nat.lt_of_lt_of_le (h8 k hk) hs
 ·dsimp only at hk
  split at hk
  ·rename_i e
   rcases hnv with e3 | e3
   ·left
    rw [h3 k (e3.symm.trans e)]
    simp
   ·exact .inr (e3 k e)
  ·exact .inl hk
theorem at_val {v : Vl} {j : Nat} (h : H.at v = some j) : refO (some j) = v := by
 obtain ⟨a, b, c, d⟩ := at_some.1 h
 obtain ⟨vk, vn, vs⟩ := v
 dsimp only at a b c
 subst a b c
 rfl
set_option maxRecDepth 8000 in
set_option maxHeartbeats 2000000 in
theorem rmake_any (h : RH w A H ow R) (g : Gd H) (cls : ByteArray) (v : Vl) :
  Calls Tryz.prog 32 #[pv A, .string cls, v.v] w (RpR w A ow (makeR (H.make cls v).2) (H.make cls v).1) := by
 rcases Nat.lt_or_ge H.n H.most with hm | hm
 ·have hb0 := two_low (w := w) 29 29 v.cs (Vl.cs vundef)
  have HB := Lib.hid hb0
  have HTK := Lib.hid (rtake_some (h.low hb0) hm g.mx)
  have HAT := Lib.hid fun (w1 : World) (hp : RH w1 A { H with n := H.n + 1 } ow R) => rat_any hp v g.os100
  have HV := Lib.hid (blk_two' w 29 29 v.cs (Vl.cs vundef)).1
  have HR := Lib.hid (blk_two' w 29 29 v.cs (Vl.cs vundef)).2
  have HH := Lib.hid h
  have hAl : A < w.heap.size := by obtain ⟨ov, hov, -, -⟩ := h.hb; exact hov.lt
  have HAL := Lib.hid hAl
  have HMK : Hid (H.make cls v = ({ os := H.os ++ [⟨cls, H.at v, [], false, 0, true⟩], most := H.most, n := H.n + 1 }, some H.os.length)) := by
   show H.make cls v = _
   unfold Hs.make
   rw [if_neg (by omega)]
  have hol : H.os.length ≤ 100000 := g.os100
  have HOL := Lib.hid hol
  rw [HMK.out]
  have hat1 : Hs.at { H with n := H.n + 1 } v = H.at v := rfl
  rw [hat1] at HAT
  clear h g hb0 hm HMK hAl hat1
  obtain ⟨pr, HPR⟩ : ∃ pr, Hid (refO (H.at v) = pr) := ⟨_, rfl⟩
  have hcase : (∃ j : Nat, atI (H.at v) = (j : Int) ∧ pr = v) ∨ (atI (H.at v) = -1 ∧ pr = null) := by
   cases hv : H.at v with
   | none => exact .inr ⟨rfl, by rw [← HPR.out, hv]; rfl⟩
   | some j => exact .inl ⟨j, rfl, by rw [← HPR.out, hv]; exact at_val hv⟩
  have HCASE := Lib.hid hcase
  clear hcase
  generalize hq : H.at v = q at *
  clear hq
  obtain ⟨vk, vn, vs⟩ := v
  simp only [Vl.v, Vl.cs, vundef, nil] at HB HTK HAT HV HR ⊢
  go_enter Tryz.func32, Tryz.ntmps32
  go_wp2_with fail
  refine HTK.out.mono ?_
  rintro e w1 ⟨rfl, hp1, hf1⟩
  have HV1 := Lib.hid (HV.out.fr (hf1.block _ ⟨HV.out.lt, by have := HAL.out; omega⟩))
  have HR1 := Lib.hid (HR.out.fr (hf1.block _ ⟨HR.out.lt, by have := HAL.out; omega⟩))
  have HF1 : Hid (Fr (fun k => k < w.heap.size ∧ k ≠ A) w w1) := (Fr.of HB.out fun k hk => hk.1).trans (hf1.mono fun k hk => ⟨Nat.lt_of_lt_of_le hk.1 HB.out.size, hk.2⟩)
  have HP1 := Lib.hid hp1
  have hat := HAT.out _ hp1
  obtain ⟨d0, d1, d2⟩ := Blk.three (v := ⟨vk, vn, vs⟩) HV1.out
  dsimp only at d0 d1 d2
  clear hp1 hf1 HTK HV HR
  rcases HCASE.out with ⟨j, e1, rfl⟩ | ⟨e1, rfl⟩
  ·rw [e1] at hat
   have hj : (0 : Int) ≤ (j : Int) := by omega
   clear e1
   go_wp2_with fail
   refine hat.mono ?_
   rintro e w2 ⟨rfl, hb⟩
   have HP2 := Lib.hid (HP1.out.low (hb.drew))
   have HV2 := Lib.hid (HV1.out.low hb.drew)
   have HR2 := Lib.hid (HR1.out.low hb.drew)
   have HF2 : Hid (Fr (fun k => k < w.heap.size ∧ k ≠ A) w w2.drew) := HF1.out.trans (Fr.of hb.drew fun k hk => Nat.lt_of_lt_of_le hk.1 HF1.out.size)
   clear hb hat d0 d1 d2 HP1 HV1 HR1 HF1
   obtain ⟨ov, hov, hrow, hown⟩ := HP2.out.hb
   obtain ⟨oA, oc, hoe, -, -⟩ := rows_form hrow
   subst hoe
   have HOV := Lib.hid hov
   have HRW := Lib.hid hrow
   have HOWN := Lib.hid hown
   have hs0 : (fun w' : World => w'.cell? ⟨w.heap.size, 0, none⟩ = some (.int .i64 vk) ∧ w'.cell? ⟨w.heap.size, 1, none⟩ = some (.int .i64 vn) ∧ w'.cell? ⟨w.heap.size, 2, none⟩ = some (.string vs)) w2.drew := Blk.three (v := ⟨vk, vn, vs⟩) HV2.out
   dsimp only at hs0
   clear hov hrow hown
   go_wp2_with fail
   refine wp_region_held_drew (S := (fun w' : World => w'.cell? ⟨w.heap.size, 0, none⟩ = some (.int .i64 vk) ∧ w'.cell? ⟨w.heap.size, 1, none⟩ = some (.int .i64 vn) ∧ w'.cell? ⟨w.heap.size, 2, none⟩ = some (.string vs))) (by kernel_rfl) (hs0) (fun hHeld0 => ?_)
   generalize w2.drew = w3 at *
   refine tk 0 ?_ ‹_› ?_ ?_; rotate_left; focus (intro w0 hSw; obtain ⟨e0, e1, e2⟩ := hSw; go_simp; try with_reducible rfl)
   refine tk 1 ?_ ‹_› ?_ ?_; rotate_left; focus (intro w0 hSw; obtain ⟨e0, e1, e2⟩ := hSw; go_simp; try with_reducible rfl)
   refine tk 2 ?_ ‹_› ?_ ?_; rotate_left; focus (intro w0 hSw; obtain ⟨e0, e1, e2⟩ := hSw; go_simp; try with_reducible rfl)
   refine tk 3 ?_ ‹_› ?_ ?_; rotate_left; focus (intro w0 hSw; obtain ⟨e0, e1, e2⟩ := hSw; go_simp; try with_reducible rfl)
   refine tk 5 ?_ ‹_› ?_ ?_; rotate_left; focus (intro w0 hSw; obtain ⟨e0, e1, e2⟩ := hSw; go_simp; try with_reducible rfl)
   refine tk 6 ?_ ‹_› ?_ ?_; rotate_left; focus (intro w0 hSw; obtain ⟨e0, e1, e2⟩ := hSw; go_simp; try with_reducible rfl)
   refine tk 7 ?_ ‹_› ?_ ?_; rotate_left; focus (intro w0 hSw; obtain ⟨e0, e1, e2⟩ := hSw; go_simp; try with_reducible rfl)
   try simp only [PT]
   refine wpAnyH_ready (rs := [4, 8]) (by decide +kernel) (by simp) (AllReadyH.cons rfl (fun K hK => ?_) (AllReadyH.cons rfl (fun K hK => ?_) AllReadyH.nil))
   ·
    have c0 := HOV.out.cell (k := 0) (v := .slice oA H.os.length oc) rfl
    go_simp
    refine hK.out _ _ hs0 (fun hHeld1 => ?_)
    clear hK K hHeld0 c0
    try simp only [PT]
    refine wpAnyH_ready (rs := [8]) (by decide +kernel) (by simp) (AllReadyH.cons rfl (fun K hK => ?_) AllReadyH.nil)
    go_simp
    have hb := below_new w3 (.cells #[.string cls, .int .i64 vk, .int .i64 vn, .string vs, .slice none 0 0, .bool false, .int .i64 0, .bool true] 73)
    have HV4 := Lib.hid (HV2.out.low hb)
    have HR4 := Lib.hid (HR2.out.low hb)
    have HOV4 := Lib.hid (HOV.out.low hb)
    have HB4 := Lib.hid hb
    have HRW4 : Hid ((w3.alloc (.cells #[.string cls, .int .i64 vk, .int .i64 vn, .string vs, .slice none 0 0, .bool false, .int .i64 0, .bool true] 73)).ownsRow 0 73 8 (.slice oA H.os.length oc) H.os.length ((H.os.zip R).map objV).flatten) := row_same HRW.out fun k e => hb.block k (HRW.out.lt k e).2
    have HX4 := Lib.hid (Blk.new w3 73 [.string cls, .int .i64 vk, .int .i64 vn, .string vs, .slice none 0 0, .bool false, .int .i64 0, .bool true])
    have hs4 : (fun w' : World => w'.cell? ⟨w.heap.size, 0, none⟩ = some (.int .i64 vk) ∧ w'.cell? ⟨w.heap.size, 1, none⟩ = some (.int .i64 vn) ∧ w'.cell? ⟨w.heap.size, 2, none⟩ = some (.string vs)) (w3.alloc (.cells #[.string cls, .int .i64 vk, .int .i64 vn, .string vs, .slice none 0 0, .bool false, .int .i64 0, .bool true] 73)) := Blk.three (v := ⟨vk, vn, vs⟩) HV4.out
    dsimp only at hs4
    clear hb
    refine hK.out _ _ hs4 (fun hHeld2 => ?_)
    clear hK K hHeld1
    obtain ⟨xb, hxb⟩ : ∃ xb, w3.heap.size = xb := ⟨_, rfl⟩
    have HXB := Lib.hid hxb
    rw [hxb] at HX4 ⊢
    clear hxb
    generalize (w3.alloc (.cells #[.string cls, .int .i64 vk, .int .i64 vn, .string vs, .slice none 0 0, .bool false, .int .i64 0, .bool true] 73)) = w4 at *
    try simp only [PT]
    refine wpAnyH_ready (rs := [9]) (by decide +kernel) (by simp) (AllReadyH.cons rfl (fun K hK => ?_) AllReadyH.nil)
    obtain ⟨nv, w5, hr5, hrow5, hg5, hn5⟩ := run_appK (w := w4) 37 73 37 _ 8 96 Tryz.underlying37 infoOb rfl (by decide) (by decide) 0 _ _ _ HRW4.out xb 0 1 1 [.string cls, .int .i64 vk, .int .i64 vn, .string vs, .slice none 0 0, .bool false, .int .i64 0, .bool true] rfl (fun j u hj => by rw [Nat.zero_add]; exact HX4.out.cell hj) (by intro u hu; simp only [List.mem_cons, List.not_mem_nil, or_false] at hu; rcases hu with rfl | rfl | rfl | rfl | rfl | rfl | rfl | rfl <;> rfl) (by have := HOL.out; omega) (Nat.zero_le _)
    have HF5 := Lib.hid ((Fr.of (F := fun k => k < w4.heap.size ∧ (Value.slice oA H.os.length oc).ownBlock ≠ some k) (Below.refl w4.heap.size w4) fun k hk => hk.1).grown (fun k hk => hk.1) hg5 fun k e hk => hk.2 e)
    have hne : ∀ B T xs, Blk w4 B T xs → T ≠ 73 → Blk w5 B T xs := fun B T xs hb hT => hb.fr (HF5.out.block _ ⟨hb.lt, fun e => hb.ne_row HRW4.out hT B e rfl⟩)
    have HV5 := Lib.hid (hne _ _ _ HV4.out (by decide))
    have HR5 := Lib.hid (hne _ _ _ HR4.out (by decide))
    have HOV5 := Lib.hid (hne _ _ _ HOV4.out (by decide))
    have hs5 : (fun w' : World => w'.cell? ⟨w.heap.size, 0, none⟩ = some (.int .i64 vk) ∧ w'.cell? ⟨w.heap.size, 1, none⟩ = some (.int .i64 vn) ∧ w'.cell? ⟨w.heap.size, 2, none⟩ = some (.string vs)) w5 := Blk.three (v := ⟨vk, vn, vs⟩) HV5.out
    dsimp only at hs5
    obtain ⟨nA, nc, rfl, -, -⟩ := rows_form hrow5
    have HRW5 := Lib.hid hrow5
    have HN5 := Lib.hid hn5
    refine step_appK rfl (.tmp 21) (.tmp 25) 37 rfl _ _ rfl rfl _ w5 hr5 ?_
    clear hr5 hrow5 hg5 hn5 hne
    refine hK.out _ _ hs5 (fun hHeld3 => ?_)
    clear hK K hHeld2
    try simp only [PT]
    refine tk 10 ?_ ‹_› ?_ ?_; rotate_left; focus (intro w0 hSw; obtain ⟨e0, e1, e2⟩ := hSw; go_simp; try with_reducible rfl)
    refine tk 11 ?_ ‹_› ?_ ?_; rotate_left; focus (intro w0 hSw; obtain ⟨e0, e1, e2⟩ := hSw; go_simp; try with_reducible rfl)
    try simp only [PT]
    refine wpAnyH_ready (rs := [12]) (by decide +kernel) (by simp) (AllReadyH.cons rfl (fun K hK => ?_) AllReadyH.nil)
    have z0 := HOV5.out.fz 0
    have c0 := HOV5.out.cell (k := 0) (v := .slice oA H.os.length oc) rfl
    go_simp
    have hAn : w.heap.size ≠ A := by have := HAL.out; omega
    have hAn1 : w.heap.size + 1 ≠ A := by have := HAL.out; omega
    have HA6 := Lib.hid (HOV5.out.set 0 (.slice nA (H.os.length + 1) nc))
    have HV6 := Lib.hid (HV5.out.other (p := ⟨A, 0, none⟩) hAn (.slice nA (H.os.length + 1) nc))
    have HR6 := Lib.hid (HR5.out.other (p := ⟨A, 0, none⟩) hAn1 (.slice nA (H.os.length + 1) nc))
    have HRW6 : Hid ((w5.setCell ⟨A, 0, none⟩ (.slice nA (H.os.length + 1) nc)).ownsRow 0 73 8 (.slice nA (H.os.length + 1) nc) (H.os.length + 1) (((H.os.zip R).map objV).flatten ++ [.string cls, .int .i64 vk, .int .i64 vn, .string vs, .slice none 0 0, .bool false, .int .i64 0, .bool true])) := row_same HRW5.out fun k e => Below.heap_setCell _ _ _ _ (fun e2 => HOV5.out.ne_row HRW5.out (by decide) k e e2.symm)
    have hs6 : (fun w' : World => w'.cell? ⟨w.heap.size, 0, none⟩ = some (.int .i64 vk) ∧ w'.cell? ⟨w.heap.size, 1, none⟩ = some (.int .i64 vn) ∧ w'.cell? ⟨w.heap.size, 2, none⟩ = some (.string vs)) (w5.setCell ⟨A, 0, none⟩ (.slice nA (H.os.length + 1) nc)) := Blk.three (v := ⟨vk, vn, vs⟩) HV6.out
    dsimp only at hs6
    have HS6 : Hid (w3.heap.size ≤ (w5.setCell ⟨A, 0, none⟩ (.slice nA (H.os.length + 1) nc)).heap.size) := by
     show w3.heap.size ≤ _
     have h1 := HB4.out.size
     have h2 := HF5.out.size
     have : (w5.setCell ⟨A, 0, none⟩ (.slice nA (H.os.length + 1) nc)).heap.size = w5.heap.size := by simp [World.setCell]
     omega
    have HK6 : Hid (∀ k, k < w3.heap.size → k ≠ A → (Value.slice oA H.os.length oc).ownBlock ≠ some k → (w5.setCell ⟨A, 0, none⟩ (.slice nA (H.os.length + 1) nc)).heap[k]? = w3.heap[k]?) := fun k h1 h2 h3 => (Below.heap_setCell _ _ _ _ h2).trans ((HF5.out.block k ⟨Nat.lt_of_lt_of_le h1 HB4.out.size, h3⟩).trans (HB4.out.block k h1))
    have HOS6 : Hid ((w5.setCell ⟨A, 0, none⟩ (.slice nA (H.os.length + 1) nc)).os = w3.os ∧ (w5.setCell ⟨A, 0, none⟩ (.slice nA (H.os.length + 1) nc)).tape = w3.tape ∧ (w5.setCell ⟨A, 0, none⟩ (.slice nA (H.os.length + 1) nc)).output = w3.output) := ⟨HF5.out.os.trans HB4.out.os, HF5.out.tape.trans HB4.out.tape, HF5.out.output.trans HB4.out.output⟩
    have HNV : Hid ((Value.slice nA (H.os.length + 1) nc).ownBlock = (Value.slice oA H.os.length oc).ownBlock ∨ ∀ k, (Value.slice nA (H.os.length + 1) nc).ownBlock = some k → w3.heap.size ≤ k) := HN5.out.imp id fun e k e2 => by rw [e] at e2; cases e2; exact HB4.out.size
    clear z0 c0
    refine hK.out _ _ hs6 (fun hHeld4 => ?_)
    clear hK K hHeld3 hs5
    generalize (w5.setCell ⟨A, 0, none⟩ (.slice nA (H.os.length + 1) nc)) = w6 at *
    try simp only [PT]
    refine wpAnyH_done (by kernel_rfl) ?_ _
    clear hHeld4 hs6
    have c0 := HA6.out.cell (k := 0) (v := .slice nA (H.os.length + 1) nc) rfl
    obtain ⟨f0, f1, f2⟩ := Blk.three (v := ⟨0, 0, ⟨#[]⟩⟩) HR6.out
    have zr := HR6.out.fz
    dsimp only at f0 f1 f2
    go_wp2_with fail
    have HRF := Lib.hid (set3_new' (a := .int .i64 7) (b := .int .i64 ((H.os.length : Int) + 1)) (c := .string ⟨#[]⟩) HR6.out)
    have hpr : objV ((⟨cls, q, [], false, 0, true⟩ : Ob), Value.slice none 0 0) = [.string cls, .int .i64 vk, .int .i64 vn, .string vs, .slice none 0 0, .bool false, .int .i64 0, .bool true] := by
     show [Value.string cls, .int .i64 (refO q).k, .int .i64 (refO q).n, .string (refO q).s, .slice none 0 0, .bool false, .int .i64 ((0 : Nat) : Int), .bool true] = _
     rw [HPR.out]
     rfl
    obtain ⟨ow', hph, hnew⟩ := HP2.out.push (w1 := w6) (o := ⟨cls, q, [], false, 0, true⟩) (m := H.n + 1) rfl (HOV.out.cell (k := 0) rfl) HA6.out (by rw [hpr]; exact HRW6.out) HNV.out (fun k r h1 h2 => HK6.out k (HP2.out.lt k (by rw [h1]; simp)) (fun e => by subst e; rw [HP2.out.wA] at h1; cases h1; exact h2 rfl) (fun e => by rw [HOWN.out k e] at h1; cases h1; exact h2 rfl)) HS6.out
    have hoff : ow' (w.heap.size + 1) = none := by
     cases e : ow' (w.heap.size + 1) with
     | none => rfl
     | some r =>
      rcases hnew (w.heap.size + 1) (by rw [e]; simp) with e2 | e2
      ·exact absurd (HH.out.off (k := w.heap.size + 1) (Nat.le_succ _)) e2
      ·have := HR2.out.lt
       omega
    have hfin := hph.set3 (x := .int .i64 7) (y := .int .i64 ((H.os.length : Int) + 1)) (z := .string ⟨#[]⟩) hoff
    refine bodyPost_ret (res_vt rfl _ _ (w.heap.size + 1) ⟨7, (H.os.length : Int) + 1, ⟨#[]⟩⟩ _ (by rfl) (by rfl) HRF.out) rfl ⟨rfl, ow', _, hfin, fun k hk => ?_, ?_⟩
    ·rcases hnew k hk with e | e
     ·exact .inl e
     ·exact .inr (Nat.le_trans (Nat.le_of_lt (Nat.lt_of_le_of_lt (Nat.le_succ _) HR2.out.lt)) e)
    ·have hF6 : Fr (Aw w ow) w w6 := by
      refine ⟨HOS6.out.1.trans HF2.out.os, HOS6.out.2.1.trans HF2.out.tape, HOS6.out.2.2.trans HF2.out.output, Nat.le_trans HF2.out.size HS6.out, fun k hk => ?_⟩
      have hkA : k ≠ A := fun e => by have := hk.2; rw [e, HH.out.wA] at this; cases this
      refine (HK6.out k (Nat.lt_of_lt_of_le hk.1 HF2.out.size) hkA (fun e => by have := HOWN.out k e; rw [hk.2] at this; cases this)).trans (HF2.out.block k ⟨hk.1, hkA⟩)
     exact ((hF6.setCell (p := ⟨w.heap.size + 1, 0, none⟩) (fun hk => absurd hk.1 (by show ¬ (w.heap.size + 1 < w.heap.size); omega)) _).setCell (p := ⟨w.heap.size + 1, 1, none⟩) (fun hk => absurd hk.1 (by show ¬ (w.heap.size + 1 < w.heap.size); omega)) _).setCell (p := ⟨w.heap.size + 1, 2, none⟩) (fun hk => absurd hk.1 (by show ¬ (w.heap.size + 1 < w.heap.size); omega)) _
   ·
    go_simp
    have hb := below_new w3 (.cells #[.string cls, .int .i64 vk, .int .i64 vn, .string vs, .slice none 0 0, .bool false, .int .i64 0, .bool true] 73)
    have HV4 := Lib.hid (HV2.out.low hb)
    have HR4 := Lib.hid (HR2.out.low hb)
    have HOV4 := Lib.hid (HOV.out.low hb)
    have HB4 := Lib.hid hb
    have HRW4 : Hid ((w3.alloc (.cells #[.string cls, .int .i64 vk, .int .i64 vn, .string vs, .slice none 0 0, .bool false, .int .i64 0, .bool true] 73)).ownsRow 0 73 8 (.slice oA H.os.length oc) H.os.length ((H.os.zip R).map objV).flatten) := row_same HRW.out fun k e => hb.block k (HRW.out.lt k e).2
    have HX4 := Lib.hid (Blk.new w3 73 [.string cls, .int .i64 vk, .int .i64 vn, .string vs, .slice none 0 0, .bool false, .int .i64 0, .bool true])
    have hs4 : (fun w' : World => w'.cell? ⟨w.heap.size, 0, none⟩ = some (.int .i64 vk) ∧ w'.cell? ⟨w.heap.size, 1, none⟩ = some (.int .i64 vn) ∧ w'.cell? ⟨w.heap.size, 2, none⟩ = some (.string vs)) (w3.alloc (.cells #[.string cls, .int .i64 vk, .int .i64 vn, .string vs, .slice none 0 0, .bool false, .int .i64 0, .bool true] 73)) := Blk.three (v := ⟨vk, vn, vs⟩) HV4.out
    dsimp only at hs4
    clear hb
    refine hK.out _ _ hs4 (fun hHeld1 => ?_)
    clear hK K hHeld0
    obtain ⟨xb, hxb⟩ : ∃ xb, w3.heap.size = xb := ⟨_, rfl⟩
    have HXB := Lib.hid hxb
    rw [hxb] at HX4 ⊢
    clear hxb
    generalize (w3.alloc (.cells #[.string cls, .int .i64 vk, .int .i64 vn, .string vs, .slice none 0 0, .bool false, .int .i64 0, .bool true] 73)) = w4 at *
    try simp only [PT]
    refine wpAnyH_ready (rs := [4]) (by decide +kernel) (by simp) (AllReadyH.cons rfl (fun K hK => ?_) AllReadyH.nil)
    have c0 := HOV4.out.cell (k := 0) (v := .slice oA H.os.length oc) rfl
    go_simp
    refine hK.out _ _ hs4 (fun hHeld2 => ?_)
    clear hK K hHeld1 c0
    try simp only [PT]
    refine wpAnyH_ready (rs := [9]) (by decide +kernel) (by simp) (AllReadyH.cons rfl (fun K hK => ?_) AllReadyH.nil)
    obtain ⟨nv, w5, hr5, hrow5, hg5, hn5⟩ := run_appK (w := w4) 37 73 37 _ 8 96 Tryz.underlying37 infoOb rfl (by decide) (by decide) 0 _ _ _ HRW4.out xb 0 1 1 [.string cls, .int .i64 vk, .int .i64 vn, .string vs, .slice none 0 0, .bool false, .int .i64 0, .bool true] rfl (fun j u hj => by rw [Nat.zero_add]; exact HX4.out.cell hj) (by intro u hu; simp only [List.mem_cons, List.not_mem_nil, or_false] at hu; rcases hu with rfl | rfl | rfl | rfl | rfl | rfl | rfl | rfl <;> rfl) (by have := HOL.out; omega) (Nat.zero_le _)
    have HF5 := Lib.hid ((Fr.of (F := fun k => k < w4.heap.size ∧ (Value.slice oA H.os.length oc).ownBlock ≠ some k) (Below.refl w4.heap.size w4) fun k hk => hk.1).grown (fun k hk => hk.1) hg5 fun k e hk => hk.2 e)
    have hne : ∀ B T xs, Blk w4 B T xs → T ≠ 73 → Blk w5 B T xs := fun B T xs hb hT => hb.fr (HF5.out.block _ ⟨hb.lt, fun e => hb.ne_row HRW4.out hT B e rfl⟩)
    have HV5 := Lib.hid (hne _ _ _ HV4.out (by decide))
    have HR5 := Lib.hid (hne _ _ _ HR4.out (by decide))
    have HOV5 := Lib.hid (hne _ _ _ HOV4.out (by decide))
    have hs5 : (fun w' : World => w'.cell? ⟨w.heap.size, 0, none⟩ = some (.int .i64 vk) ∧ w'.cell? ⟨w.heap.size, 1, none⟩ = some (.int .i64 vn) ∧ w'.cell? ⟨w.heap.size, 2, none⟩ = some (.string vs)) w5 := Blk.three (v := ⟨vk, vn, vs⟩) HV5.out
    dsimp only at hs5
    obtain ⟨nA, nc, rfl, -, -⟩ := rows_form hrow5
    have HRW5 := Lib.hid hrow5
    have HN5 := Lib.hid hn5
    refine step_appK rfl (.tmp 21) (.tmp 25) 37 rfl _ _ rfl rfl _ w5 hr5 ?_
    clear hr5 hrow5 hg5 hn5 hne
    refine hK.out _ _ hs5 (fun hHeld3 => ?_)
    clear hK K hHeld2
    try simp only [PT]
    refine tk 10 ?_ ‹_› ?_ ?_; rotate_left; focus (intro w0 hSw; obtain ⟨e0, e1, e2⟩ := hSw; go_simp; try with_reducible rfl)
    refine tk 11 ?_ ‹_› ?_ ?_; rotate_left; focus (intro w0 hSw; obtain ⟨e0, e1, e2⟩ := hSw; go_simp; try with_reducible rfl)
    try simp only [PT]
    refine wpAnyH_ready (rs := [12]) (by decide +kernel) (by simp) (AllReadyH.cons rfl (fun K hK => ?_) AllReadyH.nil)
    have z0 := HOV5.out.fz 0
    have c0 := HOV5.out.cell (k := 0) (v := .slice oA H.os.length oc) rfl
    go_simp
    have hAn : w.heap.size ≠ A := by have := HAL.out; omega
    have hAn1 : w.heap.size + 1 ≠ A := by have := HAL.out; omega
    have HA6 := Lib.hid (HOV5.out.set 0 (.slice nA (H.os.length + 1) nc))
    have HV6 := Lib.hid (HV5.out.other (p := ⟨A, 0, none⟩) hAn (.slice nA (H.os.length + 1) nc))
    have HR6 := Lib.hid (HR5.out.other (p := ⟨A, 0, none⟩) hAn1 (.slice nA (H.os.length + 1) nc))
    have HRW6 : Hid ((w5.setCell ⟨A, 0, none⟩ (.slice nA (H.os.length + 1) nc)).ownsRow 0 73 8 (.slice nA (H.os.length + 1) nc) (H.os.length + 1) (((H.os.zip R).map objV).flatten ++ [.string cls, .int .i64 vk, .int .i64 vn, .string vs, .slice none 0 0, .bool false, .int .i64 0, .bool true])) := row_same HRW5.out fun k e => Below.heap_setCell _ _ _ _ (fun e2 => HOV5.out.ne_row HRW5.out (by decide) k e e2.symm)
    have hs6 : (fun w' : World => w'.cell? ⟨w.heap.size, 0, none⟩ = some (.int .i64 vk) ∧ w'.cell? ⟨w.heap.size, 1, none⟩ = some (.int .i64 vn) ∧ w'.cell? ⟨w.heap.size, 2, none⟩ = some (.string vs)) (w5.setCell ⟨A, 0, none⟩ (.slice nA (H.os.length + 1) nc)) := Blk.three (v := ⟨vk, vn, vs⟩) HV6.out
    dsimp only at hs6
    have HS6 : Hid (w3.heap.size ≤ (w5.setCell ⟨A, 0, none⟩ (.slice nA (H.os.length + 1) nc)).heap.size) := by
     show w3.heap.size ≤ _
     have h1 := HB4.out.size
     have h2 := HF5.out.size
     have : (w5.setCell ⟨A, 0, none⟩ (.slice nA (H.os.length + 1) nc)).heap.size = w5.heap.size := by simp [World.setCell]
     omega
    have HK6 : Hid (∀ k, k < w3.heap.size → k ≠ A → (Value.slice oA H.os.length oc).ownBlock ≠ some k → (w5.setCell ⟨A, 0, none⟩ (.slice nA (H.os.length + 1) nc)).heap[k]? = w3.heap[k]?) := fun k h1 h2 h3 => (Below.heap_setCell _ _ _ _ h2).trans ((HF5.out.block k ⟨Nat.lt_of_lt_of_le h1 HB4.out.size, h3⟩).trans (HB4.out.block k h1))
    have HOS6 : Hid ((w5.setCell ⟨A, 0, none⟩ (.slice nA (H.os.length + 1) nc)).os = w3.os ∧ (w5.setCell ⟨A, 0, none⟩ (.slice nA (H.os.length + 1) nc)).tape = w3.tape ∧ (w5.setCell ⟨A, 0, none⟩ (.slice nA (H.os.length + 1) nc)).output = w3.output) := ⟨HF5.out.os.trans HB4.out.os, HF5.out.tape.trans HB4.out.tape, HF5.out.output.trans HB4.out.output⟩
    have HNV : Hid ((Value.slice nA (H.os.length + 1) nc).ownBlock = (Value.slice oA H.os.length oc).ownBlock ∨ ∀ k, (Value.slice nA (H.os.length + 1) nc).ownBlock = some k → w3.heap.size ≤ k) := HN5.out.imp id fun e k e2 => by rw [e] at e2; cases e2; exact HB4.out.size
    clear z0 c0
    refine hK.out _ _ hs6 (fun hHeld4 => ?_)
    clear hK K hHeld3 hs5
    generalize (w5.setCell ⟨A, 0, none⟩ (.slice nA (H.os.length + 1) nc)) = w6 at *
    try simp only [PT]
    refine wpAnyH_done (by kernel_rfl) ?_ _
    clear hHeld4 hs6
    have c0 := HA6.out.cell (k := 0) (v := .slice nA (H.os.length + 1) nc) rfl
    obtain ⟨f0, f1, f2⟩ := Blk.three (v := ⟨0, 0, ⟨#[]⟩⟩) HR6.out
    have zr := HR6.out.fz
    dsimp only at f0 f1 f2
    go_wp2_with fail
    have HRF := Lib.hid (set3_new' (a := .int .i64 7) (b := .int .i64 ((H.os.length : Int) + 1)) (c := .string ⟨#[]⟩) HR6.out)
    have hpr : objV ((⟨cls, q, [], false, 0, true⟩ : Ob), Value.slice none 0 0) = [.string cls, .int .i64 vk, .int .i64 vn, .string vs, .slice none 0 0, .bool false, .int .i64 0, .bool true] := by
     show [Value.string cls, .int .i64 (refO q).k, .int .i64 (refO q).n, .string (refO q).s, .slice none 0 0, .bool false, .int .i64 ((0 : Nat) : Int), .bool true] = _
     rw [HPR.out]
     rfl
    obtain ⟨ow', hph, hnew⟩ := HP2.out.push (w1 := w6) (o := ⟨cls, q, [], false, 0, true⟩) (m := H.n + 1) rfl (HOV.out.cell (k := 0) rfl) HA6.out (by rw [hpr]; exact HRW6.out) HNV.out (fun k r h1 h2 => HK6.out k (HP2.out.lt k (by rw [h1]; simp)) (fun e => by subst e; rw [HP2.out.wA] at h1; cases h1; exact h2 rfl) (fun e => by rw [HOWN.out k e] at h1; cases h1; exact h2 rfl)) HS6.out
    have hoff : ow' (w.heap.size + 1) = none := by
     cases e : ow' (w.heap.size + 1) with
     | none => rfl
     | some r =>
      rcases hnew (w.heap.size + 1) (by rw [e]; simp) with e2 | e2
      ·exact absurd (HH.out.off (k := w.heap.size + 1) (Nat.le_succ _)) e2
      ·have := HR2.out.lt
       omega
    have hfin := hph.set3 (x := .int .i64 7) (y := .int .i64 ((H.os.length : Int) + 1)) (z := .string ⟨#[]⟩) hoff
    refine bodyPost_ret (res_vt rfl _ _ (w.heap.size + 1) ⟨7, (H.os.length : Int) + 1, ⟨#[]⟩⟩ _ (by rfl) (by rfl) HRF.out) rfl ⟨rfl, ow', _, hfin, fun k hk => ?_, ?_⟩
    ·rcases hnew k hk with e | e
     ·exact .inl e
     ·exact .inr (Nat.le_trans (Nat.le_of_lt (Nat.lt_of_le_of_lt (Nat.le_succ _) HR2.out.lt)) e)
    ·have hF6 : Fr (Aw w ow) w w6 := by
      refine ⟨HOS6.out.1.trans HF2.out.os, HOS6.out.2.1.trans HF2.out.tape, HOS6.out.2.2.trans HF2.out.output, Nat.le_trans HF2.out.size HS6.out, fun k hk => ?_⟩
      have hkA : k ≠ A := fun e => by have := hk.2; rw [e, HH.out.wA] at this; cases this
      refine (HK6.out k (Nat.lt_of_lt_of_le hk.1 HF2.out.size) hkA (fun e => by have := HOWN.out k e; rw [hk.2] at this; cases this)).trans (HF2.out.block k ⟨hk.1, hkA⟩)
     exact ((hF6.setCell (p := ⟨w.heap.size + 1, 0, none⟩) (fun hk => absurd hk.1 (by show ¬ (w.heap.size + 1 < w.heap.size); omega)) _).setCell (p := ⟨w.heap.size + 1, 1, none⟩) (fun hk => absurd hk.1 (by show ¬ (w.heap.size + 1 < w.heap.size); omega)) _).setCell (p := ⟨w.heap.size + 1, 2, none⟩) (fun hk => absurd hk.1 (by show ¬ (w.heap.size + 1 < w.heap.size); omega)) _
  ·rw [e1] at hat
   clear e1
   go_wp2_with fail
   refine hat.mono ?_
   rintro e w2a ⟨rfl, hb⟩
   have HP1a := Lib.hid (HP1.out.low hb)
   have HV1a := Lib.hid (HV1.out.low hb)
   have HR1a := Lib.hid (HR1.out.low hb)
   have HF1a : Hid (Fr (fun k => k < w.heap.size ∧ k ≠ A) w w2a) := HF1.out.trans (Fr.of hb fun k hk => Nat.lt_of_lt_of_le hk.1 HF1.out.size)
   have HNU := Lib.hid (rnull_any w2a)
   simp only [null, Vl.v, nil] at HNU
   clear hb hat d0 d1 d2 HP1 HV1 HR1 HF1
   go_wp2_with fail
   refine HNU.out.mono ?_
   rintro e w2b ⟨rfl, hb⟩
   have HP1b := Lib.hid (HP1a.out.low hb)
   have HV1b := Lib.hid (HV1a.out.low hb)
   have HR1b := Lib.hid (HR1a.out.low hb)
   have HF1b : Hid (Fr (fun k => k < w.heap.size ∧ k ≠ A) w w2b) := HF1a.out.trans (Fr.of hb fun k hk => Nat.lt_of_lt_of_le hk.1 HF1a.out.size)
   obtain ⟨d0, d1, d2⟩ := Blk.three (v := ⟨vk, vn, vs⟩) HV1b.out
   have zv := HV1b.out.fz
   dsimp only at d0 d1 d2
   have HVs := Lib.hid (set3_new' (a := .int .i64 1) (b := .int .i64 0) (c := .string ⟨#[]⟩) HV1b.out)
   have HRs := Lib.hid (set3_keep' (a := .int .i64 1) (b := .int .i64 0) (c := .string ⟨#[]⟩) HR1b.out (by omega : w.heap.size ≠ w.heap.size + 1))
   have HPs := Lib.hid (HP1b.out.set3 (x := .int .i64 1) (y := .int .i64 0) (z := .string ⟨#[]⟩) (g := w.heap.size) (HH.out.off (Nat.le_refl _)))
   have HFs : Hid (Fr (fun k => k < w.heap.size ∧ k ≠ A) w (((w2b.setCell ⟨w.heap.size, 0, none⟩ (.int .i64 1)).setCell ⟨w.heap.size, 1, none⟩ (.int .i64 0)).setCell ⟨w.heap.size, 2, none⟩ (.string ⟨#[]⟩))) := ((HF1b.out.setCell (p := ⟨w.heap.size, 0, none⟩) (fun hk => Nat.lt_irrefl _ hk.1) _).setCell (p := ⟨w.heap.size, 1, none⟩) (fun hk => Nat.lt_irrefl _ hk.1) _).setCell (p := ⟨w.heap.size, 2, none⟩) (fun hk => Nat.lt_irrefl _ hk.1) _
   clear hb HNU HP1a HV1a HR1a HF1a
   go_wp2_with fail
   generalize (((w2b.setCell ⟨w.heap.size, 0, none⟩ (.int .i64 1)).setCell ⟨w.heap.size, 1, none⟩ (.int .i64 0)).setCell ⟨w.heap.size, 2, none⟩ (.string ⟨#[]⟩)) = w2 at *
   have HP2 := Lib.hid (HPs.out.low (below_draw w2))
   have HV2 := Lib.hid (HVs.out.low (below_draw w2))
   have HR2 := Lib.hid (HRs.out.low (below_draw w2))
   have HF2 : Hid (Fr (fun k => k < w.heap.size ∧ k ≠ A) w w2.drew) := HFs.out.drew
   clear d0 d1 d2 zv HP1b HV1b HR1b HF1b HVs HRs HPs HFs
   obtain ⟨ov, hov, hrow, hown⟩ := HP2.out.hb
   obtain ⟨oA, oc, hoe, -, -⟩ := rows_form hrow
   subst hoe
   have HOV := Lib.hid hov
   have HRW := Lib.hid hrow
   have HOWN := Lib.hid hown
   have hs0 : (fun w' : World => w'.cell? ⟨w.heap.size, 0, none⟩ = some (.int .i64 1) ∧ w'.cell? ⟨w.heap.size, 1, none⟩ = some (.int .i64 0) ∧ w'.cell? ⟨w.heap.size, 2, none⟩ = some (.string ⟨#[]⟩)) w2.drew := Blk.three (v := ⟨1, 0, ⟨#[]⟩⟩) HV2.out
   dsimp only at hs0
   clear hov hrow hown
   refine wp_region_held_drew (S := (fun w' : World => w'.cell? ⟨w.heap.size, 0, none⟩ = some (.int .i64 1) ∧ w'.cell? ⟨w.heap.size, 1, none⟩ = some (.int .i64 0) ∧ w'.cell? ⟨w.heap.size, 2, none⟩ = some (.string ⟨#[]⟩))) (by kernel_rfl) (hs0) (fun hHeld0 => ?_)
   generalize w2.drew = w3 at *
   refine tk 0 ?_ ‹_› ?_ ?_; rotate_left; focus (intro w0 hSw; obtain ⟨e0, e1, e2⟩ := hSw; go_simp; try with_reducible rfl)
   refine tk 1 ?_ ‹_› ?_ ?_; rotate_left; focus (intro w0 hSw; obtain ⟨e0, e1, e2⟩ := hSw; go_simp; try with_reducible rfl)
   refine tk 2 ?_ ‹_› ?_ ?_; rotate_left; focus (intro w0 hSw; obtain ⟨e0, e1, e2⟩ := hSw; go_simp; try with_reducible rfl)
   refine tk 3 ?_ ‹_› ?_ ?_; rotate_left; focus (intro w0 hSw; obtain ⟨e0, e1, e2⟩ := hSw; go_simp; try with_reducible rfl)
   refine tk 5 ?_ ‹_› ?_ ?_; rotate_left; focus (intro w0 hSw; obtain ⟨e0, e1, e2⟩ := hSw; go_simp; try with_reducible rfl)
   refine tk 6 ?_ ‹_› ?_ ?_; rotate_left; focus (intro w0 hSw; obtain ⟨e0, e1, e2⟩ := hSw; go_simp; try with_reducible rfl)
   refine tk 7 ?_ ‹_› ?_ ?_; rotate_left; focus (intro w0 hSw; obtain ⟨e0, e1, e2⟩ := hSw; go_simp; try with_reducible rfl)
   try simp only [PT]
   refine wpAnyH_ready (rs := [4, 8]) (by decide +kernel) (by simp) (AllReadyH.cons rfl (fun K hK => ?_) (AllReadyH.cons rfl (fun K hK => ?_) AllReadyH.nil))
   ·
    have c0 := HOV.out.cell (k := 0) (v := .slice oA H.os.length oc) rfl
    go_simp
    refine hK.out _ _ hs0 (fun hHeld1 => ?_)
    clear hK K hHeld0 c0
    try simp only [PT]
    refine wpAnyH_ready (rs := [8]) (by decide +kernel) (by simp) (AllReadyH.cons rfl (fun K hK => ?_) AllReadyH.nil)
    go_simp
    have hb := below_new w3 (.cells #[.string cls, .int .i64 1, .int .i64 0, .string ⟨#[]⟩, .slice none 0 0, .bool false, .int .i64 0, .bool true] 73)
    have HV4 := Lib.hid (HV2.out.low hb)
    have HR4 := Lib.hid (HR2.out.low hb)
    have HOV4 := Lib.hid (HOV.out.low hb)
    have HB4 := Lib.hid hb
    have HRW4 : Hid ((w3.alloc (.cells #[.string cls, .int .i64 1, .int .i64 0, .string ⟨#[]⟩, .slice none 0 0, .bool false, .int .i64 0, .bool true] 73)).ownsRow 0 73 8 (.slice oA H.os.length oc) H.os.length ((H.os.zip R).map objV).flatten) := row_same HRW.out fun k e => hb.block k (HRW.out.lt k e).2
    have HX4 := Lib.hid (Blk.new w3 73 [.string cls, .int .i64 1, .int .i64 0, .string ⟨#[]⟩, .slice none 0 0, .bool false, .int .i64 0, .bool true])
    have hs4 : (fun w' : World => w'.cell? ⟨w.heap.size, 0, none⟩ = some (.int .i64 1) ∧ w'.cell? ⟨w.heap.size, 1, none⟩ = some (.int .i64 0) ∧ w'.cell? ⟨w.heap.size, 2, none⟩ = some (.string ⟨#[]⟩)) (w3.alloc (.cells #[.string cls, .int .i64 1, .int .i64 0, .string ⟨#[]⟩, .slice none 0 0, .bool false, .int .i64 0, .bool true] 73)) := Blk.three (v := ⟨1, 0, ⟨#[]⟩⟩) HV4.out
    dsimp only at hs4
    clear hb
    refine hK.out _ _ hs4 (fun hHeld2 => ?_)
    clear hK K hHeld1
    obtain ⟨xb, hxb⟩ : ∃ xb, w3.heap.size = xb := ⟨_, rfl⟩
    have HXB := Lib.hid hxb
    rw [hxb] at HX4 ⊢
    clear hxb
    generalize (w3.alloc (.cells #[.string cls, .int .i64 1, .int .i64 0, .string ⟨#[]⟩, .slice none 0 0, .bool false, .int .i64 0, .bool true] 73)) = w4 at *
    try simp only [PT]
    refine wpAnyH_ready (rs := [9]) (by decide +kernel) (by simp) (AllReadyH.cons rfl (fun K hK => ?_) AllReadyH.nil)
    obtain ⟨nv, w5, hr5, hrow5, hg5, hn5⟩ := run_appK (w := w4) 37 73 37 _ 8 96 Tryz.underlying37 infoOb rfl (by decide) (by decide) 0 _ _ _ HRW4.out xb 0 1 1 [.string cls, .int .i64 1, .int .i64 0, .string ⟨#[]⟩, .slice none 0 0, .bool false, .int .i64 0, .bool true] rfl (fun j u hj => by rw [Nat.zero_add]; exact HX4.out.cell hj) (by intro u hu; simp only [List.mem_cons, List.not_mem_nil, or_false] at hu; rcases hu with rfl | rfl | rfl | rfl | rfl | rfl | rfl | rfl <;> rfl) (by have := HOL.out; omega) (Nat.zero_le _)
    have HF5 := Lib.hid ((Fr.of (F := fun k => k < w4.heap.size ∧ (Value.slice oA H.os.length oc).ownBlock ≠ some k) (Below.refl w4.heap.size w4) fun k hk => hk.1).grown (fun k hk => hk.1) hg5 fun k e hk => hk.2 e)
    have hne : ∀ B T xs, Blk w4 B T xs → T ≠ 73 → Blk w5 B T xs := fun B T xs hb hT => hb.fr (HF5.out.block _ ⟨hb.lt, fun e => hb.ne_row HRW4.out hT B e rfl⟩)
    have HV5 := Lib.hid (hne _ _ _ HV4.out (by decide))
    have HR5 := Lib.hid (hne _ _ _ HR4.out (by decide))
    have HOV5 := Lib.hid (hne _ _ _ HOV4.out (by decide))
    have hs5 : (fun w' : World => w'.cell? ⟨w.heap.size, 0, none⟩ = some (.int .i64 1) ∧ w'.cell? ⟨w.heap.size, 1, none⟩ = some (.int .i64 0) ∧ w'.cell? ⟨w.heap.size, 2, none⟩ = some (.string ⟨#[]⟩)) w5 := Blk.three (v := ⟨1, 0, ⟨#[]⟩⟩) HV5.out
    dsimp only at hs5
    obtain ⟨nA, nc, rfl, -, -⟩ := rows_form hrow5
    have HRW5 := Lib.hid hrow5
    have HN5 := Lib.hid hn5
    refine step_appK rfl (.tmp 21) (.tmp 25) 37 rfl _ _ rfl rfl _ w5 hr5 ?_
    clear hr5 hrow5 hg5 hn5 hne
    refine hK.out _ _ hs5 (fun hHeld3 => ?_)
    clear hK K hHeld2
    try simp only [PT]
    refine tk 10 ?_ ‹_› ?_ ?_; rotate_left; focus (intro w0 hSw; obtain ⟨e0, e1, e2⟩ := hSw; go_simp; try with_reducible rfl)
    refine tk 11 ?_ ‹_› ?_ ?_; rotate_left; focus (intro w0 hSw; obtain ⟨e0, e1, e2⟩ := hSw; go_simp; try with_reducible rfl)
    try simp only [PT]
    refine wpAnyH_ready (rs := [12]) (by decide +kernel) (by simp) (AllReadyH.cons rfl (fun K hK => ?_) AllReadyH.nil)
    have z0 := HOV5.out.fz 0
    have c0 := HOV5.out.cell (k := 0) (v := .slice oA H.os.length oc) rfl
    go_simp
    have hAn : w.heap.size ≠ A := by have := HAL.out; omega
    have hAn1 : w.heap.size + 1 ≠ A := by have := HAL.out; omega
    have HA6 := Lib.hid (HOV5.out.set 0 (.slice nA (H.os.length + 1) nc))
    have HV6 := Lib.hid (HV5.out.other (p := ⟨A, 0, none⟩) hAn (.slice nA (H.os.length + 1) nc))
    have HR6 := Lib.hid (HR5.out.other (p := ⟨A, 0, none⟩) hAn1 (.slice nA (H.os.length + 1) nc))
    have HRW6 : Hid ((w5.setCell ⟨A, 0, none⟩ (.slice nA (H.os.length + 1) nc)).ownsRow 0 73 8 (.slice nA (H.os.length + 1) nc) (H.os.length + 1) (((H.os.zip R).map objV).flatten ++ [.string cls, .int .i64 1, .int .i64 0, .string ⟨#[]⟩, .slice none 0 0, .bool false, .int .i64 0, .bool true])) := row_same HRW5.out fun k e => Below.heap_setCell _ _ _ _ (fun e2 => HOV5.out.ne_row HRW5.out (by decide) k e e2.symm)
    have hs6 : (fun w' : World => w'.cell? ⟨w.heap.size, 0, none⟩ = some (.int .i64 1) ∧ w'.cell? ⟨w.heap.size, 1, none⟩ = some (.int .i64 0) ∧ w'.cell? ⟨w.heap.size, 2, none⟩ = some (.string ⟨#[]⟩)) (w5.setCell ⟨A, 0, none⟩ (.slice nA (H.os.length + 1) nc)) := Blk.three (v := ⟨1, 0, ⟨#[]⟩⟩) HV6.out
    dsimp only at hs6
    have HS6 : Hid (w3.heap.size ≤ (w5.setCell ⟨A, 0, none⟩ (.slice nA (H.os.length + 1) nc)).heap.size) := by
     show w3.heap.size ≤ _
     have h1 := HB4.out.size
     have h2 := HF5.out.size
     have : (w5.setCell ⟨A, 0, none⟩ (.slice nA (H.os.length + 1) nc)).heap.size = w5.heap.size := by simp [World.setCell]
     omega
    have HK6 : Hid (∀ k, k < w3.heap.size → k ≠ A → (Value.slice oA H.os.length oc).ownBlock ≠ some k → (w5.setCell ⟨A, 0, none⟩ (.slice nA (H.os.length + 1) nc)).heap[k]? = w3.heap[k]?) := fun k h1 h2 h3 => (Below.heap_setCell _ _ _ _ h2).trans ((HF5.out.block k ⟨Nat.lt_of_lt_of_le h1 HB4.out.size, h3⟩).trans (HB4.out.block k h1))
    have HOS6 : Hid ((w5.setCell ⟨A, 0, none⟩ (.slice nA (H.os.length + 1) nc)).os = w3.os ∧ (w5.setCell ⟨A, 0, none⟩ (.slice nA (H.os.length + 1) nc)).tape = w3.tape ∧ (w5.setCell ⟨A, 0, none⟩ (.slice nA (H.os.length + 1) nc)).output = w3.output) := ⟨HF5.out.os.trans HB4.out.os, HF5.out.tape.trans HB4.out.tape, HF5.out.output.trans HB4.out.output⟩
    have HNV : Hid ((Value.slice nA (H.os.length + 1) nc).ownBlock = (Value.slice oA H.os.length oc).ownBlock ∨ ∀ k, (Value.slice nA (H.os.length + 1) nc).ownBlock = some k → w3.heap.size ≤ k) := HN5.out.imp id fun e k e2 => by rw [e] at e2; cases e2; exact HB4.out.size
    clear z0 c0
    refine hK.out _ _ hs6 (fun hHeld4 => ?_)
    clear hK K hHeld3 hs5
    generalize (w5.setCell ⟨A, 0, none⟩ (.slice nA (H.os.length + 1) nc)) = w6 at *
    try simp only [PT]
    refine wpAnyH_done (by kernel_rfl) ?_ _
    clear hHeld4 hs6
    have c0 := HA6.out.cell (k := 0) (v := .slice nA (H.os.length + 1) nc) rfl
    obtain ⟨f0, f1, f2⟩ := Blk.three (v := ⟨0, 0, ⟨#[]⟩⟩) HR6.out
    have zr := HR6.out.fz
    dsimp only at f0 f1 f2
    go_wp2_with fail
    have HRF := Lib.hid (set3_new' (a := .int .i64 7) (b := .int .i64 ((H.os.length : Int) + 1)) (c := .string ⟨#[]⟩) HR6.out)
    have hpr : objV ((⟨cls, q, [], false, 0, true⟩ : Ob), Value.slice none 0 0) = [.string cls, .int .i64 1, .int .i64 0, .string ⟨#[]⟩, .slice none 0 0, .bool false, .int .i64 0, .bool true] := by
     show [Value.string cls, .int .i64 (refO q).k, .int .i64 (refO q).n, .string (refO q).s, .slice none 0 0, .bool false, .int .i64 ((0 : Nat) : Int), .bool true] = _
     rw [HPR.out]
     rfl
    obtain ⟨ow', hph, hnew⟩ := HP2.out.push (w1 := w6) (o := ⟨cls, q, [], false, 0, true⟩) (m := H.n + 1) rfl (HOV.out.cell (k := 0) rfl) HA6.out (by rw [hpr]; exact HRW6.out) HNV.out (fun k r h1 h2 => HK6.out k (HP2.out.lt k (by rw [h1]; simp)) (fun e => by subst e; rw [HP2.out.wA] at h1; cases h1; exact h2 rfl) (fun e => by rw [HOWN.out k e] at h1; cases h1; exact h2 rfl)) HS6.out
    have hoff : ow' (w.heap.size + 1) = none := by
     cases e : ow' (w.heap.size + 1) with
     | none => rfl
     | some r =>
      rcases hnew (w.heap.size + 1) (by rw [e]; simp) with e2 | e2
      ·exact absurd (HH.out.off (k := w.heap.size + 1) (Nat.le_succ _)) e2
      ·have := HR2.out.lt
       omega
    have hfin := hph.set3 (x := .int .i64 7) (y := .int .i64 ((H.os.length : Int) + 1)) (z := .string ⟨#[]⟩) hoff
    refine bodyPost_ret (res_vt rfl _ _ (w.heap.size + 1) ⟨7, (H.os.length : Int) + 1, ⟨#[]⟩⟩ _ (by rfl) (by rfl) HRF.out) rfl ⟨rfl, ow', _, hfin, fun k hk => ?_, ?_⟩
    ·rcases hnew k hk with e | e
     ·exact .inl e
     ·exact .inr (Nat.le_trans (Nat.le_of_lt (Nat.lt_of_le_of_lt (Nat.le_succ _) HR2.out.lt)) e)
    ·have hF6 : Fr (Aw w ow) w w6 := by
      refine ⟨HOS6.out.1.trans HF2.out.os, HOS6.out.2.1.trans HF2.out.tape, HOS6.out.2.2.trans HF2.out.output, Nat.le_trans HF2.out.size HS6.out, fun k hk => ?_⟩
      have hkA : k ≠ A := fun e => by have := hk.2; rw [e, HH.out.wA] at this; cases this
      refine (HK6.out k (Nat.lt_of_lt_of_le hk.1 HF2.out.size) hkA (fun e => by have := HOWN.out k e; rw [hk.2] at this; cases this)).trans (HF2.out.block k ⟨hk.1, hkA⟩)
     exact ((hF6.setCell (p := ⟨w.heap.size + 1, 0, none⟩) (fun hk => absurd hk.1 (by show ¬ (w.heap.size + 1 < w.heap.size); omega)) _).setCell (p := ⟨w.heap.size + 1, 1, none⟩) (fun hk => absurd hk.1 (by show ¬ (w.heap.size + 1 < w.heap.size); omega)) _).setCell (p := ⟨w.heap.size + 1, 2, none⟩) (fun hk => absurd hk.1 (by show ¬ (w.heap.size + 1 < w.heap.size); omega)) _
   ·
    go_simp
    have hb := below_new w3 (.cells #[.string cls, .int .i64 1, .int .i64 0, .string ⟨#[]⟩, .slice none 0 0, .bool false, .int .i64 0, .bool true] 73)
    have HV4 := Lib.hid (HV2.out.low hb)
    have HR4 := Lib.hid (HR2.out.low hb)
    have HOV4 := Lib.hid (HOV.out.low hb)
    have HB4 := Lib.hid hb
    have HRW4 : Hid ((w3.alloc (.cells #[.string cls, .int .i64 1, .int .i64 0, .string ⟨#[]⟩, .slice none 0 0, .bool false, .int .i64 0, .bool true] 73)).ownsRow 0 73 8 (.slice oA H.os.length oc) H.os.length ((H.os.zip R).map objV).flatten) := row_same HRW.out fun k e => hb.block k (HRW.out.lt k e).2
    have HX4 := Lib.hid (Blk.new w3 73 [.string cls, .int .i64 1, .int .i64 0, .string ⟨#[]⟩, .slice none 0 0, .bool false, .int .i64 0, .bool true])
    have hs4 : (fun w' : World => w'.cell? ⟨w.heap.size, 0, none⟩ = some (.int .i64 1) ∧ w'.cell? ⟨w.heap.size, 1, none⟩ = some (.int .i64 0) ∧ w'.cell? ⟨w.heap.size, 2, none⟩ = some (.string ⟨#[]⟩)) (w3.alloc (.cells #[.string cls, .int .i64 1, .int .i64 0, .string ⟨#[]⟩, .slice none 0 0, .bool false, .int .i64 0, .bool true] 73)) := Blk.three (v := ⟨1, 0, ⟨#[]⟩⟩) HV4.out
    dsimp only at hs4
    clear hb
    refine hK.out _ _ hs4 (fun hHeld1 => ?_)
    clear hK K hHeld0
    obtain ⟨xb, hxb⟩ : ∃ xb, w3.heap.size = xb := ⟨_, rfl⟩
    have HXB := Lib.hid hxb
    rw [hxb] at HX4 ⊢
    clear hxb
    generalize (w3.alloc (.cells #[.string cls, .int .i64 1, .int .i64 0, .string ⟨#[]⟩, .slice none 0 0, .bool false, .int .i64 0, .bool true] 73)) = w4 at *
    try simp only [PT]
    refine wpAnyH_ready (rs := [4]) (by decide +kernel) (by simp) (AllReadyH.cons rfl (fun K hK => ?_) AllReadyH.nil)
    have c0 := HOV4.out.cell (k := 0) (v := .slice oA H.os.length oc) rfl
    go_simp
    refine hK.out _ _ hs4 (fun hHeld2 => ?_)
    clear hK K hHeld1 c0
    try simp only [PT]
    refine wpAnyH_ready (rs := [9]) (by decide +kernel) (by simp) (AllReadyH.cons rfl (fun K hK => ?_) AllReadyH.nil)
    obtain ⟨nv, w5, hr5, hrow5, hg5, hn5⟩ := run_appK (w := w4) 37 73 37 _ 8 96 Tryz.underlying37 infoOb rfl (by decide) (by decide) 0 _ _ _ HRW4.out xb 0 1 1 [.string cls, .int .i64 1, .int .i64 0, .string ⟨#[]⟩, .slice none 0 0, .bool false, .int .i64 0, .bool true] rfl (fun j u hj => by rw [Nat.zero_add]; exact HX4.out.cell hj) (by intro u hu; simp only [List.mem_cons, List.not_mem_nil, or_false] at hu; rcases hu with rfl | rfl | rfl | rfl | rfl | rfl | rfl | rfl <;> rfl) (by have := HOL.out; omega) (Nat.zero_le _)
    have HF5 := Lib.hid ((Fr.of (F := fun k => k < w4.heap.size ∧ (Value.slice oA H.os.length oc).ownBlock ≠ some k) (Below.refl w4.heap.size w4) fun k hk => hk.1).grown (fun k hk => hk.1) hg5 fun k e hk => hk.2 e)
    have hne : ∀ B T xs, Blk w4 B T xs → T ≠ 73 → Blk w5 B T xs := fun B T xs hb hT => hb.fr (HF5.out.block _ ⟨hb.lt, fun e => hb.ne_row HRW4.out hT B e rfl⟩)
    have HV5 := Lib.hid (hne _ _ _ HV4.out (by decide))
    have HR5 := Lib.hid (hne _ _ _ HR4.out (by decide))
    have HOV5 := Lib.hid (hne _ _ _ HOV4.out (by decide))
    have hs5 : (fun w' : World => w'.cell? ⟨w.heap.size, 0, none⟩ = some (.int .i64 1) ∧ w'.cell? ⟨w.heap.size, 1, none⟩ = some (.int .i64 0) ∧ w'.cell? ⟨w.heap.size, 2, none⟩ = some (.string ⟨#[]⟩)) w5 := Blk.three (v := ⟨1, 0, ⟨#[]⟩⟩) HV5.out
    dsimp only at hs5
    obtain ⟨nA, nc, rfl, -, -⟩ := rows_form hrow5
    have HRW5 := Lib.hid hrow5
    have HN5 := Lib.hid hn5
    refine step_appK rfl (.tmp 21) (.tmp 25) 37 rfl _ _ rfl rfl _ w5 hr5 ?_
    clear hr5 hrow5 hg5 hn5 hne
    refine hK.out _ _ hs5 (fun hHeld3 => ?_)
    clear hK K hHeld2
    try simp only [PT]
    refine tk 10 ?_ ‹_› ?_ ?_; rotate_left; focus (intro w0 hSw; obtain ⟨e0, e1, e2⟩ := hSw; go_simp; try with_reducible rfl)
    refine tk 11 ?_ ‹_› ?_ ?_; rotate_left; focus (intro w0 hSw; obtain ⟨e0, e1, e2⟩ := hSw; go_simp; try with_reducible rfl)
    try simp only [PT]
    refine wpAnyH_ready (rs := [12]) (by decide +kernel) (by simp) (AllReadyH.cons rfl (fun K hK => ?_) AllReadyH.nil)
    have z0 := HOV5.out.fz 0
    have c0 := HOV5.out.cell (k := 0) (v := .slice oA H.os.length oc) rfl
    go_simp
    have hAn : w.heap.size ≠ A := by have := HAL.out; omega
    have hAn1 : w.heap.size + 1 ≠ A := by have := HAL.out; omega
    have HA6 := Lib.hid (HOV5.out.set 0 (.slice nA (H.os.length + 1) nc))
    have HV6 := Lib.hid (HV5.out.other (p := ⟨A, 0, none⟩) hAn (.slice nA (H.os.length + 1) nc))
    have HR6 := Lib.hid (HR5.out.other (p := ⟨A, 0, none⟩) hAn1 (.slice nA (H.os.length + 1) nc))
    have HRW6 : Hid ((w5.setCell ⟨A, 0, none⟩ (.slice nA (H.os.length + 1) nc)).ownsRow 0 73 8 (.slice nA (H.os.length + 1) nc) (H.os.length + 1) (((H.os.zip R).map objV).flatten ++ [.string cls, .int .i64 1, .int .i64 0, .string ⟨#[]⟩, .slice none 0 0, .bool false, .int .i64 0, .bool true])) := row_same HRW5.out fun k e => Below.heap_setCell _ _ _ _ (fun e2 => HOV5.out.ne_row HRW5.out (by decide) k e e2.symm)
    have hs6 : (fun w' : World => w'.cell? ⟨w.heap.size, 0, none⟩ = some (.int .i64 1) ∧ w'.cell? ⟨w.heap.size, 1, none⟩ = some (.int .i64 0) ∧ w'.cell? ⟨w.heap.size, 2, none⟩ = some (.string ⟨#[]⟩)) (w5.setCell ⟨A, 0, none⟩ (.slice nA (H.os.length + 1) nc)) := Blk.three (v := ⟨1, 0, ⟨#[]⟩⟩) HV6.out
    dsimp only at hs6
    have HS6 : Hid (w3.heap.size ≤ (w5.setCell ⟨A, 0, none⟩ (.slice nA (H.os.length + 1) nc)).heap.size) := by
     show w3.heap.size ≤ _
     have h1 := HB4.out.size
     have h2 := HF5.out.size
     have : (w5.setCell ⟨A, 0, none⟩ (.slice nA (H.os.length + 1) nc)).heap.size = w5.heap.size := by simp [World.setCell]
     omega
    have HK6 : Hid (∀ k, k < w3.heap.size → k ≠ A → (Value.slice oA H.os.length oc).ownBlock ≠ some k → (w5.setCell ⟨A, 0, none⟩ (.slice nA (H.os.length + 1) nc)).heap[k]? = w3.heap[k]?) := fun k h1 h2 h3 => (Below.heap_setCell _ _ _ _ h2).trans ((HF5.out.block k ⟨Nat.lt_of_lt_of_le h1 HB4.out.size, h3⟩).trans (HB4.out.block k h1))
    have HOS6 : Hid ((w5.setCell ⟨A, 0, none⟩ (.slice nA (H.os.length + 1) nc)).os = w3.os ∧ (w5.setCell ⟨A, 0, none⟩ (.slice nA (H.os.length + 1) nc)).tape = w3.tape ∧ (w5.setCell ⟨A, 0, none⟩ (.slice nA (H.os.length + 1) nc)).output = w3.output) := ⟨HF5.out.os.trans HB4.out.os, HF5.out.tape.trans HB4.out.tape, HF5.out.output.trans HB4.out.output⟩
    have HNV : Hid ((Value.slice nA (H.os.length + 1) nc).ownBlock = (Value.slice oA H.os.length oc).ownBlock ∨ ∀ k, (Value.slice nA (H.os.length + 1) nc).ownBlock = some k → w3.heap.size ≤ k) := HN5.out.imp id fun e k e2 => by rw [e] at e2; cases e2; exact HB4.out.size
    clear z0 c0
    refine hK.out _ _ hs6 (fun hHeld4 => ?_)
    clear hK K hHeld3 hs5
    generalize (w5.setCell ⟨A, 0, none⟩ (.slice nA (H.os.length + 1) nc)) = w6 at *
    try simp only [PT]
    refine wpAnyH_done (by kernel_rfl) ?_ _
    clear hHeld4 hs6
    have c0 := HA6.out.cell (k := 0) (v := .slice nA (H.os.length + 1) nc) rfl
    obtain ⟨f0, f1, f2⟩ := Blk.three (v := ⟨0, 0, ⟨#[]⟩⟩) HR6.out
    have zr := HR6.out.fz
    dsimp only at f0 f1 f2
    go_wp2_with fail
    have HRF := Lib.hid (set3_new' (a := .int .i64 7) (b := .int .i64 ((H.os.length : Int) + 1)) (c := .string ⟨#[]⟩) HR6.out)
    have hpr : objV ((⟨cls, q, [], false, 0, true⟩ : Ob), Value.slice none 0 0) = [.string cls, .int .i64 1, .int .i64 0, .string ⟨#[]⟩, .slice none 0 0, .bool false, .int .i64 0, .bool true] := by
     show [Value.string cls, .int .i64 (refO q).k, .int .i64 (refO q).n, .string (refO q).s, .slice none 0 0, .bool false, .int .i64 ((0 : Nat) : Int), .bool true] = _
     rw [HPR.out]
     rfl
    obtain ⟨ow', hph, hnew⟩ := HP2.out.push (w1 := w6) (o := ⟨cls, q, [], false, 0, true⟩) (m := H.n + 1) rfl (HOV.out.cell (k := 0) rfl) HA6.out (by rw [hpr]; exact HRW6.out) HNV.out (fun k r h1 h2 => HK6.out k (HP2.out.lt k (by rw [h1]; simp)) (fun e => by subst e; rw [HP2.out.wA] at h1; cases h1; exact h2 rfl) (fun e => by rw [HOWN.out k e] at h1; cases h1; exact h2 rfl)) HS6.out
    have hoff : ow' (w.heap.size + 1) = none := by
     cases e : ow' (w.heap.size + 1) with
     | none => rfl
     | some r =>
      rcases hnew (w.heap.size + 1) (by rw [e]; simp) with e2 | e2
      ·exact absurd (HH.out.off (k := w.heap.size + 1) (Nat.le_succ _)) e2
      ·have := HR2.out.lt
       omega
    have hfin := hph.set3 (x := .int .i64 7) (y := .int .i64 ((H.os.length : Int) + 1)) (z := .string ⟨#[]⟩) hoff
    refine bodyPost_ret (res_vt rfl _ _ (w.heap.size + 1) ⟨7, (H.os.length : Int) + 1, ⟨#[]⟩⟩ _ (by rfl) (by rfl) HRF.out) rfl ⟨rfl, ow', _, hfin, fun k hk => ?_, ?_⟩
    ·rcases hnew k hk with e | e
     ·exact .inl e
     ·exact .inr (Nat.le_trans (Nat.le_of_lt (Nat.lt_of_le_of_lt (Nat.le_succ _) HR2.out.lt)) e)
    ·have hF6 : Fr (Aw w ow) w w6 := by
      refine ⟨HOS6.out.1.trans HF2.out.os, HOS6.out.2.1.trans HF2.out.tape, HOS6.out.2.2.trans HF2.out.output, Nat.le_trans HF2.out.size HS6.out, fun k hk => ?_⟩
      have hkA : k ≠ A := fun e => by have := hk.2; rw [e, HH.out.wA] at this; cases this
      refine (HK6.out k (Nat.lt_of_lt_of_le hk.1 HF2.out.size) hkA (fun e => by have := HOWN.out k e; rw [hk.2] at this; cases this)).trans (HF2.out.block k ⟨hk.1, hkA⟩)
     exact ((hF6.setCell (p := ⟨w.heap.size + 1, 0, none⟩) (fun hk => absurd hk.1 (by show ¬ (w.heap.size + 1 < w.heap.size); omega)) _).setCell (p := ⟨w.heap.size + 1, 1, none⟩) (fun hk => absurd hk.1 (by show ¬ (w.heap.size + 1 < w.heap.size); omega)) _).setCell (p := ⟨w.heap.size + 1, 2, none⟩) (fun hk => absurd hk.1 (by show ¬ (w.heap.size + 1 < w.heap.size); omega)) _
 ·have e1 : H.make cls v = (H, none) := by unfold Hs.make; rw [if_pos hm]
  rw [e1]
  refine (rmake_none h cls v hm).mono ?_
  rintro e w1 ⟨rfl, hb⟩
  exact ⟨rfl, ow, R, Rch.below h hb⟩
end
theorem rows_ne {w : World} {B B' n n' s s' : Nat} {T T' : TypeId} {v v' : Value} {xs ys : List Value} (h : w.ownsRow B T s v n xs) (k : w.ownsRow B' T' s' v' n' ys) (hT : T ≠ T') {g : Nat} (e : v.ownBlock = some g) : v'.ownBlock ≠ some g := by
 intro e2
 rcases h.2 with ⟨rfl, -⟩ | ⟨g1, c1, cur1, rfl, -, h1, -⟩
 ·cases e
 ·cases e
  rcases k.2 with ⟨rfl, -⟩ | ⟨g2, c2, cur2, rfl, -, h2, -⟩
  ·cases e2
  ·cases e2
   rw [h1] at h2
   injection h2 with h2
   injection h2 with _ h2
   exact hT h2
theorem zip_set2 {os : List Ob} {R : List Value} {i : Nat} {o' : Ob} {r' : Value} (hl : R.length = os.length) : (os.set i o').zip (R.set i r') = (os.zip R).set i (o', r') := by
 apply List.ext_getElem?
 intro j
 rw [List.getElem?_set]
 by_cases e : i = j
 ·subst e
  rw [if_pos rfl]
  by_cases hi : i < os.length
  ·rw [if_pos (by rw [List.length_zip]; omega)]
   exact List.getElem?_zip_eq_some.2 ⟨by rw [List.getElem?_set_self hi], by rw [List.getElem?_set_self (by omega)]⟩
  ·rw [if_neg (by rw [List.length_zip]; omega), List.getElem?_eq_none]
   rw [List.length_zip, List.length_set, List.length_set]
   omega
 ·rw [if_neg e]
  simp only [List.zip, List.getElem?_zipWith, List.getElem?_set_ne e]
section
variable {w w1 : World} {ow : Nat → Option Nat} {A : Nat} {H : Hs} {R : List Value}
theorem RH.setps (h : RH w A H ow R) {i g cap : Nat} {o : Ob} {r nv : Value} {ps' : List Pr} (ho : H.os[i]? = some o) (hr : R[i]? = some r) (hc : w.cell? ⟨A, 0, none⟩ = some (.slice (some ⟨g, 0, none⟩) H.os.length cap))
  (hrow : w1.ownsRow 0 31 7 nv ps'.length (ps'.map Pr.cs).flatten) (hnv : nv.ownBlock = r.ownBlock ∨ ∀ k, nv.ownBlock = some k → w.heap.size ≤ k) (hf : ∀ k q, ow k = some q → q ≠ i + 1 → w1.heap[k]? = w.heap[k]?) (hs : w.heap.size ≤ w1.heap.size) :
  ∃ ow', RH (w1.setCell ⟨g, i * 8 + 4, none⟩ nv) A (H.set i { o with ps := ps' }) ow' (R.set i nv) ∧ ∀ k, ow' k ≠ none → ow k ≠ none ∨ w.heap.size ≤ k := by
 obtain ⟨⟨ov, h1, h2, h3⟩, h4, h5, h6, h7, h8⟩ := h
 have hov : ov = .slice (some ⟨g, 0, none⟩) H.os.length cap := by
  have := h1.cell (k := 0) (v := ov) rfl
  rw [hc] at this
  exact (Option.some.inj this).symm
 have hgb : ov.ownBlock = some g := by rw [hov]; rfl
 have hi : i < H.os.length := (List.getElem?_eq_some_iff.1 ho).1
 have hiR : i < R.length := by omega
 have hri : R[i] = r := (List.getElem?_eq_some_iff.1 hr).2
 have old : ∀ k q, ow k = some q → q ≠ i + 1 → (if nv.ownBlock = some k then some (i + 1) else ow k) = some q := fun k q e hq => by
  by_cases e2 : nv.ownBlock = some k
  ·rcases hnv with e3 | e3
   ·rw [e3] at e2
    have := h7 i hiR k (by rw [hri]; exact e2)
    rw [e] at this
    exact absurd (Option.some.inj this) hq
   ·have := e3 k e2
    have := h8 k (by rw [e]; simp)
    omega
  ·rw [if_neg e2]
   exact e
 have hA1 : Blk w1 A 39 [ov, .int .i64 (H.most : Int), .int .i64 (H.n : Int)] := h1.fr (hf A 0 h4 (by omega))
 have hR1 : w1.ownsRow 0 73 8 ov H.os.length ((H.os.zip R).map objV).flatten := row_same h2 fun k e => hf k 0 (h3 k e) (by omega)
 have hAg : A ≠ g := hA1.ne_row hR1 (by decide) g hgb
 have hk : ∀ k, k ≠ g → (w1.setCell ⟨g, i * 8 + 4, none⟩ nv).heap[k]? = w1.heap[k]? := fun k hk => Below.heap_setCell _ _ _ _ hk
 have hlen : (H.set i { o with ps := ps' }).os.length = H.os.length := by simp [Hs.set]
 have hng : ∀ k, nv.ownBlock = some k → k ≠ g := fun k e e2 => by
  subst e2
  exact rows_ne hrow hR1 (by decide) e hgb
 refine ⟨fun k => if nv.ownBlock = some k then some (i + 1) else ow k, ⟨⟨ov, hA1.fr (hk A hAg), ?_, fun k e => old k 0 (h3 k e) (by omega)⟩, old A 0 h4 (by omega), ?_, fun j a b => ?_, fun j a k e => ?_, fun k hk2 => ?_⟩, fun k hk2 => ?_⟩
 ·rw [hlen]
  show World.ownsRow _ 0 _ 8 ov H.os.length ((((H.os.set i { o with ps := ps' }).zip (R.set i nv)).map objV).flatten)
  rw [zip_set2 h5, flat_set objV 8 objV_len (H.os.zip R) i 4 (o, r) ({ o with ps := ps' }, nv) nv (by decide) (List.getElem?_zip_eq_some.2 ⟨ho, hr⟩) rfl]
  exact row_set hR1 hov (by omega) nv
 ·rw [hlen, List.length_set, h5]
 ·have hb : j < H.os.length := by rw [← hlen]; exact b
  have ha : j < R.length := by omega
  by_cases e : i = j
  ·subst e
   have e1 : (R.set i nv)[i]'a = nv := List.getElem_set_self _
   have e2 : ((H.set i { o with ps := ps' }).os[i]'b) = { o with ps := ps' } := List.getElem_set_self _
   rw [e1, e2]
   exact row_same hrow fun k e => hk k (hng k e)
  ·have e1 : (R.set i nv)[j]'a = R[j] := List.getElem_set_ne e _
   have e2 : ((H.set i { o with ps := ps' }).os[j]'b) = H.os[j] := List.getElem_set_ne e _
   rw [e1, e2]
   refine row_same (h6 j ha hb) fun k e3 => ?_
   have h9 := h7 j ha k e3
   have hkg : k ≠ g := fun e4 => by
    subst e4
    rw [h3 k hgb] at h9
    cases h9
   exact (hk k hkg).trans (hf k (j + 1) h9 (by omega))
 ·have ha : j < R.length := by simpa using a
  by_cases e2 : i = j
  ·subst e2
   have e1 : (R.set i nv)[i]'a = nv := List.getElem_set_self _
   rw [e1] at e
   exact if_pos e
  ·have e1 : (R.set i nv)[j]'a = R[j] := List.getElem_set_ne e2 _
   rw [e1] at e
   exact old k (j + 1) (h7 j ha k e) (by omega)
 ·have hsz : (w1.setCell ⟨g, i * 8 + 4, none⟩ nv).heap.size = w1.heap.size := by simp [World.setCell]
  rw [hsz]
  split at hk2
  ·rename_i e
   exact (hrow.lt k e).2
  ·exact Nat.lt_of_lt_of_le (h8 k hk2) hs
 ·dsimp only at hk2
  split at hk2
  ·rename_i e
   rcases hnv with e3 | e3
   ·left
    rw [h7 i hiR k (by rw [hri]; exact e3.symm.trans e)]
    simp
   ·exact .inr (e3 k e)
  ·exact .inl hk2
end
theorem dec_more {u : Nat} (h : ¬ u < 10) : Lib.decDigits u = Lib.decDigits (u / 10) ++ [UInt8.ofNat (48 + u % 10)] := by
 rw [Lib.decDigits]
 simp [h]
theorem mk_cons (c : UInt8) (l : Bs) : ByteArray.mk #[c] ++ ByteArray.mk l.toArray = ByteArray.mk (c :: l).toArray := by
 apply ByteArray.ext
 simp
set_option maxRecDepth 8000 in
set_option maxHeartbeats 1000000 in
theorem rindex_any (n : Nat) (hn : n ≤ 1000) (w : World) :
  Calls Tryz.prog 71 #[.int .i64 (n : Int)] w fun e w' => e = .returned (.string (dx n)) ∧ Below w.heap.size w w' := by
 have HN := Lib.hid hn
 clear hn
 go_enter Tryz.func71, Tryz.ntmps71
 go_wp2_with fail
 go_loopw [0, 3] (fun a s wr => ∃ (m : Nat) (l : Bs), a = .int .i64 (m : Int) ∧ s = .string ⟨l.toArray⟩ ∧ l.length + m ≤ 1000 ∧ Hid (Lib.decDigits n = Lib.decDigits m ++ l) ∧ Hid (Below w.heap.size w wr)) (fun a _ _ => (intOf a).toNat)
 case atStart => exact ⟨n, [], rfl, rfl, by have := HN.out; simpa using this, by show _ = _; rw [List.append_nil], Lib.hid (Below.refl _ _)⟩
 case round =>
  obtain ⟨m, l, rfl, rfl, hl, HD, HB⟩ := hrel
  have hls : (ByteArray.mk l.toArray).size ≤ 1000 := by rw [mk_size]; omega
  by_cases h10 : m < 10
  ·have HE : Hid (Lib.decDigits n = UInt8.ofNat (48 + m) :: l) := by show _ = _; rw [HD.out, dec_one h10]; rfl
   have hi : (m : Int) < 10 := by omega
   have hcv := conv_new wr [UInt8.ofNat (48 + m)] #[.int .u8 (48 + (m : Int))] 1 (by simp [bv]; omega) rfl
   have hw1 : IntKind.i64.wrap (48 + (m : Int)) = 48 + (m : Int) := IntWalk.i64_in _ (by omega)
   have HBA := Lib.hid (HB.out.trans ((below_new wr (.cells #[.int .u8 (48 + (m : Int))] 5)).mono HB.out.size))
   have HU := Lib.hid fun w => u_any (l := Lib.decDigits n) (asc_dec n) (by have := dec_len n (by have := HN.out; omega); omega) w
   have HX := Lib.hid (mk_cons (UInt8.ofNat (48 + m)) l)
   rw [HE.out, ← HX.out] at HU
   have HV : Hid (bz (un (UInt8.ofNat (48 + m) :: l)) = dx n) := by show _ = _; unfold dx; rw [HE.out]
   clear h10 HX HE
   generalize UInt8.ofNat (48 + m) = c at *
   have hq : ∀ w' : World, (Op.stringOp .add ⟨#[c]⟩ ⟨l.toArray⟩).run Tryz.prog w' = .ok (.string (⟨#[c]⟩ ++ ⟨l.toArray⟩)) w' := fun w' => run_string_add_sum w' _ _ (by rw [mk_size] at hls; show 1 + (ByteArray.mk l.toArray).size ≤ _; rw [mk_size]; omega)
   go_wp2_with fail
   refine (HU.out _).mono ?_
   rintro e w1 ⟨rfl, hb⟩
   have HBE := Lib.hid (HBA.out.trans (hb.mono HBA.out.size))
   clear hb
   go_wp2_with fail
   go_ret
   exact ⟨by rw [HV.out]; rfl, HBE.out⟩
  ·have HE : Hid (Lib.decDigits n = Lib.decDigits (m / 10) ++ (UInt8.ofNat (48 + m % 10) :: l)) := by show _ = _; rw [HD.out, dec_more h10, List.append_assoc]; rfl
   have hi : (10 : Int) ≤ (m : Int) := by omega
   have hcv := conv_new wr [UInt8.ofNat (48 + m % 10)] #[.int .u8 (48 + (m : Int) % 10)] 1 (by simp [bv]; omega) rfl
   have hw1 : IntKind.i64.wrap (48 + (m : Int) % 10) = 48 + (m : Int) % 10 := IntWalk.i64_in _ (by omega)
   have HBA := Lib.hid (HB.out.trans ((below_new wr (.cells #[.int .u8 (48 + (m : Int) % 10)] 5)).mono HB.out.size))
   have HX := Lib.hid (mk_cons (UInt8.ofNat (48 + m % 10)) l)
   have HL : Hid (l.length + 1 + m / 10 ≤ 1000) := by show _ ≤ _; omega
   have HQ : Hid ((m : Int) / 10 = ((m / 10 : Nat) : Int)) := by show _ = _; omega
   have hml : (m : Int) ≤ 1000 := by omega
   clear h10
   generalize UInt8.ofNat (48 + m % 10) = c at *
   have hq : ∀ w' : World, (Op.stringOp .add ⟨#[c]⟩ ⟨l.toArray⟩).run Tryz.prog w' = .ok (.string (⟨#[c]⟩ ++ ⟨l.toArray⟩)) w' := fun w' => run_string_add_sum w' _ _ (by show 1 + (ByteArray.mk l.toArray).size ≤ _; rw [mk_size]; omega)
   rw [HX.out] at hq
   go_wp2_with fail
   go_roundw
   case rel => exact ⟨m / 10, c :: l, by rw [HQ.out], rfl, by rw [List.length_cons]; exact HL.out, HE, HBA⟩
   case measure => simp [intOf]; omega
section
variable {w w' w1 w2 : World} {ow ow1 ow2 : Nat → Option Nat} {A i : Nat} {H H1 H2 : Hs} {R R1 R2 : List Value} {o : Ob}
def rarrH (H : Hs) (v : Vl) (l : List Vl) (k : Nat) : Hs := { os := H.os ++ [⟨AR, H.at v, pre l k, false, 0, true⟩], most := H.most, n := H.n + 1 + k }
theorem set_last {α : Type} (l : List α) (a b : α) : (l ++ [a]).set l.length b = l ++ [b] := by
 rw [List.set_append_right _ _ (Nat.le_refl _), Nat.sub_self]
 rfl
theorem get_last {α : Type} (l : List α) (a : α) : (l ++ [a])[l.length]? = some a := by
 rw [List.getElem?_append_right (Nat.le_refl _), Nat.sub_self]
 rfl
theorem rarr_next {v : Vl} {l : List Vl} {k : Nat} (hk : k < l.length) : { ((rarrH H v l k).set H.os.length { (⟨AR, H.at v, pre l k, false, 0, true⟩ : Ob) with ps := pre l k ++ [⟨dx k, l[k], true, true, true⟩] }) with n := H.n + 1 + k + 1 } = rarrH H v l (k + 1) := by
 unfold rarrH Hs.set
 dsimp only
 rw [set_last, ← pre_next l hk]
 rfl
theorem rarr_end {v : Vl} {l : List Vl} : (rarrH H v l l.length).set H.os.length ⟨AR, H.at v, pre l l.length, false, l.length, true⟩ = arrH H v l l.length := by
 unfold rarrH Hs.set arrH arrO
 dsimp only
 rw [set_last]
 congr 1
 omega
structure Ra (w : World) (ow : Nat → Option Nat) (A g cap n8 B6 B8 bk : Nat) (sl : Value) (l : List Vl) (Hc : Hs) (wr : World) (owr : Nat → Option Nat) (Rr : List Value) : Prop where
 oA : ow A = some 0
 ph : RH wr A Hc owr Rr
 hl : Hc.os.length = n8
 new : ∀ k, owr k ≠ none → ow k ≠ none ∨ w.heap.size ≤ k
 fr : Fr (Aw w ow) w wr
 c0 : wr.cell? ⟨A, 0, none⟩ = some (.slice (some ⟨g, 0, none⟩) n8 cap)
 b6 : Blk wr B6 29 [.int .i64 0, .int .i64 0, .string ⟨#[]⟩]
 o6 : owr B6 = none
 b8 : Blk wr B8 29 [.int .i64 7, .int .i64 (n8 : Int), .string ⟨#[]⟩]
 o8 : owr B8 = none
 vl : Vls wr sl l bk
 ob : owr bk = none ∧ bk < wr.heap.size
section
variable {g cap n8 B6 B8 bk : Nat} {sl : Value} {l : List Vl} {Hc : Hs}
theorem Ra.lA (h : Ra w ow A g cap n8 B6 B8 bk sl l Hc w1 ow1 R1) : A < w1.heap.size := by
 obtain ⟨ov, hov, -, -⟩ := h.ph.hb
 exact hov.lt
theorem Ra.og (h : Ra w ow A g cap n8 B6 B8 bk sl l Hc w1 ow1 R1) : ow1 g = some 0 := by
 obtain ⟨ov, hov, -, hown⟩ := h.ph.hb
 have := hov.cell (k := 0) (v := ov) rfl
 rw [h.c0] at this
 exact hown g (by rw [← Option.some.inj this]; rfl)
theorem Ra.low (h : Ra w ow A g cap n8 B6 B8 bk sl l Hc w1 ow1 R1) (hb : Below w1.heap.size w1 w2) : Ra w ow A g cap n8 B6 B8 bk sl l Hc w2 ow1 R1 :=
 ⟨h.oA, h.ph.low hb, h.hl, h.new, h.fr.trans (Fr.of hb fun _ hk => Nat.lt_of_lt_of_le hk.1 h.fr.size), (World.cell?_of_block (w := w1) (a := ⟨A, 0, none⟩) (hb.block A h.lA)).trans h.c0, h.b6.low hb, h.o6, h.b8.low hb, h.o8, h.vl.fr (hb.block bk h.ob.2), h.ob.1, Nat.lt_of_lt_of_le h.ob.2 hb.size⟩
theorem Ra.keep (h : Ra w ow A g cap n8 B6 B8 bk sl l Hc w1 ow1 R1) {H2 : Hs} (hp : RH w2 A H2 ow2 R2) (hl : H2.os.length = n8) (hn : ∀ k, ow2 k ≠ none → ow1 k ≠ none ∨ w1.heap.size ≤ k) (hk : ∀ k, k < w1.heap.size → ow1 k = none → w2.heap[k]? = w1.heap[k]?)
  (hc : w2.cell? ⟨A, 0, none⟩ = some (.slice (some ⟨g, 0, none⟩) n8 cap)) (hs : w1.heap.size ≤ w2.heap.size) (ho : w2.os = w1.os ∧ w2.tape = w1.tape ∧ w2.output = w1.output) : Ra w ow A g cap n8 B6 B8 bk sl l H2 w2 ow2 R2 := by
 have off : ∀ k, k < w1.heap.size → ow1 k = none → ow2 k = none := fun k h1 h2 => by
  cases e : ow2 k with
  | none => rfl
  | some r =>
   rcases hn k (by rw [e]; simp) with e2 | e2
   ·exact absurd h2 e2
   ·omega
 have out : ∀ k, k < w.heap.size → ow k = none → ow1 k = none := fun k h1 h2 => by
  cases e : ow1 k with
  | none => rfl
  | some r =>
   rcases h.new k (by rw [e]; simp) with e2 | e2
   ·exact absurd h2 e2
   ·omega
 have sz := h.fr.size
 refine ⟨h.oA, hp, hl, fun k e => ?_, ⟨ho.1.trans h.fr.os, ho.2.1.trans h.fr.tape, ho.2.2.trans h.fr.output, Nat.le_trans sz hs, fun k e => (hk k (Nat.lt_of_lt_of_le e.1 sz) (out k e.1 e.2)).trans (h.fr.block k e)⟩, hc, h.b6.fr (hk _ h.b6.lt h.o6), off _ h.b6.lt h.o6, h.b8.fr (hk _ h.b8.lt h.o8), off _ h.b8.lt h.o8, h.vl.fr (hk _ h.ob.2 h.ob.1), off _ h.ob.2 h.ob.1, Nat.lt_of_lt_of_le h.ob.2 hs⟩
 rcases hn k e with e2 | e2
 ·exact h.new k e2
 ·exact .inr (Nat.le_trans sz e2)
theorem Ra.took (h : Ra w ow A g cap n8 B6 B8 bk sl l Hc w1 ow1 R1) : Ra w ow A g cap n8 B6 B8 bk sl l { Hc with n := Hc.n + 1 } (w1.setCell ⟨A, 2, none⟩ (.int .i64 ((Hc.n : Int) + 1))) ow1 R1 :=
 h.keep h.ph.took h.hl (fun _ e => .inl e) (fun k _ e => Below.heap_setCell _ _ _ _ (fun e2 => by rw [e2, h.ph.wA] at e; cases e)) ((World.cell?_setCell_other _ _ _ _ (by intro e; injection e with _ e; cases e)).trans h.c0) (by simp [World.setCell]) ⟨rfl, rfl, rfl⟩
theorem Ra.grow (h : Ra w ow A g cap n8 B6 B8 bk sl l Hc w1 ow1 R1) {i : Nat} {o : Ob} {r nv : Value} {ps' : List Pr} (ho : Hc.os[i]? = some o) (hr : R1[i]? = some r)
  (hrow : w2.ownsRow 0 31 7 nv ps'.length (ps'.map Pr.cs).flatten) (hg : w1.grownBy w2 r.ownBlock) (hnv : nv.ownBlock = r.ownBlock ∨ nv.ownBlock = some w1.heap.size) :
  ∃ ow' R', Ra w ow A g cap n8 B6 B8 bk sl l (Hc.set i { o with ps := ps' }) (w2.setCell ⟨g, i * 8 + 4, none⟩ nv) ow' R' := by
 have hiR : i < R1.length := (List.getElem?_eq_some_iff.1 hr).1
 have hrb : ∀ k, r.ownBlock = some k → ow1 k = some (i + 1) := fun k e => h.ph.ra i hiR k (by rw [(List.getElem?_eq_some_iff.1 hr).2]; exact e)
 have c0 : w1.cell? ⟨A, 0, none⟩ = some (.slice (some ⟨g, 0, none⟩) Hc.os.length cap) := by rw [h.hl]; exact h.c0
 obtain ⟨ow', hp, hn⟩ := h.ph.setps ho hr c0 hrow (hnv.imp id fun e k e2 => by rw [e] at e2; cases e2; exact Nat.le_refl _)
  (fun k q e hq => hg.block k (h.ph.lt k (by rw [e]; simp)) fun e2 => by have := hrb k e2.symm; rw [e] at this; exact hq (Option.some.inj this)) hg.size
 have og := h.og
 refine ⟨ow', _, h.keep hp ?_ hn (fun k e1 e2 => ?_) ?_ ?_ ⟨hg.os, hg.tape, hg.output⟩⟩
 ·show (Hc.os.set i _).length = n8
  rw [List.length_set]
  exact h.hl
 ·refine (Below.heap_setCell _ _ _ _ (fun e => ?_)).trans (hg.block k e1 fun e => ?_)
  ·rw [e] at e2
   rw [og] at e2
   cases e2
  ·rw [hrb k e.symm] at e2
   cases e2
 ·have hAg : A ≠ g := fun e => by
   obtain ⟨ov, hov, hrw, hown⟩ := h.ph.hb
   have h2 := hov.cell (k := 0) (v := ov) rfl
   rw [h.c0] at h2
   exact hov.ne_row hrw (by decide) g (by rw [← Option.some.inj h2]; rfl) e
  refine (World.cell?_of_block (w := w2) (a := ⟨A, 0, none⟩) (Below.heap_setCell _ _ _ _ hAg)).trans ((World.cell?_of_block (w := w1) (a := ⟨A, 0, none⟩) (hg.block A h.lA fun e => ?_)).trans h.c0)
  have := hrb A e.symm
  rw [h.ph.wA] at this
  have := Option.some.inj this
  omega
 ·have : (w2.setCell ⟨g, i * 8 + 4, none⟩ nv).heap.size = w2.heap.size := by simp [World.setCell]
  rw [this]
  exact hg.size
end
end
section
variable {w w' w1 w2 : World} {ow ow1 ow2 : Nat → Option Nat} {A i : Nat} {H H1 H2 : Hs} {R R1 R2 : List Value} {o : Ob} {g cap n8 B6 B8 bk : Nat} {sl : Value} {l : List Vl} {Hc : Hs}
theorem Ra.cell (h : Ra w ow A g cap n8 B6 B8 bk sl l Hc w1 ow1 R1) (ho : Hc.os[i]? = some o) : ∃ r, R1[i]? = some r ∧ (∀ j v, (objV (o, r))[j]? = some v → w1.cell? ⟨g, i * 8 + j, none⟩ = some v ∧ w1.frozen? ⟨g, i * 8 + j, none⟩ = false) := by
 obtain ⟨g', cap', r, c0, -, hr, hcell, -⟩ := h.ph.row ho
 rw [h.hl, h.c0] at c0
 injection c0 with c0
 injection c0 with e1 _ _
 injection e1 with e1
 injection e1 with e1 _ _
 subst e1
 exact ⟨r, hr, hcell⟩
theorem Ra.pcell (h : Ra w ow A g cap n8 B6 B8 bk sl l Hc w1 ow1 R1) {r : Value} (ho : Hc.os[i]? = some o) (hr : R1[i]? = some r) :
  w1.cell? ⟨g, i * 8 + 4, none⟩ = some r ∧ w1.frozen? ⟨g, i * 8 + 4, none⟩ = false ∧ w1.ownsRow 0 31 7 r o.ps.length (o.ps.map Pr.cs).flatten := by
 obtain ⟨r', hr', hc⟩ := h.cell ho
 rw [hr] at hr'
 have e := Option.some.inj hr'
 subst e
 exact ⟨(hc 4 _ rfl).1, (hc 4 _ rfl).2, (h.ph.props ho hr).1⟩
theorem Ra.gcell (h : Ra w ow A g cap n8 B6 B8 bk sl l Hc w1 ow1 R1) {r : Value} (ho : Hc.os[i]? = some o) (hr : R1[i]? = some r) (hg : w1.grownBy w2 r.ownBlock) :
  w2.cell? ⟨g, i * 8 + 4, none⟩ = some r ∧ w2.frozen? ⟨g, i * 8 + 4, none⟩ = false := by
 obtain ⟨c1, c2, -⟩ := h.pcell ho hr
 have hb : w2.heap[g]? = w1.heap[g]? := hg.block g (h.ph.lt g (by rw [h.og]; simp)) fun e => by
  have := (h.ph.props ho hr).2 g e.symm
  rw [h.og] at this
  cases this
 refine ⟨(World.cell?_of_block (w := w1) (a := ⟨g, i * 8 + 4, none⟩) hb).trans c1, ?_⟩
 unfold World.frozen? at c2 ⊢
 rw [hb]
 exact c2
theorem rarr_next2 {v ev : Vl} {l : List Vl} {k : Nat} (hk : k < l.length) (he : l[k] = ev) : { ((rarrH H v l k).set H.os.length { (⟨AR, H.at v, pre l k, false, 0, true⟩ : Ob) with ps := pre l k ++ [⟨dx k, ev, true, true, true⟩] }) with n := H.n + 1 + k + 1 } = rarrH H v l (k + 1) := by
 subst he
 exact rarr_next hk
theorem ra_start (h : RH w A H ow R) {W wm w2 : World} (hW : Below w.heap.size w W) (hz : Blk W (w.heap.size + 1) 29 [.int .i64 0, .int .i64 0, .string ⟨#[]⟩]) (hch : Rch W A ow Hc wm ow1 R1) (hl : Hc.os.length = n8) (hb : Below wm.heap.size wm w2)
  (h8 : Blk w2 wm.heap.size 29 [.int .i64 7, .int .i64 (n8 : Int), .string ⟨#[]⟩]) (hv : Vls w sl l bk) (hbk : bk < w.heap.size ∧ ow bk = none) (ho : Hc.os[i]? = some o) :
  ∃ g cap, Ra w ow A g cap n8 (w.heap.size + 1) wm.heap.size bk sl l Hc w2 ow1 R1 ∧ n8 ≤ cap := by
 obtain ⟨g, cap, r, hro, hcap, -, -⟩ := (hch.ph.low hb).ro ho
 have off : ∀ k, k < W.heap.size → ow k = none → ow1 k = none := fun k h1 h2 => by
  cases e : ow1 k with
  | none => rfl
  | some r =>
   rcases hch.new k (by rw [e]; simp) with e2 | e2
   ·exact absurd h2 e2
   ·omega
 have h6 := h.off (k := w.heap.size + 1) (Nat.le_succ _)
 have kb : bk < W.heap.size := Nat.lt_of_lt_of_le hbk.1 hW.size
 refine ⟨g, cap, ⟨h.wA, hch.ph.low hb, hl, fun k hk => (hch.new k hk).imp id fun e => Nat.le_trans hW.size e, ((Fr.of (F := Aw w ow) hW fun _ hk => hk.1).trans (hch.fr.mono fun k hk => ⟨Nat.lt_of_lt_of_le hk.1 hW.size, hk.2⟩)).trans (Fr.of hb fun _ hk => Nat.lt_of_lt_of_le hk.1 (Nat.le_trans hW.size hch.fr.size)), by rw [← hl]; exact hro.c0, (hz.fr (hch.fr.block _ ⟨hz.lt, h6⟩)).low hb, off _ hz.lt h6, h8, hch.ph.off (Nat.le_refl _), (hv.fr (hW.block bk hbk.1)).fr ((hb.block bk (Nat.lt_of_lt_of_le kb hch.fr.size)).trans (hch.fr.block bk ⟨kb, hbk.2⟩)), off _ kb hbk.2, Nat.lt_of_lt_of_le kb (Nat.le_trans hch.fr.size hb.size)⟩, by rw [← hl]; exact hcap⟩
set_option maxRecDepth 8000 in
set_option maxHeartbeats 4000000 in
theorem rarray_any (h : RH w A H ow R) (gd : Gd H) (v : Vl) (hv : Vls w sl l bk) (hbk : bk < w.heap.size ∧ ow bk = none) (hll : l.length ≤ 4194304) :
  Calls Tryz.prog 33 #[pv A, v.v, sl] w (RpR w A ow (makeR (H.array dx AR v l).2) (H.array dx AR v l).1) := by
 by_cases hno : 1000 < l.length ∨ H.most < H.n + (l.length + 1)
 ·rw [array_no v hno]
  obtain ⟨a, c, hsl, -⟩ := hv
  rw [hsl]
  refine (rarray_none h v a l.length c hno gd.mx gd.ok.le).mono ?_
  rintro e w1 ⟨rfl, hb⟩
  exact ⟨rfl, ow, R, Rch.below h hb⟩
 ·have h1 : l.length ≤ 1000 := by omega
  have h2 : H.n + (l.length + 1) ≤ H.most := by omega
  rw [array_yes v h1 h2]
  clear hno hll
  have hb0 := two_low (w := w) 29 29 v.cs (Vl.cs vundef)
  have HB := Lib.hid hb0
  obtain ⟨ov, hov, -, -⟩ := (h.low hb0).hb
  have HOV := Lib.hid hov
  have HZ := Lib.hid (blk_two' w 29 29 v.cs (Vl.cs vundef)).2
  have HH := Lib.hid h
  have HGD := Lib.hid gd
  have HVL := Lib.hid hv
  have HBK := Lib.hid hbk
  have HM := Lib.hid fun k => rmake_any ((h.low hb0).low (below_drewN _ ((w.alloc (.cells v.cs.toArray 29)).alloc (.cells (Vl.cs vundef).toArray 29)) k)) gd ⟨#[65, 114, 114, 97, 121]⟩ v
  have HMK : Hid (H.make ⟨#[65, 114, 114, 97, 121]⟩ v = (rarrH H v l 0, some H.os.length)) := by
   show H.make _ v = _
   unfold Hs.make rarrH
   rw [if_neg (by omega)]
   rfl
  rw [HMK.out, show makeR (some H.os.length) = .tuple #[.agg #[.int .i64 7, .int .i64 ((H.os.length : Int) + 1), .string ⟨#[]⟩], .bool true] from rfl] at HM
  dsimp only at HM
  have hol : H.os.length ≤ 100000 := gd.os100
  have hmx := gd.mx
  have hmi : (H.most : Int) ≤ 100000 := by omega
  have h1i : ¬ (1000 : Int) < (l.length : Int) := by omega
  have h2i : ¬ (H.most : Int) - (H.n : Int) < (l.length : Int) + 1 := by omega
  have hw1 : IntKind.i64.wrap ((H.most : Int) - (H.n : Int)) = (H.most : Int) - (H.n : Int) := IntWalk.i64_in _ (by omega)
  have hw2 : IntKind.i64.wrap ((l.length : Int) + 1) = (l.length : Int) + 1 := IntWalk.i64_in _ (by omega)
  have HLL := Lib.hid h1
  have HNM := Lib.hid h2
  obtain ⟨sA, sc, rfl, -⟩ := id hv
  have c1 := hov.cell (k := 1) (v := .int .i64 (H.most : Int)) rfl
  have c2 := hov.cell (k := 2) (v := .int .i64 (H.n : Int)) rfl
  clear h gd hb0 hov hv hbk HMK h1 h2
  obtain ⟨vk, vn, vs⟩ := v
  simp only [Vl.v, Vl.cs, vundef, nil] at HB HOV HZ HM c1 c2 ⊢
  go_enter Tryz.func33, Tryz.ntmps33
  go_wp2_with fail
  go_quiet (fail)
  clear c1 c2
  go_wp2_with fail
  refine (HM.out _).mono ?_
  rintro e w1 ⟨rfl, ow1, R1, hch⟩
  have hn8 : (rarrH H ⟨vk, vn, vs⟩ l 0).os.length = H.os.length + 1 := by unfold rarrH; rw [List.length_append]; rfl
  obtain ⟨g, cap, hra, hcap⟩ := ra_start HH.out (HB.out.trans (below_drewN _ _ _)) (HZ.out.fr (w' := World.drewN _ _) rfl) hch hn8 (below_new w1 (.cells #[.int .i64 7, .int .i64 ((H.os.length : Int) + 1), .string ⟨#[]⟩] 29)).drew ((Blk.new w1 29 [.int .i64 7, .int .i64 ((H.os.length : Int) + 1), .string ⟨#[]⟩]).fr (w' := World.drew _) rfl) HVL.out HBK.out (get_last _ _)
  have HRA := Lib.hid hra
  have hhd : atI ((rarrH H ⟨vk, vn, vs⟩ l 0).at ⟨7, (H.os.length : Int) + 1, ⟨#[]⟩⟩) = (H.os.length : Int) := by
   have : (rarrH H ⟨vk, vn, vs⟩ l 0).at (ref H.os.length) = some H.os.length := at_ref (by rw [hn8]; omega)
   show atI ((rarrH H ⟨vk, vn, vs⟩ l 0).at (ref H.os.length)) = _
   rw [this]
   rfl
  have HAT := Lib.hid fun (w3 : World) owr Rr (hp : RH w3 A (rarrH H ⟨vk, vn, vs⟩ l 0) owr Rr) => rat_any hp ⟨7, (H.os.length : Int) + 1, ⟨#[]⟩⟩ (by rw [hn8]; have := HGD.out.os100; have := HNM.out; have := HGD.out.nl; omega)
  rw [hhd] at HAT
  simp only [Vl.v] at HAT
  obtain ⟨B8, hB8⟩ : ∃ B8, w1.heap.size = B8 := ⟨_, rfl⟩
  have hs0 : (fun w' : World => (w'.cell? ⟨B8, 0, none⟩ = some (.int .i64 7) ∧ w'.cell? ⟨B8, 1, none⟩ = some (.int .i64 ((H.os.length : Int) + 1)) ∧ w'.cell? ⟨B8, 2, none⟩ = some (.string ⟨#[]⟩)) ∧ w'.cell? ⟨A, 0, none⟩ = some (.slice (some ⟨g, 0, none⟩) (H.os.length + 1) cap)) (w1.alloc (.cells #[.int .i64 7, .int .i64 ((H.os.length : Int) + 1), .string ⟨#[]⟩] 29)).drew := ⟨Blk.three (v := ⟨7, (H.os.length : Int) + 1, ⟨#[]⟩⟩) (by rw [← hB8]; exact hra.b8), hra.c0⟩
  dsimp only at hs0
  rw [hB8] at HRA
  clear hra hch HM hhd hn8
  go_wp2_with fail
  try rw [hB8]
  clear hB8
  refine wp_region_held_drew (S := (fun w' : World => (w'.cell? ⟨B8, 0, none⟩ = some (.int .i64 7) ∧ w'.cell? ⟨B8, 1, none⟩ = some (.int .i64 ((H.os.length : Int) + 1)) ∧ w'.cell? ⟨B8, 2, none⟩ = some (.string ⟨#[]⟩)) ∧ w'.cell? ⟨A, 0, none⟩ = some (.slice (some ⟨g, 0, none⟩) (H.os.length + 1) cap))) (by kernel_rfl) (hs0) (fun hHeld0 => ?_)
  generalize World.drew _ = w2 at *
  refine tk 0 ?_ ‹_› ?_ ?_; rotate_left; focus (intro w0 hSw; obtain ⟨⟨e0, e1, e2⟩, e3⟩ := hSw; go_simp; try with_reducible rfl)
  refine tk 1 ?_ ‹_› ?_ ?_; rotate_left; focus (intro w0 hSw; obtain ⟨⟨e0, e1, e2⟩, e3⟩ := hSw; go_simp; try with_reducible rfl)
  refine tk 2 ?_ ‹_› ?_ ?_; rotate_left; focus (intro w0 hSw; obtain ⟨⟨e0, e1, e2⟩, e3⟩ := hSw; go_simp; try with_reducible rfl)
  refine tk 3 ?_ ‹_› ?_ ?_; rotate_left; focus (intro w0 hSw; obtain ⟨⟨e0, e1, e2⟩, e3⟩ := hSw; go_simp; try with_reducible rfl)
  refine tk 4 ?_ ‹_› ?_ ?_; rotate_left; focus (intro w0 hSw; obtain ⟨⟨e0, e1, e2⟩, e3⟩ := hSw; go_simp; try with_reducible rfl)
  refine tk 5 ?_ ‹_› ?_ ?_; rotate_left; focus (intro w0 hSw; obtain ⟨⟨e0, e1, e2⟩, e3⟩ := hSw; go_simp; try with_reducible rfl)
  try simp only [PT]
  refine wpAnyH_ready (rs := [6]) (by decide +kernel) (by simp) (AllReadyH.cons rfl (fun K hK => ?_) AllReadyH.nil)
  have hat := HAT.out _ _ _ HRA.out.ph
  go_simp
  refine hat.mono ?_
  rintro e w4 ⟨rfl, hb⟩
  have HRA4 := Lib.hid (HRA.out.low hb)
  have hs4 : (fun w' : World => (w'.cell? ⟨B8, 0, none⟩ = some (.int .i64 7) ∧ w'.cell? ⟨B8, 1, none⟩ = some (.int .i64 ((H.os.length : Int) + 1)) ∧ w'.cell? ⟨B8, 2, none⟩ = some (.string ⟨#[]⟩)) ∧ w'.cell? ⟨A, 0, none⟩ = some (.slice (some ⟨g, 0, none⟩) (H.os.length + 1) cap)) w4 := ⟨Blk.three (v := ⟨7, (H.os.length : Int) + 1, ⟨#[]⟩⟩) HRA4.out.b8, HRA4.out.c0⟩
  dsimp only at hs4
  clear hb hat HAT HRA hs0
  refine hK.out _ _ hs4 (fun hHeld1 => ?_)
  clear hK K hHeld0 
  try simp only [PT]
  have hi8 : (H.os.length : Int) < (H.os.length : Int) + 1 := by omega
  refine tk 7 ?_ ‹_› ?_ ?_; rotate_left; focus (intro w0 hSw; obtain ⟨⟨e0, e1, e2⟩, e3⟩ := hSw; go_simp; try with_reducible rfl)
  refine tk 8 ?_ ‹_› ?_ ?_; rotate_left; focus (intro w0 hSw; obtain ⟨⟨e0, e1, e2⟩, e3⟩ := hSw; go_simp; try with_reducible rfl)
  try simp only [PT]
  refine wpAnyH_done (by kernel_rfl) ?_ _
  clear hHeld1 hs4 hi8
  have hcc : H.os.length + 1 ≤ cap := hcap
  clear hcap
  go_wp2_with fail
  go_loopw [48] (fun x wr => ∃ (k : Nat) (owr : Nat → Option Nat) (Rr : List Value), k ≤ l.length ∧ x = .int .i64 k ∧ Hid (Ra w ow A g cap (H.os.length + 1) (w.heap.size + 1) B8 bk (.slice sA l.length sc) l (rarrH H ⟨vk, vn, vs⟩ l k) wr owr Rr)) (fun x _ => l.length - (intOf x).toNat)
  case atStart => exact ⟨0, ow1, R1, Nat.zero_le _, rfl, HRA4⟩
  case round =>
   obtain ⟨k, owr, Rr, hk, rfl, HR⟩ := hrel
   by_cases hlt : k < l.length
   ·have hi : (k : Int) < (l.length : Int) := by omega
    have HLT := Lib.hid hlt
    obtain ⟨sA', sc', hsl, hel⟩ := HR.out.vl
    injection hsl with e1 _ e2
    subst e1 e2
    obtain ⟨q, rfl, q1, q2, q3⟩ := hel k l[k] (List.getElem?_eq_getElem hlt)
    clear hel
    obtain ⟨ev, hev⟩ : ∃ ev, l[k] = ev := ⟨_, rfl⟩
    have HNX := Lib.hid (rarr_next2 (H := H) (v := ⟨vk, vn, vs⟩) (l := l) hlt hev)
    rw [hev] at q1 q2 q3
    clear hev
    obtain ⟨ek, en, es⟩ := ev
    dsimp only at q1 q2 q3
    have HRT := Lib.hid (HR.out.low (below_new wr (.cells #[.int .i64 ek, .int .i64 en, .string es] 29)))
    have HBT := Lib.hid (Blk.new wr 29 [.int .i64 ek, .int .i64 en, .string es])
    obtain ⟨N, hN⟩ : ∃ N : Nat, H.n + 1 + k = N := ⟨_, rfl⟩
    have hNb : (N : Int) ≤ 100000 := by have := HNM.out; omega
    have hwN : IntKind.i64.wrap ((N : Int) + 1) = (N : Int) + 1 := IntWalk.i64_in _ (by omega)
    have hwk : IntKind.i64.wrap ((k : Int) + 1) = (k : Int) + 1 := IntWalk.i64_in _ (by have := HLL.out; omega)
    obtain ⟨ov, hov, -, -⟩ := HRT.out.ph.hb
    have fz := hov.fz
    have z2 : (wr.alloc (.cells #[.int .i64 ek, .int .i64 en, .string es] 29)).cell? ⟨A, 2, none⟩ = some (.int .i64 (N : Int)) := by rw [← hN]; exact hov.cell (k := 2) rfl
    have HBA : Hid (wr.heap.size ≠ A) := fun e => absurd HR.out.lA (by rw [e]; exact Nat.lt_irrefl _)
    obtain ⟨Hn, hHn⟩ : ∃ Hn : Hs, Hn = { rarrH H ⟨vk, vn, vs⟩ l k with n := H.n + 1 + k + 1 } := ⟨_, rfl⟩
    have HRK : Hid (Ra w ow A g cap (H.os.length + 1) (w.heap.size + 1) B8 bk (.slice (some ⟨bk, q, none⟩) l.length sc) l Hn ((wr.alloc (.cells #[.int .i64 ek, .int .i64 en, .string es] 29)).setCell ⟨A, 2, none⟩ (.int .i64 ((N : Int) + 1))) owr Rr) := by
     rw [hHn, ← hN]
     exact HRT.out.took
    have HNX : Hid (Hn.set H.os.length { (⟨AR, H.at ⟨vk, vn, vs⟩, pre l k, false, 0, true⟩ : Ob) with ps := pre l k ++ [⟨dx k, ⟨ek, en, es⟩, true, true, true⟩] } = rarrH H ⟨vk, vn, vs⟩ l (k + 1)) := by
     rw [hHn]
     exact HNX.out
    have HO : Hid (Hn.os[H.os.length]? = some ⟨AR, H.at ⟨vk, vn, vs⟩, pre l k, false, 0, true⟩) := by
     rw [hHn]
     exact get_last _ _
    have hpl := pre_len l (Nat.le_of_lt hlt)
    obtain ⟨pk, hpk⟩ : ∃ pk, pre l k = pk := ⟨_, rfl⟩
    rw [hpk] at HO HNX hpl
    have HPL : Hid (pk.length ≤ 1000) := by have := HLL.out; show _ ≤ _; omega
    have HI := Lib.hid fun w => rindex_any k (by have := HLL.out; omega) w
    have HBK2 := Lib.hid (HBT.out.other (p := ⟨A, 2, none⟩) HBA.out (.int .i64 ((N : Int) + 1)))
    have HBG : Hid (wr.heap.size ≠ g) := fun e => by
     have h1 := HR.out.og
     rw [← e, HR.out.ph.off (Nat.le_refl _)] at h1
     cases h1
    obtain ⟨BT, hBT⟩ : ∃ BT, wr.heap.size = BT := ⟨_, rfl⟩
    have HR2 := Lib.hid (HRK.out.low (below_draw _))
    have HB2 := Lib.hid (HBK2.out.low (below_draw _))
    rw [hBT] at HB2 HBG
    have hs2 : (fun w' : World => w'.cell? ⟨BT, 0, none⟩ = some (.int .i64 ek) ∧ w'.cell? ⟨BT, 1, none⟩ = some (.int .i64 en) ∧ w'.cell? ⟨BT, 2, none⟩ = some (.string es)) (((wr.alloc (.cells #[.int .i64 ek, .int .i64 en, .string es] 29)).setCell ⟨A, 2, none⟩ (.int .i64 ((N : Int) + 1))).drew) := Blk.three (v := ⟨ek, en, es⟩) HB2.out
    dsimp only at hs2
    clear hov hlt hpk hHn hN hpl HRT HBT HBK2 HRK HR HBA
    go_wp2_with fail
    try rw [hBT]
    clear hBT z2 fz q1 q2 q3
    refine wp_region_held_drew (S := (fun w' : World => w'.cell? ⟨BT, 0, none⟩ = some (.int .i64 ek) ∧ w'.cell? ⟨BT, 1, none⟩ = some (.int .i64 en) ∧ w'.cell? ⟨BT, 2, none⟩ = some (.string es))) (by kernel_rfl) (hs2) (fun hHeld0 => ?_)
    generalize World.drew _ = w2 at *
    obtain ⟨r, hrr, -⟩ := HR2.out.cell HO.out
    have HRR := Lib.hid hrr
    clear hrr
    refine tk 0 ?_ ‹_› ?_ ?_; rotate_left; focus (intro w0 hSw; obtain ⟨e0, e1, e2⟩ := hSw; go_simp; try with_reducible rfl)
    refine tk 1 ?_ ‹_› ?_ ?_; rotate_left; focus (intro w0 hSw; obtain ⟨e0, e1, e2⟩ := hSw; go_simp; try with_reducible rfl)
    refine tk 2 ?_ ‹_› ?_ ?_; rotate_left; focus (intro w0 hSw; obtain ⟨e0, e1, e2⟩ := hSw; go_simp; try with_reducible rfl)
    refine tk 3 ?_ ‹_› ?_ ?_; rotate_left; focus (intro w0 hSw; obtain ⟨e0, e1, e2⟩ := hSw; go_simp; try with_reducible rfl)
    refine tk 5 ?_ ‹_› ?_ ?_; rotate_left; focus (intro w0 hSw; obtain ⟨e0, e1, e2⟩ := hSw; go_simp; try with_reducible rfl)
    refine tk 7 ?_ ‹_› ?_ ?_; rotate_left; focus (intro w0 hSw; obtain ⟨e0, e1, e2⟩ := hSw; go_simp; try with_reducible rfl)
    try simp only [PT]
    refine wpAnyH_ready (rs := [4, 6]) (by decide +kernel) (by simp) (AllReadyH.cons rfl (fun K hK => ?_) (AllReadyH.cons rfl (fun K hK => ?_) AllReadyH.nil))
    ·
     have c4 := (HR2.out.pcell HO.out HRR.out).1
     go_simp
     refine hK.out _ _ hs2 (fun hHeld1 => ?_)
     clear hK K hHeld0 c4
     try simp only [PT]
     refine wpAnyH_ready (rs := [6]) (by decide +kernel) (by simp) (AllReadyH.cons rfl (fun K hK => ?_) AllReadyH.nil)
     go_simp
     refine (HI.out _).mono ?_
     rintro e w3 ⟨rfl, hb⟩
     have HR3 := Lib.hid (HR2.out.low hb)
     have HB3 := Lib.hid (HB2.out.low hb)
     have hs3 : (fun w' : World => w'.cell? ⟨BT, 0, none⟩ = some (.int .i64 ek) ∧ w'.cell? ⟨BT, 1, none⟩ = some (.int .i64 en) ∧ w'.cell? ⟨BT, 2, none⟩ = some (.string es)) w3 := Blk.three (v := ⟨ek, en, es⟩) HB3.out
     dsimp only at hs3
     clear hb HI
     refine hK.out _ _ hs3 (fun hHeld2 => ?_)
     clear hK K hHeld1
     try simp only [PT]
     refine tk 8 ?_ ‹_› ?_ ?_; rotate_left; focus (intro w0 hSw; obtain ⟨e0, e1, e2⟩ := hSw; go_simp; try with_reducible rfl)
     try simp only [PT]
     refine wpAnyH_ready (rs := [9]) (by decide +kernel) (by simp) (AllReadyH.cons rfl (fun K hK => ?_) AllReadyH.nil)
     go_simp
     have hb := below_new w3 (.cells #[.string (dx k), .int .i64 ek, .int .i64 en, .string es, .bool true, .bool true, .bool true] 31)
     have HR4 := Lib.hid (HR3.out.low hb)
     have HB4 := Lib.hid (HB3.out.low hb)
     have HX := Lib.hid (Blk.new w3 31 [.string (dx k), .int .i64 ek, .int .i64 en, .string es, .bool true, .bool true, .bool true])
     obtain ⟨xb, hxb⟩ : ∃ xb, w3.heap.size = xb := ⟨_, rfl⟩
     clear hb
     have hs4 : (fun w' : World => w'.cell? ⟨BT, 0, none⟩ = some (.int .i64 ek) ∧ w'.cell? ⟨BT, 1, none⟩ = some (.int .i64 en) ∧ w'.cell? ⟨BT, 2, none⟩ = some (.string es)) (w3.alloc (.cells #[.string (dx k), .int .i64 ek, .int .i64 en, .string es, .bool true, .bool true, .bool true] 31)) := Blk.three (v := ⟨ek, en, es⟩) HB4.out
     dsimp only at hs4
     refine hK.out _ _ hs4 (fun hHeld3 => ?_)
     clear hK K hHeld2
     rw [hxb] at HX ⊢
     clear hxb
     generalize (w3.alloc (.cells #[.string (dx k), .int .i64 ek, .int .i64 en, .string es, .bool true, .bool true, .bool true] 31)) = w4 at *
     try simp only [PT]
     refine wpAnyH_ready (rs := [10]) (by decide +kernel) (by simp) (AllReadyH.cons rfl (fun K hK => ?_) AllReadyH.nil)
     have hrow := (HR4.out.pcell HO.out HRR.out).2.2
     obtain ⟨nv, w5, hr5, hrow5, hg5, hn5⟩ := run_appK (w := w4) 71 31 71 _ 7 56 Tryz.underlying71 infoPr' rfl (by decide) (by decide) 0 _ _ _ hrow xb 0 1 1 [.string (dx k), .int .i64 ek, .int .i64 en, .string es, .bool true, .bool true, .bool true] rfl (fun j u hj => by rw [Nat.zero_add]; exact HX.out.cell hj) (by intro u hu; simp only [List.mem_cons, List.not_mem_nil, or_false] at hu; rcases hu with rfl | rfl | rfl | rfl | rfl | rfl | rfl <;> rfl) (show pk.length + 1 ≤ 4194304 by have := HPL.out; omega) (Nat.zero_le _)
     obtain ⟨rA, rc, rfl, -, -⟩ := rows_form hrow
     obtain ⟨nA, nc, rfl, -, -⟩ := rows_form hrow5
     have HB5 := Lib.hid (HB4.out.fr (hg5.block _ HB4.out.lt fun e => HB4.out.ne_row hrow (by decide) _ e.symm rfl))
     have HG5 := Lib.hid hg5
     have HW5 := Lib.hid hrow5
     have HN5 := Lib.hid hn5
     have hs5 : (fun w' : World => w'.cell? ⟨BT, 0, none⟩ = some (.int .i64 ek) ∧ w'.cell? ⟨BT, 1, none⟩ = some (.int .i64 en) ∧ w'.cell? ⟨BT, 2, none⟩ = some (.string es)) w5 := Blk.three (v := ⟨ek, en, es⟩) HB5.out
     dsimp only at hs5
     refine step_appK rfl (.tmp 64) (.tmp 69) 71 rfl _ _ rfl rfl _ w5 hr5 ?_
     clear hr5 hrow5 hg5 hn5 hrow
     refine hK.out _ _ hs5 (fun hHeld4 => ?_)
     clear hK K hHeld3
     try simp only [PT]
     refine tk 11 ?_ ‹_› ?_ ?_; rotate_left; focus (intro w0 hSw; obtain ⟨e0, e1, e2⟩ := hSw; go_simp; try with_reducible rfl)
     refine tk 12 ?_ ‹_› ?_ ?_; rotate_left; focus (intro w0 hSw; obtain ⟨e0, e1, e2⟩ := hSw; go_simp; try with_reducible rfl)
     try simp only [PT]
     refine wpAnyH_ready (rs := [13]) (by decide +kernel) (by simp) (AllReadyH.cons rfl (fun K hK => ?_) AllReadyH.nil)
     obtain ⟨c4, z4⟩ := HR4.out.gcell HO.out HRR.out HG5.out
     go_simp
     have HB6 := Lib.hid (HB5.out.other (p := ⟨g, H.os.length * 8 + 4, none⟩) HBG.out (.slice nA (pk.length + 1) nc))
     have hs6 : (fun w' : World => w'.cell? ⟨BT, 0, none⟩ = some (.int .i64 ek) ∧ w'.cell? ⟨BT, 1, none⟩ = some (.int .i64 en) ∧ w'.cell? ⟨BT, 2, none⟩ = some (.string es)) (w5.setCell ⟨g, H.os.length * 8 + 4, none⟩ (.slice nA (pk.length + 1) nc)) := Blk.three (v := ⟨ek, en, es⟩) HB6.out
     dsimp only at hs6
     obtain ⟨ow6, R6, HR6⟩ := HR4.out.grow HO.out HRR.out (ps' := pk ++ [⟨dx k, ⟨ek, en, es⟩, true, true, true⟩]) (by rw [List.length_append, List.map_append, List.flatten_append]; exact HW5.out) HG5.out HN5.out
     have HR6 := Lib.hid HR6
     rw [HNX.out] at HR6
     refine hK.out _ _ hs6 (fun hHeld5 => ?_)
     clear hK K hHeld4
     refine wpAnyH_done (by kernel_rfl) ?_ _
     clear hHeld5 hs6 c4 z4
     go_wp2_with fail
     go_roundw
     case rel => exact ⟨k + 1, ow6, R6, HLT.out, rfl, HR6⟩
     case measure =>
      have := HLT.out
      simp [intOf]
      omega
    ·
     go_simp
     refine (HI.out _).mono ?_
     rintro e w3 ⟨rfl, hb⟩
     have HR3 := Lib.hid (HR2.out.low hb)
     have HB3 := Lib.hid (HB2.out.low hb)
     have hs3 : (fun w' : World => w'.cell? ⟨BT, 0, none⟩ = some (.int .i64 ek) ∧ w'.cell? ⟨BT, 1, none⟩ = some (.int .i64 en) ∧ w'.cell? ⟨BT, 2, none⟩ = some (.string es)) w3 := Blk.three (v := ⟨ek, en, es⟩) HB3.out
     dsimp only at hs3
     clear hb HI
     refine hK.out _ _ hs3 (fun hHeld1 => ?_)
     clear hK K hHeld0
     try simp only [PT]
     refine tk 8 ?_ ‹_› ?_ ?_; rotate_left; focus (intro w0 hSw; obtain ⟨e0, e1, e2⟩ := hSw; go_simp; try with_reducible rfl)
     try simp only [PT]
     refine wpAnyH_ready (rs := [4, 9]) (by decide +kernel) (by simp) (AllReadyH.cons rfl (fun K hK => ?_) (AllReadyH.cons rfl (fun K hK => ?_) AllReadyH.nil))
     ·
      have c4 := (HR3.out.pcell HO.out HRR.out).1
      go_simp
      refine hK.out _ _ hs3 (fun hHeld2 => ?_)
      clear hK K hHeld1 c4
      try simp only [PT]
      refine wpAnyH_ready (rs := [9]) (by decide +kernel) (by simp) (AllReadyH.cons rfl (fun K hK => ?_) AllReadyH.nil)
      go_simp
      have hb := below_new w3 (.cells #[.string (dx k), .int .i64 ek, .int .i64 en, .string es, .bool true, .bool true, .bool true] 31)
      have HR4 := Lib.hid (HR3.out.low hb)
      have HB4 := Lib.hid (HB3.out.low hb)
      have HX := Lib.hid (Blk.new w3 31 [.string (dx k), .int .i64 ek, .int .i64 en, .string es, .bool true, .bool true, .bool true])
      obtain ⟨xb, hxb⟩ : ∃ xb, w3.heap.size = xb := ⟨_, rfl⟩
      clear hb
      have hs4 : (fun w' : World => w'.cell? ⟨BT, 0, none⟩ = some (.int .i64 ek) ∧ w'.cell? ⟨BT, 1, none⟩ = some (.int .i64 en) ∧ w'.cell? ⟨BT, 2, none⟩ = some (.string es)) (w3.alloc (.cells #[.string (dx k), .int .i64 ek, .int .i64 en, .string es, .bool true, .bool true, .bool true] 31)) := Blk.three (v := ⟨ek, en, es⟩) HB4.out
      dsimp only at hs4
      refine hK.out _ _ hs4 (fun hHeld3 => ?_)
      clear hK K hHeld2
      rw [hxb] at HX ⊢
      clear hxb
      generalize (w3.alloc (.cells #[.string (dx k), .int .i64 ek, .int .i64 en, .string es, .bool true, .bool true, .bool true] 31)) = w4 at *
      try simp only [PT]
      refine wpAnyH_ready (rs := [10]) (by decide +kernel) (by simp) (AllReadyH.cons rfl (fun K hK => ?_) AllReadyH.nil)
      have hrow := (HR4.out.pcell HO.out HRR.out).2.2
      obtain ⟨nv, w5, hr5, hrow5, hg5, hn5⟩ := run_appK (w := w4) 71 31 71 _ 7 56 Tryz.underlying71 infoPr' rfl (by decide) (by decide) 0 _ _ _ hrow xb 0 1 1 [.string (dx k), .int .i64 ek, .int .i64 en, .string es, .bool true, .bool true, .bool true] rfl (fun j u hj => by rw [Nat.zero_add]; exact HX.out.cell hj) (by intro u hu; simp only [List.mem_cons, List.not_mem_nil, or_false] at hu; rcases hu with rfl | rfl | rfl | rfl | rfl | rfl | rfl <;> rfl) (show pk.length + 1 ≤ 4194304 by have := HPL.out; omega) (Nat.zero_le _)
      obtain ⟨rA, rc, rfl, -, -⟩ := rows_form hrow
      obtain ⟨nA, nc, rfl, -, -⟩ := rows_form hrow5
      have HB5 := Lib.hid (HB4.out.fr (hg5.block _ HB4.out.lt fun e => HB4.out.ne_row hrow (by decide) _ e.symm rfl))
      have HG5 := Lib.hid hg5
      have HW5 := Lib.hid hrow5
      have HN5 := Lib.hid hn5
      have hs5 : (fun w' : World => w'.cell? ⟨BT, 0, none⟩ = some (.int .i64 ek) ∧ w'.cell? ⟨BT, 1, none⟩ = some (.int .i64 en) ∧ w'.cell? ⟨BT, 2, none⟩ = some (.string es)) w5 := Blk.three (v := ⟨ek, en, es⟩) HB5.out
      dsimp only at hs5
      refine step_appK rfl (.tmp 64) (.tmp 69) 71 rfl _ _ rfl rfl _ w5 hr5 ?_
      clear hr5 hrow5 hg5 hn5 hrow
      refine hK.out _ _ hs5 (fun hHeld4 => ?_)
      clear hK K hHeld3
      try simp only [PT]
      refine tk 11 ?_ ‹_› ?_ ?_; rotate_left; focus (intro w0 hSw; obtain ⟨e0, e1, e2⟩ := hSw; go_simp; try with_reducible rfl)
      refine tk 12 ?_ ‹_› ?_ ?_; rotate_left; focus (intro w0 hSw; obtain ⟨e0, e1, e2⟩ := hSw; go_simp; try with_reducible rfl)
      try simp only [PT]
      refine wpAnyH_ready (rs := [13]) (by decide +kernel) (by simp) (AllReadyH.cons rfl (fun K hK => ?_) AllReadyH.nil)
      obtain ⟨c4, z4⟩ := HR4.out.gcell HO.out HRR.out HG5.out
      go_simp
      have HB6 := Lib.hid (HB5.out.other (p := ⟨g, H.os.length * 8 + 4, none⟩) HBG.out (.slice nA (pk.length + 1) nc))
      have hs6 : (fun w' : World => w'.cell? ⟨BT, 0, none⟩ = some (.int .i64 ek) ∧ w'.cell? ⟨BT, 1, none⟩ = some (.int .i64 en) ∧ w'.cell? ⟨BT, 2, none⟩ = some (.string es)) (w5.setCell ⟨g, H.os.length * 8 + 4, none⟩ (.slice nA (pk.length + 1) nc)) := Blk.three (v := ⟨ek, en, es⟩) HB6.out
      dsimp only at hs6
      obtain ⟨ow6, R6, HR6⟩ := HR4.out.grow HO.out HRR.out (ps' := pk ++ [⟨dx k, ⟨ek, en, es⟩, true, true, true⟩]) (by rw [List.length_append, List.map_append, List.flatten_append]; exact HW5.out) HG5.out HN5.out
      have HR6 := Lib.hid HR6
      rw [HNX.out] at HR6
      refine hK.out _ _ hs6 (fun hHeld5 => ?_)
      clear hK K hHeld4
      refine wpAnyH_done (by kernel_rfl) ?_ _
      clear hHeld5 hs6 c4 z4
      go_wp2_with fail
      go_roundw
      case rel => exact ⟨k + 1, ow6, R6, HLT.out, rfl, HR6⟩
      case measure =>
       have := HLT.out
       simp [intOf]
       omega
     ·
      go_simp
      have hb := below_new w3 (.cells #[.string (dx k), .int .i64 ek, .int .i64 en, .string es, .bool true, .bool true, .bool true] 31)
      have HR4 := Lib.hid (HR3.out.low hb)
      have HB4 := Lib.hid (HB3.out.low hb)
      have HX := Lib.hid (Blk.new w3 31 [.string (dx k), .int .i64 ek, .int .i64 en, .string es, .bool true, .bool true, .bool true])
      obtain ⟨xb, hxb⟩ : ∃ xb, w3.heap.size = xb := ⟨_, rfl⟩
      clear hb
      have hs4 : (fun w' : World => w'.cell? ⟨BT, 0, none⟩ = some (.int .i64 ek) ∧ w'.cell? ⟨BT, 1, none⟩ = some (.int .i64 en) ∧ w'.cell? ⟨BT, 2, none⟩ = some (.string es)) (w3.alloc (.cells #[.string (dx k), .int .i64 ek, .int .i64 en, .string es, .bool true, .bool true, .bool true] 31)) := Blk.three (v := ⟨ek, en, es⟩) HB4.out
      dsimp only at hs4
      refine hK.out _ _ hs4 (fun hHeld2 => ?_)
      clear hK K hHeld1
      rw [hxb] at HX ⊢
      clear hxb
      generalize (w3.alloc (.cells #[.string (dx k), .int .i64 ek, .int .i64 en, .string es, .bool true, .bool true, .bool true] 31)) = w4 at *
      try simp only [PT]
      refine wpAnyH_ready (rs := [4]) (by decide +kernel) (by simp) (AllReadyH.cons rfl (fun K hK => ?_) AllReadyH.nil)
      have c4 := (HR4.out.pcell HO.out HRR.out).1
      go_simp
      refine hK.out _ _ hs4 (fun hHeld3 => ?_)
      clear hK K hHeld2 c4
      try simp only [PT]
      refine wpAnyH_ready (rs := [10]) (by decide +kernel) (by simp) (AllReadyH.cons rfl (fun K hK => ?_) AllReadyH.nil)
      have hrow := (HR4.out.pcell HO.out HRR.out).2.2
      obtain ⟨nv, w5, hr5, hrow5, hg5, hn5⟩ := run_appK (w := w4) 71 31 71 _ 7 56 Tryz.underlying71 infoPr' rfl (by decide) (by decide) 0 _ _ _ hrow xb 0 1 1 [.string (dx k), .int .i64 ek, .int .i64 en, .string es, .bool true, .bool true, .bool true] rfl (fun j u hj => by rw [Nat.zero_add]; exact HX.out.cell hj) (by intro u hu; simp only [List.mem_cons, List.not_mem_nil, or_false] at hu; rcases hu with rfl | rfl | rfl | rfl | rfl | rfl | rfl <;> rfl) (show pk.length + 1 ≤ 4194304 by have := HPL.out; omega) (Nat.zero_le _)
      obtain ⟨rA, rc, rfl, -, -⟩ := rows_form hrow
      obtain ⟨nA, nc, rfl, -, -⟩ := rows_form hrow5
      have HB5 := Lib.hid (HB4.out.fr (hg5.block _ HB4.out.lt fun e => HB4.out.ne_row hrow (by decide) _ e.symm rfl))
      have HG5 := Lib.hid hg5
      have HW5 := Lib.hid hrow5
      have HN5 := Lib.hid hn5
      have hs5 : (fun w' : World => w'.cell? ⟨BT, 0, none⟩ = some (.int .i64 ek) ∧ w'.cell? ⟨BT, 1, none⟩ = some (.int .i64 en) ∧ w'.cell? ⟨BT, 2, none⟩ = some (.string es)) w5 := Blk.three (v := ⟨ek, en, es⟩) HB5.out
      dsimp only at hs5
      refine step_appK rfl (.tmp 64) (.tmp 69) 71 rfl _ _ rfl rfl _ w5 hr5 ?_
      clear hr5 hrow5 hg5 hn5 hrow
      refine hK.out _ _ hs5 (fun hHeld4 => ?_)
      clear hK K hHeld3
      try simp only [PT]
      refine tk 11 ?_ ‹_› ?_ ?_; rotate_left; focus (intro w0 hSw; obtain ⟨e0, e1, e2⟩ := hSw; go_simp; try with_reducible rfl)
      refine tk 12 ?_ ‹_› ?_ ?_; rotate_left; focus (intro w0 hSw; obtain ⟨e0, e1, e2⟩ := hSw; go_simp; try with_reducible rfl)
      try simp only [PT]
      refine wpAnyH_ready (rs := [13]) (by decide +kernel) (by simp) (AllReadyH.cons rfl (fun K hK => ?_) AllReadyH.nil)
      obtain ⟨c4, z4⟩ := HR4.out.gcell HO.out HRR.out HG5.out
      go_simp
      have HB6 := Lib.hid (HB5.out.other (p := ⟨g, H.os.length * 8 + 4, none⟩) HBG.out (.slice nA (pk.length + 1) nc))
      have hs6 : (fun w' : World => w'.cell? ⟨BT, 0, none⟩ = some (.int .i64 ek) ∧ w'.cell? ⟨BT, 1, none⟩ = some (.int .i64 en) ∧ w'.cell? ⟨BT, 2, none⟩ = some (.string es)) (w5.setCell ⟨g, H.os.length * 8 + 4, none⟩ (.slice nA (pk.length + 1) nc)) := Blk.three (v := ⟨ek, en, es⟩) HB6.out
      dsimp only at hs6
      obtain ⟨ow6, R6, HR6⟩ := HR4.out.grow HO.out HRR.out (ps' := pk ++ [⟨dx k, ⟨ek, en, es⟩, true, true, true⟩]) (by rw [List.length_append, List.map_append, List.flatten_append]; exact HW5.out) HG5.out HN5.out
      have HR6 := Lib.hid HR6
      rw [HNX.out] at HR6
      refine hK.out _ _ hs6 (fun hHeld5 => ?_)
      clear hK K hHeld4
      refine wpAnyH_done (by kernel_rfl) ?_ _
      clear hHeld5 hs6 c4 z4
      go_wp2_with fail
      go_roundw
      case rel => exact ⟨k + 1, ow6, R6, HLT.out, rfl, HR6⟩
      case measure =>
       have := HLT.out
       simp [intOf]
       omega
   ·have hke : k = l.length := by omega
    subst hke
    have hi : ¬ (l.length : Int) < (l.length : Int) := Int.lt_irrefl _
    have hg8 : B8 ≠ g := fun e => by have h1 := HR.out.og; rw [← e, HR.out.o8] at h1; cases h1
    have hg6 : w.heap.size + 1 ≠ g := fun e => by have h1 := HR.out.og; rw [← e, HR.out.o6] at h1; cases h1
    obtain ⟨r, hrr, hc⟩ := HR.out.cell (get_last _ _)
    have c6 := (hc 6 _ rfl).1
    have z6 := (hc 6 _ rfl).2
    have HP := Lib.hid (HR.out.ph.put (j := 6) (o' := ⟨AR, H.at ⟨vk, vn, vs⟩, pre l l.length, false, l.length, true⟩) (u := .int .i64 (l.length : Int)) (get_last _ _) hrr (by rw [HR.out.hl]; exact HR.out.c0) (by decide) rfl rfl)
    rw [rarr_end] at HP
    have HB6 := Lib.hid (HR.out.b6.other (p := ⟨g, H.os.length * 8 + 6, none⟩) hg6 (.int .i64 (l.length : Int)))
    have HB8 := Lib.hid (HR.out.b8.other (p := ⟨g, H.os.length * 8 + 6, none⟩) hg8 (.int .i64 (l.length : Int)))
    obtain ⟨d0, d1, d2⟩ := Blk.three (v := ⟨7, (H.os.length : Int) + 1, ⟨#[]⟩⟩) HB8.out
    obtain ⟨f0, f1, f2⟩ := Blk.three (v := ⟨0, 0, ⟨#[]⟩⟩) HB6.out
    have zr := HB6.out.fz
    dsimp only at d0 d1 d2 f0 f1 f2
    clear hc hrr hg8 hg6
    go_wp2_with fail
    have HRF := Lib.hid (set3_new' (a := .int .i64 7) (b := .int .i64 ((H.os.length : Int) + 1)) (c := .string ⟨#[]⟩) HB6.out)
    have hfin := HP.out.set3 (x := .int .i64 7) (y := .int .i64 ((H.os.length : Int) + 1)) (z := .string ⟨#[]⟩) HR.out.o6
    refine bodyPost_ret (res_vt rfl _ _ (w.heap.size + 1) ⟨7, (H.os.length : Int) + 1, ⟨#[]⟩⟩ _ (by rfl) (by rfl) HRF.out) rfl ⟨rfl, owr, _, hfin, HR.out.new, ?_⟩
    have hF : Fr (Aw w ow) w (wr.setCell ⟨g, H.os.length * 8 + 6, none⟩ (.int .i64 (l.length : Int))) := HR.out.fr.setCell (p := ⟨g, H.os.length * 8 + 6, none⟩) (fun hk => by
     rcases HR.out.new g (by rw [HR.out.og]; simp) with e | e
     ·exact e hk.2
     ·exact absurd hk.1 (by show ¬ g < w.heap.size; omega)) _
    exact ((hF.setCell (p := ⟨w.heap.size + 1, 0, none⟩) (fun hk => absurd hk.1 (by show ¬ (w.heap.size + 1 < w.heap.size); omega)) _).setCell (p := ⟨w.heap.size + 1, 1, none⟩) (fun hk => absurd hk.1 (by show ¬ (w.heap.size + 1 < w.heap.size); omega)) _).setCell (p := ⟨w.heap.size + 1, 2, none⟩) (fun hk => absurd hk.1 (by show ¬ (w.heap.size + 1 < w.heap.size); omega)) _
end
end Go.Proofs.YtcahijpbkjplmaaGreatDoor.G
