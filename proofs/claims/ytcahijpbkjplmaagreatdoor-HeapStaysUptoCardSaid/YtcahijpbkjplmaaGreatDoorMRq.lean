/-
  newObject, Make, by contract. (gen_rp.py)
  Make, by contract. (gen_rq.py)
-/
import Derived.Test.YtcahijpbkjplmaaGreatDoorMRo
namespace Go.Proofs.YtcahijpbkjplmaaGreatDoor.G
open Go.RowKit Go.Shelf Go.Maps Go.Lib Go.Proofs.YtcahijpbkjplmaaGreatDoor

theorem makeMap_new (t : TypeId) (w : World) : (Instr.makeMap t none).run Tryz.prog w = .ok (.map (some w.heap.size)) (w.alloc (.map #[] 0)) := by
  simp [Instr.makeMap, Result.andThen]
/-- an object without properties -/
structure Bare (w : World) (num : Int) (cls : ByteArray) (pp : Value) (b pm im : Nat) (w' : World) : Prop where
  ob : Blk w' b 84 [.int .i64 num, .string cls, pp, .bool false, .map (some pm), .string ⟨#[]⟩, .int .i64 0, .int .i64 0, .string ⟨#[]⟩, .bool false, .bool false, .bool false, av ⟨b, 5, none⟩, av ⟨b, 5, none⟩, .int .i64 0, .bool false, .map (some im)]
  mp : MapS w' pm 0 (.pointer none) fun _ => .pointer none
  mi : MapI w' im 0 (.slice none 0 0) fun _ => .slice none 0 0
  ne : pm ≠ im
  lo : w.heap.size ≤ b ∧ w.heap.size ≤ pm ∧ w.heap.size ≤ im
  low : Below w.heap.size w w'
theorem Bare.at' {w w' : World} {i b pm im : Nat} {cls : ByteArray} {pp : Value} (h : Bare w ((i : Int) + 1) cls pp b pm im w') (ow : Nat → Option Nat) (hb : ow b = some (i + 1)) (hp : ow pm = some (i + 1)) (hi : ow im = some (i + 1)) (n : Nat) (q : Option Nat) :
    ObjAt w' ow i n pp ⟨b, pm, im, [], fun _ => .slice none 0 0⟩ ⟨cls, q, [], false, 0, true⟩ :=
  ⟨h.ob, rfl, fun j hj => absurd hj (Nat.not_lt_zero j), List.nodup_nil, h.mp.mono (Nat.zero_le _), ⟨0, Nat.zero_le _, h.mi⟩, fun y => row_nil _ _ _ _, fun y g e => (by cases e), hb, hp, hi, fun c hc => (by cases hc), h.ne⟩
set_option linter.unusedSimpArgs false in
set_option maxRecDepth 8000 in
theorem newObject_any (num : Int) (cls : ByteArray) (q : Option Addr) (w : World) (hs : cls.size ≤ 281474976710656) :
    Calls Tryz.prog 69 #[.int .i64 num, .string cls, .pointer q] w fun e w' => ∃ b pm im, e = .returned (pv b) ∧ Bare w num cls (.pointer q) b pm im w' := by
  have HC := Lib.hid (clone_any cls w (by omega))
  clear hs
  go_enter Tryz.func69, Tryz.ntmps69
  go_wp2_with fail
  refine HC.out.mono ?_
  rintro e w1 ⟨rfl, hb⟩
  have HB := Lib.hid hb
  have h1 := below_new w1 (.map #[] 0)
  have h2 := below_new (w1.alloc (.map #[] 0)) (.map #[] 0)
  have h3 := below_new ((w1.alloc (.map #[] 0)).alloc (.map #[] 0)) (.cells #[.int .i64 num, .string cls, .pointer q, .bool false, .map (some w1.heap.size), .string ⟨#[]⟩, .int .i64 0, .int .i64 0, .string ⟨#[]⟩, .bool false, .bool false, .bool false, .pointer none, .pointer none, .int .i64 0, .bool false, .map (some (w1.heap.size + 1))] 84)
  have hz : (w1.alloc (.map #[] 0)).heap.size = w1.heap.size + 1 := by simp
  have hz2 : ((w1.alloc (.map #[] 0)).alloc (.map #[] 0)).heap.size = w1.heap.size + 2 := by simp
  have HM1 : Hid (MapS (((w1.alloc (.map #[] 0)).alloc (.map #[] 0)).alloc (.cells #[.int .i64 num, .string cls, .pointer q, .bool false, .map (some w1.heap.size), .string ⟨#[]⟩, .int .i64 0, .int .i64 0, .string ⟨#[]⟩, .bool false, .bool false, .bool false, .pointer none, .pointer none, .int .i64 0, .bool false, .map (some (w1.heap.size + 1))] 84)) w1.heap.size 0 (.pointer none) fun _ => .pointer none) := ((MapS.new w1 _).fr (h2.block _ (by omega))).fr (h3.block _ (by omega))
  have HM2 : Hid (MapI (((w1.alloc (.map #[] 0)).alloc (.map #[] 0)).alloc (.cells #[.int .i64 num, .string cls, .pointer q, .bool false, .map (some w1.heap.size), .string ⟨#[]⟩, .int .i64 0, .int .i64 0, .string ⟨#[]⟩, .bool false, .bool false, .bool false, .pointer none, .pointer none, .int .i64 0, .bool false, .map (some (w1.heap.size + 1))] 84)) (w1.heap.size + 1) 0 (.slice none 0 0) fun _ => .slice none 0 0) := by
    have := MapI.new (w1.alloc (.map #[] 0)) (.slice none 0 0)
    rw [hz] at this
    exact this.fr (h3.block _ (by omega))
  have HO : Hid (Blk (((w1.alloc (.map #[] 0)).alloc (.map #[] 0)).alloc (.cells #[.int .i64 num, .string cls, .pointer q, .bool false, .map (some w1.heap.size), .string ⟨#[]⟩, .int .i64 0, .int .i64 0, .string ⟨#[]⟩, .bool false, .bool false, .bool false, .pointer none, .pointer none, .int .i64 0, .bool false, .map (some (w1.heap.size + 1))] 84)) (w1.heap.size + 1 + 1) 84 [.int .i64 num, .string cls, .pointer q, .bool false, .map (some w1.heap.size), .string ⟨#[]⟩, .int .i64 0, .int .i64 0, .string ⟨#[]⟩, .bool false, .bool false, .bool false, .pointer none, .pointer none, .int .i64 0, .bool false, .map (some (w1.heap.size + 1))]) := by
    have := Blk.new ((w1.alloc (.map #[] 0)).alloc (.map #[] 0)) 84 [.int .i64 num, .string cls, .pointer q, .bool false, .map (some w1.heap.size), .string ⟨#[]⟩, .int .i64 0, .int .i64 0, .string ⟨#[]⟩, .bool false, .bool false, .bool false, .pointer none, .pointer none, .int .i64 0, .bool false, .map (some (w1.heap.size + 1))]
    rw [hz2] at this
    exact this
  have HBB : Hid (Below w1.heap.size w1 (((w1.alloc (.map #[] 0)).alloc (.map #[] 0)).alloc (.cells #[.int .i64 num, .string cls, .pointer q, .bool false, .map (some w1.heap.size), .string ⟨#[]⟩, .int .i64 0, .int .i64 0, .string ⟨#[]⟩, .bool false, .bool false, .bool false, .pointer none, .pointer none, .int .i64 0, .bool false, .map (some (w1.heap.size + 1))] 84))) := (h1.trans (h2.mono (by omega))).trans (h3.mono (by omega))
  clear hb HC h1 h2 h3 hz hz2
  have hmm1 := fun w : World => makeMap_new 78 w
  have hmm2 := fun w : World => makeMap_new 82 w
  go_wp2_with fail
  clear hmm1 hmm2
  have HX : Hid (Blk (((w1.alloc (.map #[] 0)).alloc (.map #[] 0)).alloc (.cells #[.int .i64 num, .string cls, .pointer q, .bool false, .map (some w1.heap.size), .string ⟨#[]⟩, .int .i64 0, .int .i64 0, .string ⟨#[]⟩, .bool false, .bool false, .bool false, .pointer none, .pointer none, .int .i64 0, .bool false, .map (some (w1.heap.size + 1))] 84)).drew (w1.heap.size + 1 + 1) 84 [.int .i64 num, .string cls, .pointer q, .bool false, .map (some w1.heap.size), .string ⟨#[]⟩, .int .i64 0, .int .i64 0, .string ⟨#[]⟩, .bool false, .bool false, .bool false, .pointer none, .pointer none, .int .i64 0, .bool false, .map (some (w1.heap.size + 1))] ∧ MapS (((w1.alloc (.map #[] 0)).alloc (.map #[] 0)).alloc (.cells #[.int .i64 num, .string cls, .pointer q, .bool false, .map (some w1.heap.size), .string ⟨#[]⟩, .int .i64 0, .int .i64 0, .string ⟨#[]⟩, .bool false, .bool false, .bool false, .pointer none, .pointer none, .int .i64 0, .bool false, .map (some (w1.heap.size + 1))] 84)).drew w1.heap.size 0 (.pointer none) (fun _ => .pointer none) ∧ MapI (((w1.alloc (.map #[] 0)).alloc (.map #[] 0)).alloc (.cells #[.int .i64 num, .string cls, .pointer q, .bool false, .map (some w1.heap.size), .string ⟨#[]⟩, .int .i64 0, .int .i64 0, .string ⟨#[]⟩, .bool false, .bool false, .bool false, .pointer none, .pointer none, .int .i64 0, .bool false, .map (some (w1.heap.size + 1))] 84)).drew (w1.heap.size + 1) 0 (.slice none 0 0) (fun _ => .slice none 0 0) ∧ Below w1.heap.size w1 (((w1.alloc (.map #[] 0)).alloc (.map #[] 0)).alloc (.cells #[.int .i64 num, .string cls, .pointer q, .bool false, .map (some w1.heap.size), .string ⟨#[]⟩, .int .i64 0, .int .i64 0, .string ⟨#[]⟩, .bool false, .bool false, .bool false, .pointer none, .pointer none, .int .i64 0, .bool false, .map (some (w1.heap.size + 1))] 84)).drew) := ⟨HO.out.fr rfl, HM1.out.fr rfl, HM2.out.fr rfl, HBB.out.drew⟩
  clear HO HM1 HM2 HBB
  have hs0 : (fun _ : World => True) (((w1.alloc (.map #[] 0)).alloc (.map #[] 0)).alloc (.cells #[.int .i64 num, .string cls, .pointer q, .bool false, .map (some w1.heap.size), .string ⟨#[]⟩, .int .i64 0, .int .i64 0, .string ⟨#[]⟩, .bool false, .bool false, .bool false, .pointer none, .pointer none, .int .i64 0, .bool false, .map (some (w1.heap.size + 1))] 84)).drew := trivial
  refine wp_region_held_drew (S := fun _ => True) (by kernel_rfl) (hs0) (fun hHeld0 => ?_)
  generalize (((w1.alloc (.map #[] 0)).alloc (.map #[] 0)).alloc (.cells #[.int .i64 num, .string cls, .pointer q, .bool false, .map (some w1.heap.size), .string ⟨#[]⟩, .int .i64 0, .int .i64 0, .string ⟨#[]⟩, .bool false, .bool false, .bool false, .pointer none, .pointer none, .int .i64 0, .bool false, .map (some (w1.heap.size + 1))] 84)).drew = v1 at *
  obtain ⟨b, hB⟩ : ∃ b, w1.heap.size + 1 + 1 = b := ⟨_, rfl⟩
  rw [hB] at HX ⊢
  have HBE := Lib.hid hB
  clear hB
  (refine wpAnyH_take (i := 0) (v := ?_) rfl (by kernel_rfl) (by decide +kernel) (by decide +kernel) (fun _ _ _ h => h) (Or.inl ⟨by rfl, ?_⟩) (by assumption) ?_; rotate_left; (focus (intro w0 hSw; go_simp; (try with_reducible rfl); done)))
  (refine wpAnyH_take (i := 1) (v := ?_) rfl (by kernel_rfl) (by decide +kernel) (by decide +kernel) (fun _ _ _ h => h) (Or.inl ⟨by rfl, ?_⟩) (by assumption) ?_; rotate_left; (focus (intro w0 hSw; go_simp; (try with_reducible rfl); done)))
  (refine wpAnyH_take (i := 2) (v := ?_) rfl (by kernel_rfl) (by decide +kernel) (by decide +kernel) (fun _ _ _ h => h) (Or.inl ⟨by rfl, ?_⟩) (by assumption) ?_; rotate_left; (focus (intro w0 hSw; go_simp; (try with_reducible rfl); done)))
  (refine wpAnyH_take (i := 3) (v := ?_) rfl (by kernel_rfl) (by decide +kernel) (by decide +kernel) (fun _ _ _ h => h) (Or.inl ⟨by rfl, ?_⟩) (by assumption) ?_; rotate_left; (focus (intro w0 hSw; go_simp; (try with_reducible rfl); done)))
  (refine wpAnyH_take (i := 4) (v := ?_) rfl (by kernel_rfl) (by decide +kernel) (by decide +kernel) (fun _ _ _ h => h) (Or.inl ⟨by rfl, ?_⟩) (by assumption) ?_; rotate_left; (focus (intro w0 hSw; go_simp; (try with_reducible rfl); done)))
  (refine wpAnyH_take (i := 5) (v := ?_) rfl (by kernel_rfl) (by decide +kernel) (by decide +kernel) (fun _ _ _ h => h) (Or.inl ⟨by rfl, ?_⟩) (by assumption) ?_; rotate_left; (focus (intro w0 hSw; go_simp; (try with_reducible rfl); done)))
  (refine wpAnyH_take (i := 6) (v := ?_) rfl (by kernel_rfl) (by decide +kernel) (by decide +kernel) (fun _ _ _ h => h) (Or.inl ⟨by rfl, ?_⟩) (by assumption) ?_; rotate_left; (focus (intro w0 hSw; go_simp; (try with_reducible rfl); done)))
  (refine wpAnyH_take (i := 7) (v := ?_) rfl (by kernel_rfl) (by decide +kernel) (by decide +kernel) (fun _ _ _ h => h) (Or.inl ⟨by rfl, ?_⟩) (by assumption) ?_; rotate_left; (focus (intro w0 hSw; go_simp; (try with_reducible rfl); done)))
  (refine wpAnyH_take (i := 8) (v := ?_) rfl (by kernel_rfl) (by decide +kernel) (by decide +kernel) (fun _ _ _ h => h) (Or.inl ⟨by rfl, ?_⟩) (by assumption) ?_; rotate_left; (focus (intro w0 hSw; go_simp; (try with_reducible rfl); done)))
  (refine wpAnyH_take (i := 9) (v := ?_) rfl (by kernel_rfl) (by decide +kernel) (by decide +kernel) (fun _ _ _ h => h) (Or.inl ⟨by rfl, ?_⟩) (by assumption) ?_; rotate_left; (focus (intro w0 hSw; go_simp; (try with_reducible rfl); done)))
  (refine wpAnyH_take (i := 10) (v := ?_) rfl (by kernel_rfl) (by decide +kernel) (by decide +kernel) (fun _ _ _ h => h) (Or.inl ⟨by rfl, ?_⟩) (by assumption) ?_; rotate_left; (focus (intro w0 hSw; go_simp; (try with_reducible rfl); done)))
  try simp only [List.getElem_toArray, List.getElem_cons_zero, List.getElem_cons_succ, Act.put, List.setIfInBounds_toArray, List.set_cons_zero, List.set_cons_succ]
  refine wpAnyH_ready (rs := [11]) (by decide +kernel) (by simp) (AllReadyH.cons rfl (fun K hK => ?_) AllReadyH.nil)
  have c12 : v1.cell? ⟨b, 12, none⟩ = some (.pointer none) := HX.out.1.cell (k := 12) rfl
  have z12 : v1.frozen? ⟨b, 12, none⟩ = false := HX.out.1.fz 12
  go_simp
  clear c12 z12
  have H1 := Lib.hid (HX.out.1.set 12 (av ⟨b, 5, none⟩))
  refine hK.out _ _ trivial (fun hHeld1 => ?_)
  clear hK K hHeld0 
  try simp only [List.getElem_toArray, List.getElem_cons_zero, List.getElem_cons_succ, Act.put, List.setIfInBounds_toArray, List.set_cons_zero, List.set_cons_succ]
  (refine wpAnyH_take (i := 12) (v := ?_) rfl (by kernel_rfl) (by decide +kernel) (by decide +kernel) (fun _ _ _ h => h) (Or.inl ⟨by rfl, ?_⟩) (by assumption) ?_; rotate_left; (focus (intro w0 hSw; go_simp; (try with_reducible rfl); done)))
  (refine wpAnyH_take (i := 13) (v := ?_) rfl (by kernel_rfl) (by decide +kernel) (by decide +kernel) (fun _ _ _ h => h) (Or.inl ⟨by rfl, ?_⟩) (by assumption) ?_; rotate_left; (focus (intro w0 hSw; go_simp; (try with_reducible rfl); done)))
  (refine wpAnyH_take (i := 14) (v := ?_) rfl (by kernel_rfl) (by decide +kernel) (by decide +kernel) (fun _ _ _ h => h) (Or.inl ⟨by rfl, ?_⟩) (by assumption) ?_; rotate_left; (focus (intro w0 hSw; go_simp; (try with_reducible rfl); done)))
  try simp only [List.getElem_toArray, List.getElem_cons_zero, List.getElem_cons_succ, Act.put, List.setIfInBounds_toArray, List.set_cons_zero, List.set_cons_succ]
  refine wpAnyH_ready (rs := [15]) (by decide +kernel) (by simp) (AllReadyH.cons rfl (fun K hK => ?_) AllReadyH.nil)
  have c13 : (v1.setCell ⟨b, 12, none⟩ (av ⟨b, 5, none⟩)).cell? ⟨b, 13, none⟩ = some (.pointer none) := H1.out.cell (k := 13) rfl
  have z13 : (v1.setCell ⟨b, 12, none⟩ (av ⟨b, 5, none⟩)).frozen? ⟨b, 13, none⟩ = false := H1.out.fz 13
  go_simp
  clear c13 z13
  have H2 := Lib.hid (H1.out.set 13 (av ⟨b, 5, none⟩))
  refine hK.out _ _ trivial (fun hHeld2 => ?_)
  clear hK K hHeld1 
  try simp only [List.getElem_toArray, List.getElem_cons_zero, List.getElem_cons_succ, Act.put, List.setIfInBounds_toArray, List.set_cons_zero, List.set_cons_succ]
  refine wpAnyH_done (by kernel_rfl) ?_ _
  clear hHeld2
  go_wp2_with fail
  refine bodyPost_ret (results_tmp rfl _ _ _) rfl ⟨b, w1.heap.size, w1.heap.size + 1, rfl, ?_⟩
  obtain ⟨hx1, hx2, hx3, hx4⟩ := HX.out
  obtain ⟨es, c, hes⟩ := hx2.isMap
  obtain ⟨es2, c2, hes2⟩ := hx3.isMap
  have n1 := hx1.ne_map hes
  have n2 := hx1.ne_map hes2
  refine ⟨H2.out, (hx2.fr ?_), (hx3.fr ?_), by omega, ⟨by have := HBE.out; have := HB.out.size; omega, HB.out.size, by have := HB.out.size; omega⟩, ?_⟩
  · rw [Below.heap_setCell _ _ _ _ (Ne.symm n1), Below.heap_setCell _ _ _ _ (Ne.symm n1)]
  · rw [Below.heap_setCell _ _ _ _ (Ne.symm n2), Below.heap_setCell _ _ _ _ (Ne.symm n2)]
  · have h5 := hx4.mono HB.out.size
    exact ((HB.out.trans h5).setCell (p := ⟨b, 12, none⟩) (by have := HBE.out; have := HB.out.size; show w.heap.size ≤ b; omega) _).setCell (p := ⟨b, 13, none⟩) (by have := HBE.out; have := HB.out.size; show w.heap.size ≤ b; omega) _
end Go.Proofs.YtcahijpbkjplmaaGreatDoor.G
namespace Go.Proofs.YtcahijpbkjplmaaGreatDoor.G
open Go.RowKit Go.Shelf Go.Maps Go.Lib Go.Proofs.YtcahijpbkjplmaaGreatDoor

theorem infoOp : (Tryz.prog.info? 76).map (fun i => (i.zero, i.size, i.bytes)) = some (some (.pointer none), 1, 8) := by kernel_rfl
/-- append of one cell, in a statement's list -/
theorem list_app1 {ops : Array Oper} {rest : List Oper} {o : Oper} {a : Act} {w : World} {Q : Exit → Act → World → Prop} (hgd : o.guard = none) (s x : Operand) (t e : TypeId) (z : Value) (bytes : Nat) (ht : Tryz.prog.underlying t = some (.slice e))
    (hin : (Tryz.prog.info? e).map (fun i => (i.zero, i.size, i.bytes)) = some (some z, 1, bytes)) (hz : z.cells.size = 1) (hbt : bytes ≤ 128)
    (ho : o.op = .call { callee := .builtin .append, args := #[s, x], argTypes := #[t, t] })
    (C : Nat) (nv : Value) (n : Nat) (xs : List Value) (hs : a.eval s = nv) (hown : w.ownsRow C e 1 nv n xs) (g : Nat) (y : Value) (hx : a.eval x = .slice (some ⟨g, 0, none⟩) 1 1) (hc : w.cell? ⟨g, 0, none⟩ = some y) (h1 : y.oneCell' = true) (hl : n ≤ 4194304) (hb : C ≤ w.heap.size)
    (h : ∀ nv' w', w'.ownsRow C e 1 nv' (n + 1) (xs ++ [y]) → w.grownBy w' nv.ownBlock → (nv'.ownBlock = nv.ownBlock ∨ nv'.ownBlock = some w.heap.size) → wpList Tryz.prog ops Q rest (a.put o.dst nv') w') :
    wpList Tryz.prog ops Q (o :: rest) a w := wpList_plain hgd fun K hK => by
  have h2 := step_app1 (ops := ops) (E := True) (K := K) (Q := Q) hgd s x t e z bytes ht hin hz hbt ho C nv n xs hs hown g y hx hc h1 hl hb (fun nv' w' a b c => hK _ _ (h nv' w' a b c))
  rw [if_pos (by simp [Region.wanted, hgd])] at h2
  exact h2
section
variable {w w1 w2 : World} {ow ow1 ow2 : Nat → Option Nat} {i A : Nat} {H H1 H2 : Hs} {L L1 L2 : List OL} {o o1 : Ob} {x : OL} {p : Pr}
theorem ppv_app {L : List OL} {x : OL} {q : Option Nat} (h : ∀ p, q = some p → p < L.length) : ppv (L ++ [x]) q = ppv L q := by
  cases q with
  | none => rfl
  | some p => simp only [ppv, List.getElem?_append_left (h p rfl)]
/-- one more object -/
theorem PH.snoc (h : PH w A H ow L) (g : Gd H) {q : Option Nat} (hq : ∀ p, q = some p → p < L.length) {nv : Value} {cls : ByteArray} {b pm im m : Nat}
    (hA : Blk w1 A 67 [.int .i64 (H.most : Int), .int .i64 (m : Int), nv]) (hm : H.n ≤ m)
    (hrow : w1.ownsRow 0 76 1 nv (L.length + 1) (L.map (fun x => pv x.b) ++ [pv b]))
    (hnv : ∀ k, nv.ownBlock = some k → ow k = some 0 ∨ w.heap.size ≤ k)
    (hlo : w.heap.size ≤ b ∧ w.heap.size ≤ pm ∧ w.heap.size ≤ im)
    (hob : ∀ ow' : Nat → Option Nat, ow' b = some (L.length + 1) → ow' pm = some (L.length + 1) → ow' im = some (L.length + 1) → ObjAt w1 ow' L.length m (ppv L q) ⟨b, pm, im, [], fun _ => .slice none 0 0⟩ ⟨cls, q, [], false, 0, true⟩)
    (hk : ∀ k r, ow k = some r → r ≠ 0 → w1.heap[k]? = w.heap[k]?) (hfr : Fr (Aw w ow) w w1) :
    ∃ ow' L', Hch w A ow L { os := H.os ++ [⟨cls, q, [], false, 0, true⟩], most := H.most, n := m } w1 ow' L' := by
  obtain ⟨⟨ov, h1, h2, h3⟩, h4, h5, h6, h7⟩ := h
  have hb0 := hob (fun _ => some (L.length + 1)) rfl rfl rfl
  obtain ⟨es, c, hes⟩ := hb0.mp.isMap
  obtain ⟨ni, -, hn2⟩ := hb0.mi
  obtain ⟨es2, c2, hes2⟩ := hn2.isMap
  have d1 : nv.ownBlock ≠ some b := fun e => hb0.ob.ne_row hrow (by decide) b e rfl
  have d2 : nv.ownBlock ≠ some pm := row_ne_map hrow hes
  have d3 : nv.ownBlock ≠ some im := row_ne_map hrow hes2
  have old : ∀ k r, ow k = some r → (if k = b ∨ k = pm ∨ k = im then some (L.length + 1) else if nv.ownBlock = some k then some 0 else ow k) = some r := fun k r e => by
    have hkl := h7 k (by rw [e]; simp)
    rw [if_neg (by omega)]
    by_cases hn : nv.ownBlock = some k
    · rw [if_pos hn]
      rcases hnv k hn with e2 | e2
      · rw [← e2, e]
      · omega
    · rw [if_neg hn, e]
  refine ⟨fun k => if k = b ∨ k = pm ∨ k = im then some (L.length + 1) else if nv.ownBlock = some k then some 0 else ow k, L ++ [⟨b, pm, im, [], fun _ => .slice none 0 0⟩], ⟨⟨nv, hA, by simpa using hrow, fun k hk' => ?_⟩, old _ _ h4, by simp [h5], fun j a e => ?_, fun k hk' => ?_⟩, fun k hk' => ?_, hfr, [b], by simp⟩
  · rw [if_neg, if_pos hk']
    rintro (rfl | rfl | rfl)
    · exact d1 hk'
    · exact d2 hk'
    · exact d3 hk'
  · have ej : j < L.length + 1 := by simpa using a
    by_cases hj : j < L.length
    · have hjo : j < H.os.length := by omega
      have e1 : (L ++ [(⟨b, pm, im, [], fun _ => .slice none 0 0⟩ : OL)])[j] = L[j] := List.getElem_append_left hj
      have e2 : (H.os ++ [(⟨cls, q, [], false, 0, true⟩ : Ob)])[j]'e = H.os[j] := List.getElem_append_left hjo
      show ObjAt w1 _ j m (ppv _ ((H.os ++ [(⟨cls, q, [], false, 0, true⟩ : Ob)])[j]'e).proto) _ ((H.os ++ [(⟨cls, q, [], false, 0, true⟩ : Ob)])[j]'e)
      rw [e1, e2, ppv_app (fun p hp => Nat.lt_trans (g.ok.pw j H.os[j] (List.getElem?_eq_getElem hjo) p hp) hj)]
      exact (h6 j hj hjo).fr (fun k hk' => ⟨old k _ hk', hk k _ hk' (by omega)⟩) hm
    · have ejl : j = L.length := by omega
      subst ejl
      have e1 : (L ++ [(⟨b, pm, im, [], fun _ => .slice none 0 0⟩ : OL)])[L.length] = ⟨b, pm, im, [], fun _ => .slice none 0 0⟩ := by simp
      have e2 : (H.os ++ [(⟨cls, q, [], false, 0, true⟩ : Ob)])[L.length]'e = ⟨cls, q, [], false, 0, true⟩ := by simp [h5]
      show ObjAt w1 _ L.length m (ppv _ ((H.os ++ [(⟨cls, q, [], false, 0, true⟩ : Ob)])[L.length]'e).proto) _ ((H.os ++ [(⟨cls, q, [], false, 0, true⟩ : Ob)])[L.length]'e)
      rw [e1, e2, ppv_app hq]
      exact hob _ (if_pos (.inl rfl)) (if_pos (.inr (.inl rfl))) (if_pos (.inr (.inr rfl)))
  · by_cases e1 : k = b ∨ k = pm ∨ k = im
    · rcases e1 with rfl | rfl | rfl
      · exact hb0.ob.lt
      · exact hb0.mp.lt
      · exact hn2.lt
    · rw [if_neg e1] at hk'
      by_cases e2 : nv.ownBlock = some k
      · exact (hrow.lt k e2).2
      · rw [if_neg e2] at hk'
        exact Nat.lt_of_lt_of_le (h7 k hk') hfr.size
  · by_cases e1 : k = b ∨ k = pm ∨ k = im
    · right
      omega
    · rw [if_neg e1] at hk'
      by_cases e2 : nv.ownBlock = some k
      · rcases hnv k e2 with e3 | e3
        · left
          rw [e3]
          simp
        · exact .inr e3
      · rw [if_neg e2] at hk'
        exact .inl hk'
theorem bare_at {w' : World} {i b pm im : Nat} {cls : ByteArray} {pp : Value} (ob : Blk w' b 84 [.int .i64 ((i : Int) + 1), .string cls, pp, .bool false, .map (some pm), .string ⟨#[]⟩, .int .i64 0, .int .i64 0, .string ⟨#[]⟩, .bool false, .bool false, .bool false, av ⟨b, 5, none⟩, av ⟨b, 5, none⟩, .int .i64 0, .bool false, .map (some im)])
    (mp : MapS w' pm 0 (.pointer none) fun _ => .pointer none) (mi : MapI w' im 0 (.slice none 0 0) fun _ => .slice none 0 0) (ne : pm ≠ im) (ow : Nat → Option Nat) (hb : ow b = some (i + 1)) (hp : ow pm = some (i + 1)) (hi : ow im = some (i + 1)) (n : Nat) (q : Option Nat) :
    ObjAt w' ow i n pp ⟨b, pm, im, [], fun _ => .slice none 0 0⟩ ⟨cls, q, [], false, 0, true⟩ :=
  ⟨ob, rfl, fun j hj => absurd hj (Nat.not_lt_zero j), List.nodup_nil, mp.mono (Nat.zero_le _), ⟨0, Nat.zero_le _, mi⟩, fun y => row_nil _ _ _ _, fun y g e => (by cases e), hb, hp, hi, fun c hc => (by cases hc), ne⟩
def makeR : Option Nat → Value
  | none => .tuple #[vundef.v, .bool false]
  | some i => .tuple #[(ref i).v, .bool true]
set_option linter.unusedSimpArgs false in
set_option maxRecDepth 8000 in
set_option maxHeartbeats 1000000 in
theorem make_any (h : PH w A H ow L) (g : Gd H) (cls : ByteArray) (hc : cls.size ≤ 16777216) (v : Vl) :
    Calls Tryz.prog 31 #[pv A, .string cls, v.v] w (HpR w A ow L (makeR (H.make cls v).2) (H.make cls v).1) := by
  have hb0 := two_low (w := w) 29 29 (Vl.cs v) (Vl.cs vundef)
  have HP := Lib.hid (h.low hb0)
  have HG := Lib.hid g
  have HPW := Lib.hid h
  have HB := Lib.hid hb0
  have HCS := Lib.hid hc
  have HR0 : Hid (Blk ((w.alloc (.cells (Vl.cs v).toArray 29)).alloc (.cells (Vl.cs vundef).toArray 29)) w.heap.size 29 v.cs ∧ Blk ((w.alloc (.cells (Vl.cs v).toArray 29)).alloc (.cells (Vl.cs vundef).toArray 29)) (w.heap.size + 1) 29 vundef.cs) := by
    obtain ⟨W0, e, h1, h2, -⟩ := two_new w 29 29 v.cs vundef.cs
    rw [← e] at h1 h2
    exact ⟨h1, h2⟩
  obtain ⟨r, HR⟩ : ∃ r, Hid (H.make cls v = r) := ⟨_, rfl⟩
  rw [HR.out]
  by_cases hm : H.most ≤ H.n
  · have HV : Hid (H.make cls v = (H, none)) := by show Hs.make H cls v = _; unfold Hs.make; exact if_pos hm
    have HT := Lib.hid (take_none HP.out g hm)
    clear h g hc hb0 hm
    obtain ⟨vk, vn, vs⟩ := v
    simp only [Vl.v, Vl.cs, vundef, nil] at HP HB HR0 HT ⊢
    go_enter Tryz.func31, Tryz.ntmps31
    go_wp2_with fail
    refine HT.out.mono ?_
    rintro e w1 ⟨rfl, hb⟩
    have HP1 := Lib.hid (HP.out.low hb)
    have HB1 := Lib.hid (HB.out.trans (hb.mono HB.out.size))
    have HW1 := Lib.hid (HR0.out.2.low hb)
    clear hb HT HP HB HR0
    obtain ⟨d0, d1, d2⟩ := Blk.three (v := ⟨0, 0, ⟨#[]⟩⟩) HW1.out
    have z := HW1.out.fz
    dsimp only at d0 d1 d2
    go_wp2_with fail
    refine bodyPost_ret (res_vt rfl _ _ (w.heap.size + 1) vundef _ (by rfl) (by rfl) ?_) rfl ?_
    · exact ((HW1.out.set 0 _).set 1 _).set 2 _
    · rw [← HR.out, HV.out]
      exact ⟨rfl, ow, L, (Hch.below HPW.out ((((HB1.out).setCell (p := ⟨w.heap.size + 1, 0, none⟩) (Nat.le_succ _) _).setCell (p := ⟨w.heap.size + 1, 1, none⟩) (Nat.le_succ _) _).setCell (p := ⟨w.heap.size + 1, 2, none⟩) (Nat.le_succ _) _))⟩
  · have HV : Hid (H.make cls v = ({ os := H.os ++ [⟨cls, H.at v, [], false, 0, true⟩], most := H.most, n := H.n + 1 }, some H.os.length)) := by show Hs.make H cls v = _; unfold Hs.make; exact if_neg hm
    have HT := Lib.hid (take_two HP.out g (by omega))
    have hA : A < w.heap.size := h.lt A (by rw [h.wA]; simp)
    have HA := Lib.hid hA
    have HFI := Lib.hid (fun (w' : World) (h' : PH w' A { H with n := H.n + 1 } ow L) => find_any h' v g.os100)
    clear h g hc hb0 hm hA
    obtain ⟨vk, vn, vs⟩ := v
    simp only [Vl.v, Vl.cs, vundef, nil] at HP HB HR0 HT HFI ⊢
    go_enter Tryz.func31, Tryz.ntmps31
    go_wp2_with fail
    refine HT.out.mono ?_
    rintro e w1 ⟨rfl, hp1, hf1⟩
    have HP1 : Hid (PH w1.drew A { H with n := H.n + 1 } ow L) := hp1.low (below_draw _)
    have HW0 : Hid (Blk w1.drew w.heap.size 29 [.int .i64 vk, .int .i64 vn, .string vs]) := (HR0.out.1.fr (hf1.block _ ⟨HR0.out.1.lt, by have := HA.out; omega⟩)).fr rfl
    have HW1 : Hid (Blk w1.drew (w.heap.size + 1) 29 [.int .i64 0, .int .i64 0, .string ⟨#[]⟩]) := (HR0.out.2.fr (hf1.block _ ⟨HR0.out.2.lt, by have := HA.out; omega⟩)).fr rfl
    have HF1 : Hid (Fr (fun k => k < w.heap.size ∧ k ≠ A) w w1.drew) := (((Fr.of HB.out fun k hk => hk.1).trans (hf1.mono fun k hk => ⟨Nat.lt_of_lt_of_le hk.1 HB.out.size, hk.2⟩))).drew
    have HSZ : Hid (w.heap.size + 2 ≤ w1.drew.heap.size) := by have := HW1.out.lt; show w.heap.size + 2 ≤ _; omega
    obtain ⟨ov, hov, hrow, hown⟩ := HP1.out.hb
    obtain ⟨A0, cap0, eov⟩ := row_len hrow
    have HOV := Lib.hid hov
    have HRW := Lib.hid hrow
    have HOW := Lib.hid hown
    have HEOV := Lib.hid eov
    have hs1 : (fun w' : World => w'.cell? ⟨A, 2, none⟩ = some (.slice A0 L.length cap0) ∧ w'.cell? ⟨w.heap.size, 0, none⟩ = some (.int .i64 vk) ∧ w'.cell? ⟨w.heap.size, 1, none⟩ = some (.int .i64 vn) ∧ w'.cell? ⟨w.heap.size, 2, none⟩ = some (.string vs)) w1.drew := ⟨by rw [← eov]; exact hov.cell (k := 2) rfl, HW0.out.cell (k := 0) rfl, HW0.out.cell (k := 1) rfl, HW0.out.cell (k := 2) rfl⟩
    clear hp1 hf1 hov hrow hown eov HT HP HB HR0
    go_wp2_with fail
    refine wp_region_held_drew (S := (fun w' : World => w'.cell? ⟨A, 2, none⟩ = some (.slice A0 L.length cap0) ∧ w'.cell? ⟨w.heap.size, 0, none⟩ = some (.int .i64 vk) ∧ w'.cell? ⟨w.heap.size, 1, none⟩ = some (.int .i64 vn) ∧ w'.cell? ⟨w.heap.size, 2, none⟩ = some (.string vs))) (by kernel_rfl) (hs1) (fun hHeld0 => ?_)
    generalize w1.drew = w2 at *
    (refine wpAnyH_take (i := 0) (v := ?_) rfl (by kernel_rfl) (by decide +kernel) (by decide +kernel) (fun _ _ _ h => h) (Or.inl ⟨by rfl, ?_⟩) (by assumption) ?_; rotate_left; (focus (intro w0 hSw; obtain ⟨e0, e1, e2, e3⟩ := hSw; go_simp; (try with_reducible rfl); done)))
    (refine wpAnyH_take (i := 1) (v := ?_) rfl (by kernel_rfl) (by decide +kernel) (by decide +kernel) (fun _ _ _ h => h) (Or.inl ⟨by rfl, ?_⟩) (by assumption) ?_; rotate_left; (focus (intro w0 hSw; obtain ⟨e0, e1, e2, e3⟩ := hSw; go_simp; (try with_reducible rfl); done)))
    (refine wpAnyH_take (i := 2) (v := ?_) rfl (by kernel_rfl) (by decide +kernel) (by decide +kernel) (fun _ _ _ h => h) (Or.inl ⟨by rfl, ?_⟩) (by assumption) ?_; rotate_left; (focus (intro w0 hSw; obtain ⟨e0, e1, e2, e3⟩ := hSw; go_simp; (try with_reducible rfl); done)))
    (refine wpAnyH_take (i := 3) (v := ?_) rfl (by kernel_rfl) (by decide +kernel) (by decide +kernel) (fun _ _ _ h => h) (Or.inl ⟨by rfl, ?_⟩) (by assumption) ?_; rotate_left; (focus (intro w0 hSw; obtain ⟨e0, e1, e2, e3⟩ := hSw; go_simp; (try with_reducible rfl); done)))
    (refine wpAnyH_take (i := 4) (v := ?_) rfl (by kernel_rfl) (by decide +kernel) (by decide +kernel) (fun _ _ _ h => h) (Or.inl ⟨by rfl, ?_⟩) (by assumption) ?_; rotate_left; (focus (intro w0 hSw; obtain ⟨e0, e1, e2, e3⟩ := hSw; go_simp; (try with_reducible rfl); done)))
    (refine wpAnyH_take (i := 5) (v := ?_) rfl (by kernel_rfl) (by decide +kernel) (by decide +kernel) (fun _ _ _ h => h) (Or.inl ⟨by rfl, ?_⟩) (by assumption) ?_; rotate_left; (focus (intro w0 hSw; obtain ⟨e0, e1, e2, e3⟩ := hSw; go_simp; (try with_reducible rfl); done)))
    (refine wpAnyH_take (i := 6) (v := ?_) rfl (by kernel_rfl) (by decide +kernel) (by decide +kernel) (fun _ _ _ h => h) (Or.inl ⟨by rfl, ?_⟩) (by assumption) ?_; rotate_left; (focus (intro w0 hSw; obtain ⟨e0, e1, e2, e3⟩ := hSw; go_simp; (try with_reducible rfl); done)))
    (refine wpAnyH_take (i := 7) (v := ?_) rfl (by kernel_rfl) (by decide +kernel) (by decide +kernel) (fun _ _ _ h => h) (Or.inl ⟨by rfl, ?_⟩) (by assumption) ?_; rotate_left; (focus (intro w0 hSw; obtain ⟨e0, e1, e2, e3⟩ := hSw; go_simp; (try with_reducible rfl); done)))
    (refine wpAnyH_take (i := 8) (v := ?_) rfl (by kernel_rfl) (by decide +kernel) (by decide +kernel) (fun _ _ _ h => h) (Or.inl ⟨by rfl, ?_⟩) (by assumption) ?_; rotate_left; (focus (intro w0 hSw; obtain ⟨e0, e1, e2, e3⟩ := hSw; go_simp; (try with_reducible rfl); done)))
    try simp only [List.getElem_toArray, List.getElem_cons_zero, List.getElem_cons_succ, Act.put, List.setIfInBounds_toArray, List.set_cons_zero, List.set_cons_succ]
    refine wpAnyH_ready (rs := [9]) (by decide +kernel) (by simp) (AllReadyH.cons rfl (fun K hK => ?_) AllReadyH.nil)
    obtain ⟨qa, hqa⟩ : ∃ qa, ppv L (H.at ⟨vk, vn, vs⟩) = .pointer qa := by
      cases H.at ⟨vk, vn, vs⟩ with
      | none => exact ⟨none, rfl⟩
      | some j =>
        simp only [ppv]
        cases L[j]? with
        | none => exact ⟨none, rfl⟩
        | some y => exact ⟨_, rfl⟩
    have HFZ := HFI.out _ HP1.out
    have HQA := Lib.hid hqa
    rw [show ppv L (Hs.at { H with n := H.n + 1 } ⟨vk, vn, vs⟩) = .pointer qa from hqa] at HFZ
    clear hqa
    go_simp
    refine HFZ.mono ?_
    rintro e w3 ⟨rfl, hb3⟩
    have HP3 := Lib.hid (HP1.out.low hb3)
    have HB3 := Lib.hid hb3
    have HOV3 := Lib.hid (HOV.out.low hb3)
    have HW03 := Lib.hid (HW0.out.low hb3)
    have HW13 := Lib.hid (HW1.out.low hb3)
    have HRW3 : Hid (w3.ownsRow 0 76 1 ov L.length (L.map fun x => pv x.b)) := row_same HRW.out fun k e => hb3.block k (HRW.out.lt k e).2
    have hs3 : (fun w' : World => w'.cell? ⟨A, 2, none⟩ = some (.slice A0 L.length cap0) ∧ w'.cell? ⟨w.heap.size, 0, none⟩ = some (.int .i64 vk) ∧ w'.cell? ⟨w.heap.size, 1, none⟩ = some (.int .i64 vn) ∧ w'.cell? ⟨w.heap.size, 2, none⟩ = some (.string vs)) w3 := ⟨by rw [← HEOV.out]; exact HOV3.out.cell (k := 2) rfl, HW03.out.cell (k := 0) rfl, HW03.out.cell (k := 1) rfl, HW03.out.cell (k := 2) rfl⟩
    clear hb3 HFZ
    refine hK.out _ _ hs3 (fun hHeld1 => ?_)
    clear hK K hHeld0 
    try simp only [List.getElem_toArray, List.getElem_cons_zero, List.getElem_cons_succ, Act.put, List.setIfInBounds_toArray, List.set_cons_zero, List.set_cons_succ]
    refine wpAnyH_ready (rs := [10]) (by decide +kernel) (by simp) (AllReadyH.cons rfl (fun K hK => ?_) AllReadyH.nil)
    have hLL : L.length ≤ 100000 := by rw [HP3.out.len]; exact HG.out.os100
    have hwr : IntKind.i64.wrap ((L.length : Int) + 1) = (L.length : Int) + 1 := IntWalk.i64_in _ (by omega)
    have HN := newObject_any ((L.length : Int) + 1) cls qa w3 (by have := HCS.out; omega)
    go_simp
    refine HN.mono ?_
    rintro e w4 ⟨b, pm, im, rfl, hbare⟩
    have HBR := Lib.hid hbare
    have HP4 := Lib.hid (HP3.out.low hbare.low)
    have HOV4 := Lib.hid (HOV3.out.low hbare.low)
    have HW04 := Lib.hid (HW03.out.low hbare.low)
    have HW14 := Lib.hid (HW13.out.low hbare.low)
    have HRW4 : Hid (w4.ownsRow 0 76 1 ov L.length (L.map fun x => pv x.b)) := row_same HRW3.out fun k e => hbare.low.block k (HRW3.out.lt k e).2
    have hs4 : (fun w' : World => w'.cell? ⟨A, 2, none⟩ = some (.slice A0 L.length cap0) ∧ w'.cell? ⟨w.heap.size, 0, none⟩ = some (.int .i64 vk) ∧ w'.cell? ⟨w.heap.size, 1, none⟩ = some (.int .i64 vn) ∧ w'.cell? ⟨w.heap.size, 2, none⟩ = some (.string vs)) w4 := ⟨by rw [← HEOV.out]; exact HOV4.out.cell (k := 2) rfl, HW04.out.cell (k := 0) rfl, HW04.out.cell (k := 1) rfl, HW04.out.cell (k := 2) rfl⟩
    clear hbare hwr HN
    refine hK.out _ _ hs4 (fun hHeld2 => ?_)
    clear hK K hHeld1 
    try simp only [List.getElem_toArray, List.getElem_cons_zero, List.getElem_cons_succ, Act.put, List.setIfInBounds_toArray, List.set_cons_zero, List.set_cons_succ]
    (refine wpAnyH_take (i := 11) (v := ?_) rfl (by kernel_rfl) (by decide +kernel) (by decide +kernel) (fun _ _ _ h => h) (Or.inl ⟨by rfl, ?_⟩) (by assumption) ?_; rotate_left; (focus (intro w0 hSw; go_simp; (try with_reducible rfl); done)))
    try simp only [List.getElem_toArray, List.getElem_cons_zero, List.getElem_cons_succ, Act.put, List.setIfInBounds_toArray, List.set_cons_zero, List.set_cons_succ]
    refine wpAnyH_done (by kernel_rfl) ?_ _
    clear hHeld2 hs1 hs3 hs4
    have c2 : w4.cell? ⟨A, 2, none⟩ = some (.slice A0 L.length cap0) := by rw [← HEOV.out]; exact HOV4.out.cell (k := 2) rfl
    have hbl := below_new w4 (.cells #[pv b] 76)
    have HBL := Lib.hid hbl
    have HRW5 : Hid ((w4.alloc (.cells #[pv b] 76)).ownsRow 0 76 1 (.slice A0 L.length cap0) L.length (L.map fun x => pv x.b)) := by rw [← HEOV.out]; exact row_same HRW4.out fun k e => hbl.block k (HRW4.out.lt k e).2
    have HOV5 := Lib.hid (HOV4.out.low hbl)
    have HNB := Lib.hid (Blk.new w4 76 [pv b])
    have hLL : L.length ≤ 100000 := by rw [HP4.out.len]; exact HG.out.os100
    clear hbl
    go_wp2_with (at_builtin; refine list_app1 rfl (.tmp 28) (.tmp 30) 65 76 _ 8 Tryz.underlying65 infoOp rfl (by decide) rfl 0 (.slice A0 L.length cap0) L.length _ (by rfl) HRW5.out w4.heap.size (pv b) (by rfl) (HNB.out.cell rfl) rfl (by omega) (Nat.zero_le _) ?_; intro nv w6 h1 h2 h3; obtain ⟨g6, cap6, rfl, -⟩ := row_form h1 (Nat.succ_pos _); have HR6 := Lib.hid h1; have HG6 := Lib.hid h2; have HV6 := Lib.hid h3; clear h1 h2 h3; have hOV6 := HOV5.out.fr (HG6.out.block A HOV5.out.lt (fun e => HOV5.out.ne_row HRW5.out (by decide) A e.symm rfl)); have c2' := hOV6.cell (k := 2) rfl; have z2' := hOV6.fz 2; have HOV6 := Lib.hid hOV6; clear hOV6)
    have hbl := HBR.out.ob
    obtain ⟨es1, cc1, hes1⟩ := HBR.out.mp.isMap
    obtain ⟨es2, cc2, hes2⟩ := HBR.out.mi.isMap
    have hAw : A < w.heap.size := HA.out
    have hsz := HSZ.out
    have hs23 := HB3.out.size
    have hs34 := HBR.out.low.size
    have hAx : ∀ k, w3.heap.size ≤ k → k ≠ A := fun k hk => by omega
    have HF47 : Hid (Fr (fun k => k < w4.heap.size ∧ k ≠ A ∧ ov.ownBlock ≠ some k) w4 (w6.setCell ⟨A, 2, none⟩ (.slice (some ⟨g6, 0, none⟩) (L.length + 1) cap6))) := (((Fr.of HBL.out fun k hk => hk.1).grown (fun k hk => hk.1) HG6.out fun k e hk => hk.2.2 (by rw [HEOV.out]; exact e)).setCell (p := ⟨A, 2, none⟩) (fun hk => hk.2.1 rfl) _)
    have kb : b < w4.heap.size ∧ b ≠ A ∧ ov.ownBlock ≠ some b := ⟨hbl.lt, hAx b HBR.out.lo.1, fun e => hbl.ne_row HRW4.out (by decide) b e rfl⟩
    have kp : pm < w4.heap.size ∧ pm ≠ A ∧ ov.ownBlock ≠ some pm := ⟨HBR.out.mp.lt, hAx pm HBR.out.lo.2.1, row_ne_map HRW4.out hes1⟩
    have ki : im < w4.heap.size ∧ im ≠ A ∧ ov.ownBlock ≠ some im := ⟨HBR.out.mi.lt, hAx im HBR.out.lo.2.2, row_ne_map HRW4.out hes2⟩
    have k1 : w.heap.size + 1 < w4.heap.size ∧ w.heap.size + 1 ≠ A ∧ ov.ownBlock ≠ some (w.heap.size + 1) := ⟨HW14.out.lt, by omega, fun e => HW14.out.ne_row HRW4.out (by decide) _ e rfl⟩
    have HB7 := Lib.hid (hbl.fr (HF47.out.block b kb))
    have HM7 := Lib.hid (HBR.out.mp.fr (HF47.out.block pm kp))
    have HI7 := Lib.hid (HBR.out.mi.fr (HF47.out.block im ki))
    have HP17 := Lib.hid (HW14.out.fr (HF47.out.block _ k1))
    have HOV7 := Lib.hid (HOV6.out.set 2 (.slice (some ⟨g6, 0, none⟩) (L.length + 1) cap6))
    have HR7 : Hid ((w6.setCell ⟨A, 2, none⟩ (.slice (some ⟨g6, 0, none⟩) (L.length + 1) cap6)).ownsRow 0 76 1 (.slice (some ⟨g6, 0, none⟩) (L.length + 1) cap6) (L.length + 1) (L.map (fun x => pv x.b) ++ [pv b])) := row_same HR6.out fun k e => Below.heap_setCell _ _ _ _ (fun e2 => HOV6.out.ne_row HR6.out (by decide) k e e2.symm)
    have hV := value_any (bare_at (i := L.length) HB7.out HM7.out HI7.out HBR.out.ne (fun _ => some (L.length + 1)) rfl rfl rfl (H.n + 1) (H.at ⟨vk, vn, vs⟩))
    simp only [ref, Vl.v, nil] at hV
    have HVV := Lib.hid hV
    have KK := Lib.hid (show b ≠ w.heap.size + 1 ∧ pm ≠ w.heap.size + 1 ∧ im ≠ w.heap.size + 1 from ⟨by have := HBR.out.lo.1; omega, by have := HBR.out.lo.2.1; omega, by have := HBR.out.lo.2.2; omega⟩)
    have HF07 : Hid (Fr (fun k => k < w.heap.size ∧ k ≠ A ∧ ov.ownBlock ≠ some k) w (w6.setCell ⟨A, 2, none⟩ (.slice (some ⟨g6, 0, none⟩) (L.length + 1) cap6))) := (((HF1.out.mono fun k hk => ⟨hk.1, hk.2.1⟩).trans (Fr.of HB3.out fun k hk => by have := hk.1; omega)).trans (Fr.of HBR.out.low fun k hk => by have := hk.1; omega)).trans (HF47.out.mono fun k hk => ⟨by have := hk.1; omega, hk.2⟩)
    have HLO : Hid (w.heap.size ≤ b ∧ w.heap.size ≤ pm ∧ w.heap.size ≤ im) := ⟨by have := HBR.out.lo.1; omega, by have := HBR.out.lo.2.1; omega, by have := HBR.out.lo.2.2; omega⟩
    have HNX : Hid (∀ k, ((.slice (some ⟨g6, 0, none⟩) (L.length + 1) cap6) : Value).ownBlock = some k → ow k = some 0 ∨ w.heap.size ≤ k) := fun k e => by
      rcases HV6.out with e2 | e2
      · rw [e2] at e
        exact .inl (HOW.out k (by rw [HEOV.out]; exact e))
      · rw [e2] at e
        cases e
        right
        have := HBL.out.size
        omega
    have hne := HBR.out.ne
    clear kb kp ki k1 hbl hV HF47 HG6 HV6 HR6 HOV6 HBR HBL HNB HRW5 HOV5 HRW4 HOV4 HW04 HW14 HP4 hes1 hes2 c2 c2' z2'
    generalize (w6.setCell ⟨A, 2, none⟩ (.slice (some ⟨g6, 0, none⟩) (L.length + 1) cap6)) = w7 at *
    refine HVV.out.mono ?_
    rintro e w8 ⟨rfl, hb8⟩
    have HP18 := Lib.hid (HP17.out.low hb8)
    have HB8 := Lib.hid hb8
    obtain ⟨d0, d1, d2⟩ := Blk.three (v := ⟨0, 0, ⟨#[]⟩⟩) HP18.out
    have z8 := HP18.out.fz
    dsimp only at d0 d1 d2
    clear hb8
    go_wp2_with fail
    refine bodyPost_ret (res_vt rfl _ _ (w.heap.size + 1) (ref L.length) _ (by rfl) (by rfl) ?_) rfl ?_
    · exact ((HP18.out.set 0 _).set 1 _).set 2 _
    · rw [← HR.out, HV.out]
      refine ⟨by show _ = Ending.returned (.tuple #[(ref H.os.length).v, .bool true]); rw [← HPW.out.len]; rfl, ?_⟩
      have hf89 := (((Fr.refl (fun k => k ≠ w.heap.size + 1) w8).setCell (p := ⟨w.heap.size + 1, 0, none⟩) (fun hk => hk rfl) (.int .i64 7)).setCell (p := ⟨w.heap.size + 1, 1, none⟩) (fun hk => hk rfl) (.int .i64 ((L.length : Int) + 1))).setCell (p := ⟨w.heap.size + 1, 2, none⟩) (fun hk => hk rfl) (.string ⟨#[]⟩)
      have hf79 := (Fr.of (F := fun k => k < w7.heap.size ∧ k ≠ w.heap.size + 1) HB8.out fun k hk => hk.1).trans (hf89.mono fun k hk => hk.2)
      have hf09 := HF07.out.trans (hf79.mono fun k hk => ⟨Nat.lt_of_lt_of_le hk.1 HF07.out.size, by have := hk.1; omega⟩)
      have kk := KK.out
      have hAw := HA.out
      have n1 : A ≠ w.heap.size + 1 := by omega
      exact HPW.out.snoc HG.out (q := H.at ⟨vk, vn, vs⟩) (fun p hp => by rw [HPW.out.len]; exact at_lt hp) (HOV7.out.fr (hf79.block A ⟨HOV7.out.lt, n1⟩)) (Nat.le_succ _) (row_same HR7.out fun k e => hf79.block k ⟨(HR7.out.lt k e).2, fun e2 => HP17.out.ne_row HR7.out (by decide) k e e2.symm⟩) HNX.out HLO.out (fun ow' h1 h2 h3 => bare_at (by rw [HQA.out]; exact HB7.out.fr (hf79.block b ⟨HB7.out.lt, kk.1⟩)) (HM7.out.fr (hf79.block pm ⟨HM7.out.lt, kk.2.1⟩)) (HI7.out.fr (hf79.block im ⟨HI7.out.lt, kk.2.2⟩)) hne ow' h1 h2 h3 (H.n + 1) _) (fun k r e hr => hf09.block k ⟨HPW.out.lt k (by rw [e]; simp), (fun e2 => by rw [e2, HPW.out.wA] at e; exact hr (Option.some.inj e).symm), fun e2 => by rw [HOW.out k e2] at e; exact hr (Option.some.inj e).symm⟩) (hf09.mono fun k hk => ⟨hk.1, (fun e => by have h2 := hk.2; rw [e, HPW.out.wA] at h2; cases h2), (fun e => by have h2 := hk.2; rw [HOW.out k e] at h2; cases h2)⟩)
end
end Go.Proofs.YtcahijpbkjplmaaGreatDoor.G
