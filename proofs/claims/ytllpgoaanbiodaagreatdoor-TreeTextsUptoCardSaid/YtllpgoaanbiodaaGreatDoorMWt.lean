/-

-/
import Derived.Test.YtllpgoaanbiodaaGreatDoorMWr
import Derived.Test.YtllpgoaanbiodaaGreatDoorMY
import Derived.Test.YtllpgoaanbiodaaGreatDoorMPi
set_option maxRecDepth 8000
namespace Go.Proofs.YtllpgoaanbiodaaGreatDoor.R
open Go.RowKit Go.Shelf Go.Proofs.YtllpgoaanbiodaaGreatDoor Go.Proofs.YtllpgoaanbiodaaGreatDoor.T
theorem join_any {w : World} {F : Nat → Prop} {B : Nat} {T : Ts} {b : Bool} {v : Value} (h : Wr w F B T b v) (hl : T.length ≤ 140737488355328) (hj : (Lib.join (T.map bl) [32]).length ≤ 140737488355328) :
  Calls Tryz.prog 33 #[v, .string ⟨#[32]⟩] w fun e w' => e = .returned (.string ⟨(Lib.join (T.map bl) [32]).toArray⟩) ∧ Below w.heap.size w w' := by
 by_cases h0 : T = []
 ·subst h0
  obtain ⟨A, c, rfl, -, -⟩ := h.form
  refine (Tryz.strings_Join_none A c ⟨#[32]⟩ w).mono ?_
  rintro e w' ⟨rfl, rfl⟩
  exact ⟨rfl, Below.refl _ _⟩
 ·have hp : 0 < T.length := List.length_pos_iff.2 h0
  obtain ⟨g, c, rfl, hc, h1⟩ := h.nth hp
  refine Tryz.strings_Join g 0 c T ⟨#[32]⟩ w (fun j x hx => ?_) ?_ hl hc hj
  ·obtain ⟨hj, rfl⟩ := List.getElem?_eq_some_iff.1 hx
   obtain ⟨g', c', e, _, h2⟩ := h.nth hj
   injection e with e1
   injection e1 with e1
   injection e1 with e1
   subst e1
   rw [Nat.zero_add]
   exact h2
  ·obtain ⟨o, ho, _⟩ := cells_of_cell h1
   exact (Array.getElem?_eq_some_iff.1 ho).1
theorem chk_zero {v : V} (h : v.chk = 0) : v.k = 41 ∧ v.ok = true := by
 unfold V.chk at h
 by_cases hc : v.k = 41 ∧ v.ok = true
 ·exact hc
 ·rw [if_neg hc] at h
  cases h
theorem wr_new (w : World) (F : Nat → Prop) (hF : ¬ F w.heap.size) : Wr (w.alloc (.cells #[.slice none 0 0, .bool false] 46)) F w.heap.size [] false (.slice none 0 0) := by
 refine ⟨by simp, by simp, by simp, by simp, by simp, hF, ⟨rfl, .inl ⟨rfl, rfl⟩⟩, fun k hk => by cases hk⟩
theorem text_any (v : V) (x : X) (w : World) (hx : Is w v x) (hb : v.bulk ≤ 4194304) (hT : Tab w) :
  Calls Tryz.prog 21 #[x.v] w fun e w' => e = .returned v.tres ∧ Below w.heap.size w w' := by
 have HCK := Lib.hid (check_any v x (w.alloc (.cells x.cells 25)) (Is.below (below_alloc w _) _ _ hx) hb)
 have hat : At (w.alloc (.cells x.cells 25)) w.heap.size 0 x := by
  constructor <;> simp [X.cells]
 obtain ⟨r, hr⟩ : ∃ r, v.tres = r := ⟨_, rfl⟩
 rw [hr]
 by_cases hck : v.chk = 0
 ·rw [hck] at HCK
  obtain ⟨hk, hok⟩ := chk_zero hck
  have hs : ∀ u ∈ v.l, WStmt u := fun u hu => by
   have hf : Fine v := ⟨hok, hb⟩
   have := hf.kids
   rw [kids_41 hk] at this
   exact wstmt (hf.kid hu) (all_mem this hu)
  obtain ⟨hl1, hl2⟩ := Ps.toks_le hok
  have hll : v.l.length ≤ 4194304 := by
   have h1 := length_le_bulks v.l
   have h2 := bulk_ge v
   omega
  have HS := Lib.hid hs
  have HX := Lib.hid hx
  have HA := Lib.hid hat
  have HT := Lib.hid hT
  have HR := Lib.hid hr
  have HCH := Lib.hid hck
  have HLL := Lib.hid hll
  have HL1 := Lib.hid hl1
  have HL2 := Lib.hid hl2
  obtain ⟨xka, xkc, xla, xlc, rfl, -, -, -, hrow⟩ := hx.open
  have HRW := Lib.hid hrow
  simp only [X.v, X.cells] at HCK HA ⊢
  have HOK := Lib.hid hok
  clear hs hat hT hr hck hx hl1 hl2 hll hrow hk hok
  go_enter Tryz.func21, Tryz.ntmps21
  go_wp2_with fail
  refine HCK.out.mono ?_
  rintro e w2 ⟨rfl, hb2⟩
  have hb2' : Below w.heap.size w w2 := (below_alloc w _).trans (hb2.mono (by simp))
  have ha2 := HA.out.below (by simp) hb2
  have HB2 := Lib.hid hb2'
  have c5 := (ha2.below (B := w2.heap.size) (by have := hb2.size; simp at this; omega) (below_alloc w2 (.cells #[.slice none 0 0, .bool false] 46))).c5
  dsimp only at c5
  clear hb2 hb2' ha2
  go_wp2_with fail
  have hW := wr_new w2 (· < w2.heap.size) (Nat.lt_irrefl _)
  have hE : Env (w2.alloc (.cells #[.slice none 0 0, .bool false] 46)) (· < w2.heap.size) w2.heap.size := by
   have ht := HT.out.below HB2.out
   exact ⟨fun k hk => by simp; omega, fun k hk => hk, ht.below (below_alloc _ _), ht.lt⟩
  have hR : RowB (w2.alloc (.cells #[.slice none 0 0, .bool false] 46)) w2.heap.size xla v.l := HRW.out.to (HB2.out.trans ((below_alloc w2 _).mono HB2.out.size)) HB2.out.size
  refine (statements_any v.l HS.out (· < w2.heap.size) w2.heap.size [] (.slice none 0 0) w2.heap.size _ xla xlc HLL.out hE hW hR (by have := HL1.out; show 0 + List.length v.toks ≤ _; omega)).mono ?_
  rintro e w3 ⟨rfl, ⟨vs, hw3⟩, hf3⟩
  rw [List.nil_append] at hw3
  have hj := join_any hw3 (by have := HL1.out; show List.length v.toks ≤ _; omega) (by have := HL2.out; show List.length v.txt ≤ _; omega)
  have HJ := Lib.hid hj
  have HB3 := Lib.hid ((HB2.out.trans ((below_alloc w2 _).mono HB2.out.size)).trans (hf3.below.mono HB2.out.size))
  have HW3 := Lib.hid hw3
  have d0 := hw3.c0
  obtain ⟨A, c, rfl, -, -⟩ := hw3.form
  clear hW hE hR hj hw3 hf3 c5 hb
  go_wp2_with fail
  refine HJ.out.mono ?_
  rintro e w4 ⟨rfl, hb4⟩
  have HB4 := Lib.hid (HB3.out.trans (hb4.mono HB3.out.size))
  obtain ⟨tx, htx⟩ : ∃ tx : ByteArray, tx = ⟨(Lib.join ((stmts (v.l.map V.o)).map bl) [32]).toArray⟩ := ⟨_, rfl⟩
  rw [← htx]
  have hsz : tx.size = v.txt.length := by
   rw [htx]
   show (List.toArray _).size = _
   rw [List.size_toArray]
   rfl
  have HTX := Lib.hid (show tx = ⟨v.txt.toArray⟩ from htx)
  have HSZ := Lib.hid hsz
  clear hb4 htx hsz d0
  by_cases h4 : 4096 < v.txt.length
  ·have hi : (4096 : Int) < (tx.size : Int) := by have := HSZ.out; omega
   have HRE : Hid (r = .tuple #[.string ⟨#[]⟩, .int .i64 2]) := by
    show r = _
    rw [← HR.out]
    unfold V.tres
    rw [if_pos HCH.out, if_pos h4]
   clear h4
   go_wp2_with fail
   refine bodyPost_ret (v := .tuple #[.string ⟨#[]⟩, .int .i64 2]) (by simp [results, Tryz.f21, go_sem]) rfl ?_
   exact ⟨by rw [HRE.out], HB4.out⟩
  ·have hi : ¬ (4096 : Int) < (tx.size : Int) := by have := HSZ.out; omega
   have HRE : Hid (r = .tuple #[.string ⟨v.txt.toArray⟩, .int .i64 0]) := by
    show r = _
    rw [← HR.out]
    unfold V.tres
    rw [if_pos HCH.out, if_neg h4]
   clear h4
   go_wp2_with fail
   refine bodyPost_ret (v := .tuple #[.string tx, .int .i64 0]) (by simp [results, Tryz.f21, go_sem]) rfl ?_
   exact ⟨by rw [HRE.out, HTX.out], HB4.out⟩
 ·have HRE : Hid (r = .tuple #[.string ⟨#[]⟩, .int .i64 v.chk]) := by
   show r = _
   rw [← hr]
   unfold V.tres
   rw [if_neg hck]
  have hcb : (v.chk == 0) = false := by rw [beq_eq_false_iff_ne]; exact hck
  have hbw : Below w.heap.size w (w.alloc (.cells x.cells 25)) := below_alloc w _
  have HBW := Lib.hid hbw
  clear hat hT hr hck hx hbw
  generalize v.chk = ck at *
  obtain ⟨xk, xnm, xn, xs, xka, xkn, xkc, xla, xln, xlc⟩ := x
  simp only [X.v, X.cells] at HCK HBW ⊢
  go_enter Tryz.func21, Tryz.ntmps21
  go_wp2_with fail
  refine HCK.out.mono ?_
  rintro e w2 ⟨rfl, hb2⟩
  have HB2 := Lib.hid (HBW.out.trans (hb2.mono HBW.out.size))
  clear hb2
  go_wp2_with fail
  refine bodyPost_ret (v := .tuple #[.string ⟨#[]⟩, .int .i64 ck]) (by simp [results, Tryz.f21, go_sem]) rfl ?_
  exact ⟨by rw [HRE.out], HB2.out⟩
end Go.Proofs.YtllpgoaanbiodaaGreatDoor.R
