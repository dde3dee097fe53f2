/-
  The laws Within, Writes, by contract.
-/
import Derived.Test.YtkanpdhlpobfoaaDoorZ
namespace Go.Proofs.YtkanpdhlpobfoaaDoor
open Go.RowKit
open K (Pt)

theorem list_cases (a b : Bs) : (K.cmpB a b = -1 ∧ Op.bytesLess (⟨a.toArray⟩ : ByteArray).toList (⟨b.toArray⟩ : ByteArray).toList = true ∧ ((⟨a.toArray⟩ : ByteArray).toList == (⟨b.toArray⟩ : ByteArray).toList) = false) ∨
    (K.cmpB a b = 0 ∧ Op.bytesLess (⟨a.toArray⟩ : ByteArray).toList (⟨b.toArray⟩ : ByteArray).toList = false ∧ ((⟨a.toArray⟩ : ByteArray).toList == (⟨b.toArray⟩ : ByteArray).toList) = true) ∨
    (K.cmpB a b = 1 ∧ Op.bytesLess (⟨a.toArray⟩ : ByteArray).toList (⟨b.toArray⟩ : ByteArray).toList = false ∧ ((⟨a.toArray⟩ : ByteArray).toList == (⟨b.toArray⟩ : ByteArray).toList) = false) := str_cases ⟨a.toArray⟩ ⟨b.toArray⟩

set_option maxRecDepth 4000 in
set_option maxHeartbeats 2000000 in
theorem within_law (A B : Option Addr) (k u : List Pt) (c d : Nat) (w : World) (h : Row w A k) (h' : Row w B u) (hc : k.length ≤ c) (hk : bulk k ≤ 1048576) (hu : bulk u ≤ 1048576) (hM : Ml w) :
    Calls Tryd.prog 7 #[.slice A k.length c, .slice B u.length d] w (Yes w) := by
  have hkl := length_le_bulk k
  have HL := Lib.hid (live_any w hM)
  have HE1 := Lib.hid fun w' (hb : Below w.heap.size w w') => encode_any A k c w' (h.below hb) hk (hM.below hb)
  have HE2 := Lib.hid fun w' (hb : Below w.heap.size w w') => encode_any B u d w' (h'.below hb) hu (hM.below hb)
  have HE3 := Lib.hid fun w' (hb : Below w.heap.size w w') => behind_any B u d w' (h'.below hb) hu (hM.below hb)
  have HB0 := Lib.hid fun w' (hb : Below w.heap.size w w') => begins_any A B k u c d w' (h.below hb) (h'.below hb) (by omega) hc
  clear h h' hM
  rcases beq_zero _ (chk_cases k) with h0 | ⟨b1, b2⟩
  · have hg := K.chk_zero h0
    rw [encV_good h0] at HE1
    clear h0
    rcases beq_zero _ (chk_cases u) with h0 | ⟨b1, b2⟩
    · have hg2 := K.chk_zero h0
      rw [encV_good h0] at HE2
      rw [behV_good h0] at HE3
      have hw := K.within u k hg2.1 hg.1
      rw [← begins_iff] at hw
      have hc1 := list_cases (K.encs u) (K.encs k)
      have hc2 := list_cases (K.encs k) (K.encs u ++ [255])
      generalize begins k u = bg at *
      generalize K.cmpB (K.encs u) (K.encs k) = x1 at *
      generalize K.cmpB (K.encs k) (K.encs u ++ [255]) = x2 at *
      generalize (⟨(K.encs k).toArray⟩ : ByteArray) = x at *
      generalize (⟨(K.encs u).toArray⟩ : ByteArray) = y at *
      generalize (⟨(K.encs u ++ [255]).toArray⟩ : ByteArray) = z at *
      clear h0 hg hg2
      rcases hc1 with ⟨rfl, l1, e1⟩ | ⟨rfl, l1, e1⟩ | ⟨rfl, l1, e1⟩ <;> rcases hc2 with ⟨rfl, l2, e2⟩ | ⟨rfl, l2, e2⟩ | ⟨rfl, l2, e2⟩ <;> cases bg <;> simp at hw
      all_goals
        go_enter Tryd.func7, Tryd.ntmps7
        go_wp2_with fail
        refine HL.out.mono ?_
        rintro e w1 ⟨rfl, hb1⟩
        have HB1 := Lib.hid hb1
        clear hb1
        go_wp2_with fail
        refine (HE1.out _ HB1.out).mono ?_
        rintro e w2 ⟨rfl, hb2⟩
        have HB2 := Lib.hid (HB1.out.trans (hb2.mono HB1.out.size))
        clear hb2
        go_wp2_with fail
        refine (HE2.out _ HB2.out).mono ?_
        rintro e w3 ⟨rfl, hb3⟩
        have HB3 := Lib.hid (HB2.out.trans (hb3.mono HB2.out.size))
        clear hb3
        go_wp2_with fail
        refine (HE3.out _ HB3.out).mono ?_
        rintro e w4 ⟨rfl, hb4⟩
        have HB4 := Lib.hid (HB3.out.trans (hb4.mono HB3.out.size))
        clear hb4
        go_wp2_with fail
        refine (HB0.out _ HB4.out).mono ?_
        rintro e w5 ⟨rfl, hb5⟩
        have HB5 := Lib.hid (HB4.out.trans (hb5.mono HB4.out.size))
        clear hb5
        go_wp2_with fail
        go_ret
        exact ⟨rfl, HB5.out⟩
    · unfold encV at HE2
      unfold behV at HE3
      generalize (⟨(K.encs k).toArray⟩ : ByteArray) = x at *
      generalize (⟨(K.wrt u).toArray⟩ : ByteArray) = y at *
      generalize (⟨(if K.chk u = 0 then K.encs u ++ [255] else []).toArray⟩ : ByteArray) = z at *
      generalize K.chk u = q at *
      clear hg
      go_enter Tryd.func7, Tryd.ntmps7
      go_wp2_with fail
      refine HL.out.mono ?_
      rintro e w1 ⟨rfl, hb1⟩
      have HB1 := Lib.hid hb1
      clear hb1
      go_wp2_with fail
      refine (HE1.out _ HB1.out).mono ?_
      rintro e w2 ⟨rfl, hb2⟩
      have HB2 := Lib.hid (HB1.out.trans (hb2.mono HB1.out.size))
      clear hb2
      go_wp2_with fail
      refine (HE2.out _ HB2.out).mono ?_
      rintro e w3 ⟨rfl, hb3⟩
      have HB3 := Lib.hid (HB2.out.trans (hb3.mono HB2.out.size))
      clear hb3
      go_wp2_with fail
      refine (HE3.out _ HB3.out).mono ?_
      rintro e w4 ⟨rfl, hb4⟩
      have HB4 := Lib.hid (HB3.out.trans (hb4.mono HB3.out.size))
      clear hb4
      go_wp2_with fail
      go_ret
      exact ⟨rfl, HB4.out⟩
  · unfold encV at HE1 HE2
    unfold behV at HE3
    generalize (⟨(K.wrt k).toArray⟩ : ByteArray) = x at *
    generalize (⟨(K.wrt u).toArray⟩ : ByteArray) = y at *
    generalize (⟨(if K.chk u = 0 then K.encs u ++ [255] else []).toArray⟩ : ByteArray) = z at *
    generalize K.chk u = q at *
    generalize K.chk k = p at *
    go_enter Tryd.func7, Tryd.ntmps7
    go_wp2_with fail
    refine HL.out.mono ?_
    rintro e w1 ⟨rfl, hb1⟩
    have HB1 := Lib.hid hb1
    clear hb1
    go_wp2_with fail
    refine (HE1.out _ HB1.out).mono ?_
    rintro e w2 ⟨rfl, hb2⟩
    have HB2 := Lib.hid (HB1.out.trans (hb2.mono HB1.out.size))
    clear hb2
    go_wp2_with fail
    refine (HE2.out _ HB2.out).mono ?_
    rintro e w3 ⟨rfl, hb3⟩
    have HB3 := Lib.hid (HB2.out.trans (hb3.mono HB2.out.size))
    clear hb3
    go_wp2_with fail
    refine (HE3.out _ HB3.out).mono ?_
    rintro e w4 ⟨rfl, hb4⟩
    have HB4 := Lib.hid (HB3.out.trans (hb4.mono HB3.out.size))
    clear hb4
    go_wp2_with fail
    go_ret
    exact ⟨rfl, HB4.out⟩

/-! a key copied -/
theorem flat_cells {w : World} {g : Nat} : ∀ (k : List Pt) (o : Nat), (∀ j (h : j < k.length), At w g (o + j * 3) k[j]) → ∀ i u, (flat k)[i]? = some u → w.cell? ⟨g, o + i, none⟩ = some u
  | [], _, _, i, u, hu => by simp [flat] at hu
  | p :: r, o, h, i, u, hu => by
    have h0 := h 0 (by simp)
    simp only [Nat.zero_mul, Nat.add_zero, List.getElem_cons_zero] at h0
    have ih := flat_cells r (o + 3) fun j hj => by
      have := h (j + 1) (by simpa using hj)
      rw [show o + (j + 1) * 3 = o + 3 + j * 3 by omega] at this
      simpa using this
    match i, hu with
    | 0, hu => simp [flat] at hu; rw [← hu]; exact h0.c0
    | 1, hu => simp [flat] at hu; rw [← hu]; exact h0.c1
    | 2, hu => simp [flat] at hu; rw [← hu]; exact h0.c2
    | i + 3, hu =>
      have := ih i u (by simpa [flat] using hu)
      rw [show o + (i + 3) = o + 3 + i by omega]
      exact this
theorem flat_one (k : List Pt) : ∀ u ∈ flat k, u.oneCell' = true := by
  induction k with
  | nil => intro u hu; cases hu
  | cons p r ih =>
    intro u hu
    simp only [flat, List.mem_cons] at hu
    rcases hu with rfl | rfl | rfl | hu
    · rfl
    · rfl
    · rfl
    · exact ih u hu
theorem app_copy {w : World} {ops : Array Oper} {rest : List Oper} {o : Oper} {a : Act} {Q : Exit → Act → World → Prop} (hgd : o.guard = none) (sl x : Operand)
    (ho : o.op = .call { callee := .builtin .append, args := #[sl, x], argTypes := #[22, 22] })
    (hs : a.eval sl = .slice none 0 0) (A : Option Addr) (c : Nat) (k : List Pt) (hx : a.eval x = .slice A k.length c) (hR : Row w A k) (hlim : k.length ≤ 1048576)
    (h : ∀ A' c' w', Row w' A' k → Below w.heap.size w w' → wpList Tryd.prog ops Q rest (a.put o.dst (.slice A' k.length c')) w') : wpList Tryd.prog ops Q (o :: rest) a w := by
  obtain ⟨i0, hi, hz0, hz1, hz2⟩ := info_parts infoP
  rcases hR with rfl | ⟨g, off, rfl, hg, hc⟩
  · refine wpList_plain hgd fun K hK => ?_
    have hrun : (Builtin.append_ #[22, 22] o.type #[.slice none 0 0, .slice A 0 c]).run Tryd.prog w = .ok (.slice none 0 0) w := by
      cases A <;> simp [Builtin.append_, run_underlying Tryd.underlying22, sizeOf, typeInfo, hi, Builtin.lenOf, Builtin.firstCells, loadCells, loadCellsFrom]
    unfold Oper.wp
    simp [execOp, ho, resolve, invoke, builtin, hs, hx, hrun, Result.andThen]
    exact hK _ _ (h none 0 w (.inl rfl) (Below.refl _ _))
  · refine wpList_append_own _ hgd sl x 22 ho w.heap.size 39 i0 _ 3 32 Tryd.underlying22 hi hz0 hz1 hz2 rfl (by decide) (.slice none 0 0) 0 [] hs (World.ownsRow_nil _ _ _ _) ⟨g, off, none⟩ k.length c (flat k) hx (flat_length k) ?_ (flat_one k) (by unfold maxLen; omega) (by omega) (Nat.le_refl _) ?_
    · intro j u hj
      rw [add_lit]
      exact flat_cells k off hc j u hj
    · intro v' w' hown hgr _
      have hO : OwnP w' w.heap.size v' k := by
        rw [Nat.zero_add, List.nil_append] at hown
        exact hown
      obtain ⟨A', c', rfl, _, hR'⟩ := hO.open
      exact h A' c' w' hR' ((Below.refl _ _).grown hgr (Nat.le_refl _) fun k' hk => by simp [Value.ownBlock] at hk)

set_option maxRecDepth 8000 in
set_option maxHeartbeats 1000000 in
theorem writes_law (A : Option Addr) (k : List Pt) (c : Nat) (w : World) (h : Row w A k) (hk : bulk k ≤ 1048576) (hM : Ml w) :
    Calls Tryd.prog 3 #[.slice A k.length c] w (Yes w) := by
  have hkl := length_le_bulk k
  have HL := Lib.hid fun w' (hb : Below w.heap.size w w') => live_any w' (hM.below hb)
  have HM := Lib.hid fun w' (hb : Below w.heap.size w w') => hM.below hb
  have HR := Lib.hid fun w' (hb : Below w.heap.size w w') => h.below hb
  have HE1 := Lib.hid fun B d w' (hr : Row w' B k) hm => encode_any B k d w' hr hk hm
  have HE2 := Lib.hid fun w' (hr : Row w' A k) => refEncode_any A k c w' hr hk
  have HB1 := Lib.hid fun B d w' (hr : Row w' B k) hm => behind_any B k d w' hr hk hm
  have HB2 := Lib.hid fun w' (hr : Row w' A k) => refBehind_any A k c w' hr hk
  have HC1 := Lib.hid fun B d w' (hr : Row w' B k) => chk_any B k d w' hr hk
  have HC2 := Lib.hid fun w' (hr : Row w' A k) => refChk_any A k c w' hr hk
  have HS := Lib.hid fun B d w' (hr : Row w' B k) (hr' : Row w' A k) => same_any B A k k d c w' hr hr' (by omega)
  rw [same_yes rfl] at HS
  unfold encV at HE1 HE2
  unfold behV at HB1 HB2
  generalize (⟨(K.wrt k).toArray⟩ : ByteArray) = y at *
  generalize (⟨(if K.chk k = 0 then K.encs k ++ [255] else []).toArray⟩ : ByteArray) = z at *
  generalize K.chk k = q at *
  go_enter Tryd.func3, Tryd.ntmps3
  go_wp2_with (at_builtin; refine app_copy rfl (.const (.slice none 0 0)) (.tmp 12) (by rfl) (by rfl) A c k (by rfl) h (by omega) ?_)
  intro B d w1 hR1 hb1
  have HW1 := Lib.hid hb1
  have HR1 := Lib.hid hR1
  clear hR1 hb1 h hM
  go_wp2_with fail
  refine (HE1.out _ _ _ HR1.out (HM.out _ HW1.out)).mono ?_
  rintro e w2 ⟨rfl, hb2⟩
  have HW2 := Lib.hid (HW1.out.trans (hb2.mono HW1.out.size))
  have HR2 := Lib.hid (HR1.out.below hb2)
  clear hb2
  go_wp2_with fail
  refine (HE2.out _ (HR.out _ HW2.out)).mono ?_
  rintro e w3 ⟨rfl, hb3⟩
  have HW3 := Lib.hid (HW2.out.trans (hb3.mono HW2.out.size))
  have HR3 := Lib.hid (HR2.out.below hb3)
  clear hb3
  go_wp2_with fail
  refine (HB1.out _ _ _ HR3.out (HM.out _ HW3.out)).mono ?_
  rintro e w4 ⟨rfl, hb4⟩
  have HW4 := Lib.hid (HW3.out.trans (hb4.mono HW3.out.size))
  have HR4 := Lib.hid (HR3.out.below hb4)
  clear hb4
  go_wp2_with fail
  refine (HB2.out _ (HR.out _ HW4.out)).mono ?_
  rintro e w5 ⟨rfl, hb5⟩
  have HW5 := Lib.hid (HW4.out.trans (hb5.mono HW4.out.size))
  have HR5 := Lib.hid (HR4.out.below hb5)
  clear hb5
  go_wp2_with fail
  refine (HL.out _ HW5.out).mono ?_
  rintro e w6 ⟨rfl, hb6⟩
  have HW6 := Lib.hid (HW5.out.trans (hb6.mono HW5.out.size))
  have HR6 := Lib.hid (HR5.out.below hb6)
  clear hb6
  have y1 : (y.toList == y.toList) = true := by simp
  have z1 : (z.toList == z.toList) = true := by simp
  have q1 : (q == q) = true := by simp
  go_wp2_with fail
  refine (HC1.out _ _ _ HR6.out).mono ?_
  rintro e w7 ⟨rfl, hb7⟩
  have HW7 := Lib.hid (HW6.out.trans (hb7.mono HW6.out.size))
  have HR7 := Lib.hid (HR6.out.below hb7)
  clear hb7
  go_wp2_with fail
  refine (HC2.out _ (HR.out _ HW7.out)).mono ?_
  rintro e w8 ⟨rfl, hb8⟩
  have HW8 := Lib.hid (HW7.out.trans (hb8.mono HW7.out.size))
  have HR8 := Lib.hid (HR7.out.below hb8)
  clear hb8
  go_wp2_with fail
  refine (HS.out _ _ _ HR8.out (HR.out _ HW8.out)).mono ?_
  rintro e w9 ⟨rfl, hb9⟩
  have HW9 := Lib.hid (HW8.out.trans (hb9.mono HW8.out.size))
  clear hb9
  go_wp2_with fail
  go_ret
  exact ⟨rfl, HW9.out⟩
end Go.Proofs.YtkanpdhlpobfoaaDoor
