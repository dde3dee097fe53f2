/-
  Rows of structs: append in a plain statement; slices.Clone of names and of nodes by contract.
-/
import Derived.Test.YtgehgccgologpaaFa
import Derived.Test.YtgehgccgologpaaShelf
import Derived.Lib.SliceRun
namespace Go.Proofs.Ytgehgccgologpaa.Z
open Go.RowKit Go.Shelf Go.Proofs.Ytgehgccgologpaa Go.Proofs.Ytgehgccgologpaa.R Go.Proofs.Ytgehgccgologpaa.T

theorem flatX_append (a b : List X) : flatX (a ++ b) = flatX a ++ flatX b := List.flatMap_append
theorem flatX_news {w : World} {g : Nat} : ∀ (zs : List X) (o : Nat), (∀ i (h : i < zs.length), At w g (o + i * 6) zs[i]) → ∀ j u, (flatX zs)[j]? = some u → w.cell? ⟨g, o + j, none⟩ = some u
  | [], _, _, j, u, h => by simp at h
  | y :: r, o, h, j, u, hu => by
    have e : flatX (y :: r) = y.cells.toList ++ flatX r := rfl
    have hl : y.cells.toList.length = 6 := rfl
    rw [e] at hu
    by_cases hj : j < 6
    · rw [List.getElem?_append_left (by omega)] at hu
      have h0 := h 0 (by simp)
      rw [Nat.zero_mul, Nat.add_zero] at h0
      obtain ⟨a0, a1, a2, a3, a4, a5⟩ := h0
      match j, hj, hu with
      | 0, _, hu => rw [← hu]; exact a0
      | 1, _, hu => rw [← hu]; exact a1
      | 2, _, hu => rw [← hu]; exact a2
      | 3, _, hu => rw [← hu]; exact a3
      | 4, _, hu => rw [← hu]; exact a4
      | 5, _, hu => rw [← hu]; exact a5
    · rw [List.getElem?_append_right (by omega), hl] at hu
      have := flatX_news r (o + 6) (fun i hi => by
        have h1 := h (i + 1) (by simpa using hi)
        rw [List.getElem_cons_succ] at h1
        have e : o + 6 + i * 6 = o + (i + 1) * 6 := by omega
        rw [e]
        exact h1) (j - 6) u hu
      have e : o + 6 + (j - 6) = o + j := by omega
      rw [e] at this
      exact this
/-- append in a plain statement -/
theorem app_X {w : World} {ops : Array Oper} {rest : List Oper} {o : Oper} {a : Act} {Q : Exit → Act → World → Prop} (hgd : o.guard = none) (sl x : Operand)
    (ho : o.op = .call { callee := .builtin .append, args := #[sl, x], argTypes := #[23, 23] })
    (b : Nat) (v : Value) (ys : List X) (hs : a.eval sl = v) (hown : OwnX w b v ys) (ad : Addr) (n c : Nat) (zs : List X) (hx : a.eval x = .slice (some ad) n c) (hn : n = zs.length) (hat : ∀ j u, (flatX zs)[j]? = some u → w.cell? (ad.add j) = some u)
    (hlim : ys.length + zs.length ≤ 8388608) (hb : b ≤ w.heap.size)
    (h : ∀ v' w', OwnX w' b v' (ys ++ zs) → w.grownBy w' v.ownBlock → (v'.ownBlock = v.ownBlock ∨ v'.ownBlock = some w.heap.size) → wpList Try.prog ops Q rest (a.put o.dst v') w') : wpList Try.prog ops Q (o :: rest) a w := by
  obtain ⟨i0, hi0, hz0, hz1, hz2⟩ := info_parts infoNd
  subst hn
  refine wpList_append_own_at w hgd sl x 23 ho b 25 i0 _ 6 96 (by kernel_rfl) hi0 hz0 hz1 hz2 rfl (by decide) v ys.length (flatX ys) hs hown ad zs.length c (flatX zs) hx (flatX_len zs)
    hat (flatX_one zs) (by unfold maxLen; omega) (by omega) hb fun v' w' h1 h2 _ h4 => h v' w' ?_ h2 h4
  show w'.ownsRow b 25 6 v' (ys ++ zs).length (flatX (ys ++ zs))
  rw [List.length_append, flatX_append]
  exact h1
theorem ownX_nil (w : World) (b : Nat) : OwnX w b (.slice none 0 0) [] := ⟨rfl, .inl ⟨rfl, rfl⟩⟩
/-- a row of no structs, made new -/
theorem ownX_made (w : World) (b : Nat) (hb : b ≤ w.heap.size) : OwnX (w.alloc (.cells #[] 25)) b (.slice (some ⟨w.heap.size, 0, none⟩) 0 0) [] := by
  refine ⟨rfl, .inr ⟨w.heap.size, 0, #[], rfl, hb, World.alloc_heap_new _ _, Nat.le_refl _, Nat.zero_le _, rfl, rfl⟩⟩
theorem ownT_nil (w : World) (b : Nat) : OwnT w b (.slice none 0 0) [] := ⟨rfl, .inl ⟨rfl, rfl⟩⟩
theorem cloneS_any (L : List ByteArray) (A : Option Addr) (n c : Nat) (w : World) (hn : n = L.length) (hA : Strs w A L) (hl : L.length ≤ 4194304) :
    Calls Try.prog 56 #[.slice A n c] w fun e w' => ∃ A' c', e = .returned (.slice A' n c') ∧ OwnT w' w.heap.size (.slice A' n c') L ∧ Below w.heap.size w w' := by
  subst hn
  by_cases h0 : L = []
  · subst h0
    rcases A with _ | ad
    · refine (Try.slices_Clone_string_nil 0 c w).mono fun e w' ⟨h1, h2⟩ => ⟨none, 0, h1, ownT_nil _ _, ?_⟩
      rw [h2]
      exact Below.refl _ _
    · refine (Try.slices_Clone_string_zero ad c w).mono fun e w' ⟨v', h1, h2, _, h4⟩ => ?_
      obtain ⟨A', c', rfl, -, -⟩ := OwnT.form (L := []) h2
      exact ⟨A', c', h1, h2, h4⟩
  · rcases hA with e | ⟨g, o, rfl, hg, hc⟩
    · exact absurd e h0
    · refine (Try.slices_Clone_string g o L.length c L w (Nat.le_refl _) (by omega) (fun j hj => by rw [hc j hj, List.getD_eq_getElem?_getD, List.getElem?_eq_getElem hj]; rfl)).mono fun e w' ⟨v', h1, h2, _, h4⟩ => ?_
      rw [List.take_length] at h2
      obtain ⟨A', c', rfl, -, -⟩ := OwnT.form (L := L) h2
      exact ⟨A', c', h1, h2, h4⟩
set_option maxRecDepth 4000 in
set_option maxHeartbeats 1000000 in
theorem cloneN_some (ys : List X) (ad : Addr) (c : Nat) (w : World) (hat : ∀ j u, (flatX ys)[j]? = some u → w.cell? (ad.add j) = some u) (hl : ys.length ≤ 4194304) :
    Calls Try.prog 57 #[.slice (some ad) ys.length c] w fun e w' => ∃ A' c', e = .returned (.slice A' ys.length c') ∧ OwnX w' w.heap.size (.slice A' ys.length c') ys ∧ Below w.heap.size w w' := by
  have q23 : ∀ (w : World) (a : Option Addr) (n c n' c' : Nat), (binOp .eql 23 (.slice a n c) (.slice none n' c')).run Try.prog w = .ok (.bool a.isNone) w := fun w a n c n' c' => Lib.run_eql_slice_nil w _ _ a n c n' c' (by kernel_rfl : Try.prog.underlying 23 = some (.slice 25))
  have HM := Lib.hid (ownX_made w w.heap.size (Nat.le_refl _))
  have hb1 := below_alloc w (.cells #[] 25)
  have HB1 := Lib.hid hb1
  have HAT : Hid (∀ j u, (flatX ys)[j]? = some u → (w.alloc (.cells #[] 25)).cell? (ad.add j) = some u) := fun j u h => by
    have h1 := hat j u h
    rw [World.cell?_alloc_some _ _ _ (by rw [h1]; rfl)]
    exact h1
  have hsz : (w.alloc (.cells #[] 25)).heap.size = w.heap.size + 1 := by simp
  have HSZ := Lib.hid hsz
  clear hb1 hat hsz
  go_enter Try.func57, Try.ntmps57
  go_wp2_with (at_builtin; refine app_X rfl (.tmp 5) (.tmp 6) (by rfl) w.heap.size _ [] (by rfl) HM.out ad _ c ys (by rfl) rfl HAT.out (by simp; omega) (by rw [HSZ.out]; omega) ?_)
  intro v' w' h1 h2 h3
  have hlow : Below w.heap.size w w' := HB1.out.trans ((Below.refl _ _).grown h2 (by rw [HSZ.out]; omega) fun k hk => by cases hk; exact Nat.le_refl _)
  have HL := Lib.hid hlow
  have H1 := Lib.hid h1
  obtain ⟨A', c', rfl⟩ : ∃ A' c', v' = .slice A' ys.length c' := by
    rcases h1.2 with ⟨rfl, h0⟩ | ⟨g', cap, cur, rfl, _⟩
    · exact ⟨none, 0, by rw [h0]⟩
    · exact ⟨_, _, rfl⟩
  clear h1 h2 h3 hlow
  go_wp2_with fail
  go_ret
  exact ⟨A', c', rfl, H1.out, HL.out⟩
theorem cloneN_none (c : Nat) (w : World) :
    Calls Try.prog 57 #[.slice none 0 c] w fun e w' => e = .returned (.slice none 0 0) ∧ w = w' := by
  have q23 : ∀ (w : World) (a : Option Addr) (n c n' c' : Nat), (binOp .eql 23 (.slice a n c) (.slice none n' c')).run Try.prog w = .ok (.bool a.isNone) w := fun w a n c n' c' => Lib.run_eql_slice_nil w _ _ a n c n' c' (by kernel_rfl : Try.prog.underlying 23 = some (.slice 25))
  go_enter Try.func57, Try.ntmps57
  go_wp2_with fail
  go_ret
  exact ⟨rfl, rfl⟩
theorem cloneN_any (ys : List X) (A : Option Addr) (n c : Nat) (w : World) (hn : n = ys.length) (h : ys = [] ∨ ∃ g o, A = some ⟨g, o, none⟩ ∧ ∀ i (h : i < ys.length), At w g (o + i * 6) ys[i]) (hl : ys.length ≤ 4194304) :
    Calls Try.prog 57 #[.slice A n c] w fun e w' => ∃ A' c', e = .returned (.slice A' n c') ∧ OwnX w' w.heap.size (.slice A' n c') ys ∧ Below w.heap.size w w' := by
  subst hn
  rcases A with _ | ad
  · obtain rfl : ys = [] := by
      rcases h with h | ⟨g, o, e, _⟩
      · exact h
      · cases e
    exact (cloneN_none c w).mono fun e w' ⟨h1, h2⟩ => ⟨none, 0, h1, ownX_nil _ _, h2 ▸ Below.refl _ _⟩
  · refine cloneN_some ys ad c w (fun j u hj => ?_) hl
    rcases h with rfl | ⟨g', o', e, h⟩
    · simp at hj
    · cases e
      rw [add_lit]
      exact flatX_news ys o' h j u hj
end Go.Proofs.Ytgehgccgologpaa.Z
