/-
  ROWS OF BYTES that a call appends to, away from other blocks; appendParts, comma, quoted, by contract.
-/
import Derived.Test.YtnjcofjphneccaaDoorWalk
import Derived.Test.YtnjcofjphneccaaDoorTx
import Derived.Test.YtnjcofjphneccaaDoorUH
import Derived.Test.YtnjcofjphneccaaDoorShelf
import Derived.Lib.AppendStr
namespace Go.Proofs.YtnjcofjphneccaaDoor
open Go.RowKit

/-- a row of bytes that reads as l, away from the blocks F -/
def Own (w : World) (F : Nat → Prop) (v : Value) (l : Bs) : Prop := w.ownsRow 0 5 1 v l.length (l.map bv) ∧ ∀ k, v.ownBlock = some k → ¬ F k
theorem Own.nil (w : World) (F : Nat → Prop) : Own w F (.slice none 0 0) [] := ⟨World.ownsRow_nil _ _ _ _, fun k hk => by simp [Value.ownBlock] at hk⟩
theorem own_keep {w w' : World} {B size n : Nat} {e : TypeId} {v : Value} {xs : List Value} (h : w.ownsRow B e size v n xs) (hb : ∀ k, v.ownBlock = some k → w'.heap[k]? = w.heap[k]?) : w'.ownsRow B e size v n xs := by
  refine ⟨h.1, ?_⟩
  rcases h.2 with h2 | ⟨g, cap, cur, rfl, hb', hg, r⟩
  · exact .inl h2
  · exact .inr ⟨g, cap, cur, rfl, hb', by rw [hb g rfl]; exact hg, r⟩
theorem Own.below {w w' : World} {F : Nat → Prop} {v : Value} {l : Bs} (h : Own w F v l) (hb : Below w.heap.size w w') : Own w' F v l :=
  ⟨own_keep h.1 fun k hk => hb.block k (h.1.lt k hk).2, h.2⟩
theorem Own.more {w : World} {F F' : Nat → Prop} {v : Value} {l : Bs} (h : Own w F v l) (hF : ∀ k, k < w.heap.size → F' k → F k) : Own w F' v l :=
  ⟨h.1, fun k hk h' => h.2 k hk (hF k (h.1.lt k hk).2 h')⟩
theorem bv_cells (s : ByteArray) : Lib.strCells s = s.data.toList.map bv := rfl
/-- append of a string, and where the new row lies -/
theorem run_app_str (w : World) (ty : TypeId) (F : Nat → Prop) (hF : ∀ k, F k → k < w.heap.size) (v : Value) (l : Bs) (h : Own w F v l) (s : ByteArray) (hlim : l.length + s.size ≤ 140737488355320) :
    ∃ v' w', (Builtin.append_ #[50, 9] ty #[v, .string s]).run Tryd.prog w = .ok v' w' ∧ Own w' F v' (l ++ s.data.toList) ∧ Fr F w w' := by
  obtain ⟨i0, hi, hz0, hz1, hz2⟩ := info_parts info5
  obtain ⟨hown, hk⟩ := h
  obtain ⟨v', w', hr, h2, h3, h4⟩ := Lib.run_append_own_string (P := Tryd.prog) w 0 50 9 ty 5 i0 Tryd.underlying50 Tryd.underlying9 hi hz0 hz1 hz2 v l.length (l.map bv) hown s (by unfold maxLen; omega) (by omega) (Nat.zero_le _)
  have hat : v'.ownBlock = v.ownBlock ∨ v'.ownBlock = some w.heap.size := by
    rcases hown.2 with ⟨rfl, h0⟩ | ⟨g, cap, cur, rfl, hbg, hg, hnc, hcm, hcs, htake⟩
    · by_cases hm : s.size = 0
      · left
        rw [h4.2 ⟨rfl, hm⟩]
      · have hr2 := run_append_nil_string (P := Tryd.prog) w 50 9 ty 5 i0 (.int .u8 0) Tryd.underlying50 Tryd.underlying9 hi hz0 s (by omega) (by omega) (by rw [hz2]; omega)
        rw [hr] at hr2
        injection hr2 with hr2 _
        right
        rw [hr2]
        rfl
    · by_cases hroom : l.length + s.size ≤ cap
      · have hr2 := Lib.run_append_room_string (P := Tryd.prog) w 50 9 ty 5 i0 Tryd.underlying50 Tryd.underlying9 hi hz1 g l.length cap cur hg s hroom (by omega)
        rw [hr] at hr2
        injection hr2 with hr2 _
        left
        rw [hr2]
        rfl
      · have holds : ∀ j u, (l.map bv)[j]? = some u → w.cell? ((⟨g, 0, none⟩ : Addr).add j) = some u := hown.cells (g := g) rfl
        have hr2 := Lib.run_append_grow_string (P := Tryd.prog) w 50 9 ty 5 i0 (.int .u8 0) Tryd.underlying50 Tryd.underlying9 hi hz0 ⟨g, 0, none⟩ l.length cap (l.map bv) (by rw [hz1]; simp) holds s (by omega) (by omega) (by rw [hz2]; exact growslice_fits (by omega) (by omega))
        rw [hr] at hr2
        injection hr2 with hr2 _
        right
        rw [hr2]
        rfl
  refine ⟨v', w', hr, ⟨?_, fun k hk' hFk => ?_⟩, (Fr.refl F w).grown hF h3 hk⟩
  · rw [List.length_append, List.map_append, size_list, ← bv_cells]
    exact h2
  · rcases hat with hat | hat
    · rw [hat] at hk'
      exact hk k hk' hFk
    · rw [hat] at hk'
      cases hk'
      exact Nat.lt_irrefl _ (hF _ hFk)
theorem app_str_own {w : World} {ops : Array Oper} {rest : List Oper} {o : Oper} {a : Act} {Q : Exit → Act → World → Prop} (hgd : o.guard = none) (sl x : Operand)
    (ho : o.op = .call { callee := .builtin .append, args := #[sl, x], argTypes := #[50, 9] })
    (F : Nat → Prop) (hF : ∀ k, F k → k < w.heap.size) (v : Value) (l : Bs) (hs : a.eval sl = v) (h0 : Own w F v l) (s : ByteArray) (hx : a.eval x = .string s) (hlim : l.length + s.size ≤ 140737488355320)
    (h : ∀ v' w', Own w' F v' (l ++ s.data.toList) → Fr F w w' → wpList Tryd.prog ops Q rest (a.put o.dst v') w') : wpList Tryd.prog ops Q (o :: rest) a w := by
  refine wpList_plain hgd fun K hK => ?_
  obtain ⟨v', w', hr, h2, h3⟩ := run_app_str w o.type F hF v l h0 s hlim
  unfold Oper.wp execOp
  simp only [ho, resolve, invoke, builtin, Sem.run_bind, Sem.run_pure, Result.andThen_ok, List.map_toArray, List.map_cons, List.map_nil, hs, hx, hr]
  exact hK _ _ (h v' w' h2 h3)

def flatS (ps : List ByteArray) : Bs := ps.flatMap fun p => p.data.toList
theorem flatS_snoc (ps : List ByteArray) (j : Nat) (h : j < ps.length) : flatS (ps.take (j + 1)) = flatS (ps.take j) ++ ps[j].data.toList := by
  unfold flatS
  rw [snoc_get _ _ h, List.flatMap_append]
  simp
theorem flatS_take (ps : List ByteArray) (j : Nat) : (flatS (ps.take j)).length ≤ (flatS ps).length := by
  unfold flatS
  conv => rhs; rw [← List.take_append_drop j ps, List.flatMap_append, List.length_append]
  omega
/-- what a call that appends bytes leaves -/
def App (w : World) (F : Nat → Prop) (l : Bs) (e : Ending) (w' : World) : Prop := ∃ v', e = .returned v' ∧ Own w' F v' l ∧ Fr F w w'

set_option maxRecDepth 4000 in
set_option maxHeartbeats 400000 in
theorem appendParts_any (F : Nat → Prop) (v : Value) (l : Bs) (g : Nat) (ps : List ByteArray) (w : World) (hF : ∀ k, F k → k < w.heap.size) (h : Own w F v l) (hg : F g) (hc : ∀ j (h : j < ps.length), w.cell? ⟨g, j, none⟩ = some (.string ps[j]))
    (hlim : l.length + (flatS ps).length ≤ 140737488355320) (hp : ps.length ≤ 100) :
    Calls Tryd.prog 43 #[v, .slice (some ⟨g, 0, none⟩) ps.length ps.length] w (App w F (l ++ flatS ps)) := by
  have HC := Lib.hid hc
  have HF := Lib.hid hF
  clear hc hF
  go_enter Tryd.func43, Tryd.ntmps43
  go_wp2_with fail
  go_loopw [0, 9] (fun x i wr => ∃ j : Nat, j ≤ ps.length ∧ i = .int .i64 j ∧ Own wr F x (l ++ flatS (ps.take j)) ∧ Fr F w wr)
    (fun _ i _ => ps.length - (intOf i).toNat)
  case atStart => exact ⟨0, Nat.zero_le _, rfl, by simpa [flatS] using h, Fr.refl _ _⟩
  case round =>
    obtain ⟨j, hj, rfl, ho, hfr⟩ := hrel
    by_cases hlt : j < ps.length
    · have hcx := (hfr.cell (p := ⟨g, j, none⟩) hg).trans (HC.out j hlt)
      have HS := Lib.hid (flatS_snoc ps j hlt)
      have hlj : (l ++ flatS (ps.take j)).length + ps[j].size ≤ 140737488355320 := by
        have h1 := congrArg List.length HS.out
        have h2 := flatS_take ps (j + 1)
        rw [List.length_append, size_list] at h1
        rw [List.length_append]
        omega
      generalize ps[j] = y at *
      clear h
      go_wp2_with (at_builtin; refine app_str_own rfl (.tmp 13) (.tmp 14) (by rfl) F (fun k hk => Nat.lt_of_lt_of_le (HF.out k hk) hfr.size) _ _ (by rfl) ho y (by rfl) hlj ?_)
      intro v' w' ho' hfr'
      have HO : Hid (Own w' F v' (l ++ flatS (ps.take (j + 1)))) := by
        show Own _ _ _ _
        rw [HS.out]
        first | exact ho' | (rw [← List.append_assoc]; exact ho')
      have hfr2 := hfr.trans hfr'
      clear ho ho' hfr hfr'
      go_wp2_with fail
      go_roundw
      case rel => exact ⟨j + 1, by omega, by go_num, HO.out, hfr2⟩
      case measure => simp [intOf]; omega
    · obtain rfl : j = ps.length := by omega
      rw [List.take_length] at ho
      have HO := Lib.hid ho
      clear ho h
      go_wp2_with fail
      go_ret
      exact ⟨_, rfl, HO.out, hfr⟩

theorem comma_any (i : Nat) (w : World) : Calls Tryd.prog 47 #[.int .i64 i] w fun e w' => e = .returned (.string ⟨(if i = 0 then [] else [44] : Bs).toArray⟩) ∧ w = w' := by
  by_cases h : i = 0
  · subst h
    go_enter Tryd.func47, Tryd.ntmps47
    go_wp2_with fail
    go_ret
    exact ⟨rfl, rfl⟩
  · have hb : ((i : Int) == 0) = false := by rw [beq_eq_false_iff_ne]; omega
    rw [if_neg h]
    clear h
    go_enter Tryd.func47, Tryd.ntmps47
    go_wp2_with fail
    go_ret
    exact ⟨rfl, rfl⟩
theorem quoted_lit_any (s : ByteArray) (w : World) (hs : s.size ≤ 4194304) (he : s.size % 2 = 0) :
    Calls Tryd.prog 46 #[.string s] w fun e w' => e = .returned (.string ⟨(quote (us s.data.toList)).toArray⟩) ∧ Below w.heap.size w w' := by
  have HQ := Lib.hid (quote_any s w hs)
  rw [quoteRes_even (by rw [size_list]; exact he)] at HQ
  go_enter Tryd.func46, Tryd.ntmps46
  go_wp2_with fail
  refine HQ.out.mono ?_
  rintro e w' ⟨rfl, hb⟩
  go_wp2_with fail
  go_ret
  exact ⟨rfl, hb⟩
theorem quotedRef_any (s : ByteArray) (w : World) (hs : s.size ≤ 4194304) (he : s.size % 2 = 0) :
    Calls Tryd.prog 49 #[.string s] w fun e w' => e = .returned (.tuple #[.string ⟨(quote (us s.data.toList)).toArray⟩, .int .i64 0]) ∧ Below w.heap.size w w' := by
  have := refQuote_any s w hs
  rw [quoteRes_even (by rw [size_list]; exact he)] at this
  exact this
end Go.Proofs.YtnjcofjphneccaaDoor
