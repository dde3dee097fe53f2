/-
  walkOf, enter, by contract.
-/
import Derived.Test.YtnjcofjphneccaaDoorStk
import Derived.Deep.RegionLaw
import Derived.Deep.RegionHeld3
namespace Go.Proofs.YtnjcofjphneccaaDoor
open Go.RowKit

theorem infoPlace : (Tryd.prog.info? 44).map (fun i => (i.zero, i.size, i.bytes)) = some (some (.agg #[.slice none 0 0, .int .i64 0]), 2, 32) := by kernel_rfl

/-- structs in a row of a block -/
def Cells (w : World) (F : Nat → Prop) (A : Option Addr) (ys : List X) : Prop := ys = [] ∨ ∃ g o, A = some ⟨g, o, none⟩ ∧ F g ∧ ∀ i (h : i < ys.length), At w g (o + i * 5) ys[i]
/-- what a place's elements have as elements -/
def kids (d : Int) (ys : List X) : List Pr := (ys.filter (fun y => 0 < y.ln)).map fun y => ⟨y.la, y.ln, y.lc, d + 1⟩
theorem kids_snoc_yes (d : Int) (ys : List X) (j : Nat) (h : j < ys.length) (h0 : 0 < ys[j].ln) : kids d (ys.take (j + 1)) = kids d (ys.take j) ++ [⟨ys[j].la, ys[j].ln, ys[j].lc, d + 1⟩] := by
  unfold kids
  rw [snoc_get _ _ h, List.filter_append, List.map_append]
  simp [h0]
theorem kids_snoc_no (d : Int) (ys : List X) (j : Nat) (h : j < ys.length) (h0 : ys[j].ln = 0) : kids d (ys.take (j + 1)) = kids d (ys.take j) := by
  unfold kids
  rw [snoc_get _ _ h, List.filter_append]
  simp [h0]
theorem kids_length (d : Int) (ys : List X) : (kids d ys).length ≤ ys.length := by
  unfold kids
  rw [List.length_map]
  exact List.length_filter_le _ _
theorem length_take_le' {α : Type} (l : List α) (j : Nat) : (l.take j).length ≤ j := List.length_take_le _ _
theorem At.fr {F : Nat → Prop} {w w' : World} {g o : Nat} {x : X} (h : At w g o x) (hg : F g) (hb : Fr F w w') : At w' g o x :=
  ⟨(hb.cell (p := ⟨g, o, none⟩) hg).trans h.c0, (hb.cell (p := ⟨g, o + 1, none⟩) hg).trans h.c1, (hb.cell (p := ⟨g, o + 2, none⟩) hg).trans h.c2, (hb.cell (p := ⟨g, o + 3, none⟩) hg).trans h.c3, (hb.cell (p := ⟨g, o + 4, none⟩) hg).trans h.c4⟩
theorem heap2_old (w : World) (a b : Obj) : ∀ k, k < w.heap.size → ((w.alloc a).alloc b).drew.heap[k]? = w.heap[k]? := fun k hk =>
  (((Below.refl w.heap.size w).alloc (Nat.le_refl _) a).alloc (by simp) b).drew.block k hk
theorem heap2_new (w : World) (a b : Obj) : ((w.alloc a).alloc b).drew.heap[w.heap.size + 1]? = some b := by
  show ((w.heap.push a).push b)[w.heap.size + 1]? = some b
  rw [Array.getElem?_push, if_pos (by simp)]
theorem heap2_size (w : World) (a b : Obj) : ((w.alloc a).alloc b).drew.heap.size = w.heap.size + 2 := by
  show ((w.heap.push a).push b).size = _
  simp
/-- a place is appended to the stack, as one step of a statement that leaves its order open -/
theorem step_push {ops : Array Oper} {o : Oper} {a : Act} {w : World} {K : Act → World → Prop} {Q : Exit → Act → World → Prop} {E : Prop} (hgd : o.guard = none) (s x : Operand)
    (ho : o.op = .call { callee := .builtin .append, args := #[s, x], argTypes := #[41, 41] })
    (i : TypeInfo) (hi : Tryd.prog.info? 44 = some i) (hz : i.zero = some (.agg #[.slice none 0 0, .int .i64 0])) (hsize : i.size = 2) (hby : i.bytes = 32)
    (w0 : World) (v : Value) (n : Nat) (xs : List Value) (hs : a.eval s = v) (hown : w0.ownsRow 0 44 2 v n xs) (hbel : ∀ k, k < w0.heap.size → w.heap[k]? = w0.heap[k]?)
    (B : Nat) (p q : Value) (hx : a.eval x = .slice (some ⟨B, 0, none⟩) 1 1) (hblk : w.heap[B]? = some (.cells #[p, q] 44 (0, 0))) (hp : p.oneCell' = true) (hq : q.oneCell' = true)
    (hn : n ≤ 4194304) (H : Nat) (hH : w.heap.size = H)
    (S : World → Prop) (hS : ∀ w', (∀ k, k < H → some k ≠ v.ownBlock → w'.heap[k]? = w.heap[k]?) → S w')
    (h : ∀ g cap w', S w' → w'.ownsRow 0 44 2 (.slice (some ⟨g, 0, none⟩) (n + 1) cap) (n + 1) (xs ++ [p, q]) → w.grownBy w' v.ownBlock → (v.ownBlock = some g ∨ g = H) → g < w'.heap.size → K (a.put o.dst (.slice (some ⟨g, 0, none⟩) (n + 1) cap)) w') :
    if Region.wanted o (yielded ops a.tmps) = true then Oper.wp Tryd.prog o a w K Q else E :=
  step_append_lies w hgd s x 41 ho 0 44 i _ 2 32 Tryd.underlying41 hi hz hsize hby rfl (by decide) v n xs hs (own_push hown fun k hk => hbel k (hown.lt k hk).2) ⟨B, 0, none⟩ 1 1 [p, q] hx rfl
    (World.news_of_block hblk) (by simp [hp, hq]) (by decide) (by unfold maxLen; omega) (by omega) (Nat.zero_le _) H hH fun g cap w' h1 h2 h3 h4 => h g cap w' (hS w' fun k hk hne => h2.block k (hH ▸ hk) hne) h1 h2 h3 h4

set_option maxRecDepth 4000 in
set_option maxHeartbeats 1000000 in
theorem enter_any (F : Nat → Prop) (b : Nat) (st : List Pr) (A : Option Addr) (ys : List X) (c : Nat) (d : Int) (w : World) (hF : ∀ k, F k → k < w.heap.size) (h : Stk w F b st) (hy : Cells w F A ys)
    (hl : st.length + ys.length ≤ 4194304) (hd : 0 ≤ d) (hd2 : d ≤ 4194304) :
    Calls Tryd.prog 28 #[.pointer (some ⟨b, 0, none⟩), .agg #[.slice A ys.length c, .int .i64 d]] w fun e w' => e = .returned (.tuple #[]) ∧ Stk w' F b (st ++ kids d ys) ∧ Fr F w w' := by
  obtain ⟨i0, hi, hz0, hz1, hz2⟩ := info_parts infoPlace
  have HC := Lib.hid hy
  have HF := Lib.hid hF
  have HS := Lib.hid h
  clear hy hF h
  have hwd : IntKind.i64.wrap (d + 1) = d + 1 := IntWalk.i64_in _ (by omega)
  go_enter Tryd.func28, Tryd.ntmps28
  go_wp2_with fail
  go_loopw [9] (fun i wr => ∃ j : Nat, j ≤ ys.length ∧ i = .int .i64 j ∧ Stk wr (fun k => F k ∨ k = w.heap.size) b (st ++ kids d (ys.take j)) ∧ Fr (fun k => F k ∨ k = w.heap.size) (w.alloc (.cells #[.slice A ys.length c, .int .i64 d] 44)) wr)
    (fun i _ => ys.length - (intOf i).toNat)
  case atStart =>
    refine ⟨0, Nat.zero_le _, rfl, ?_, Fr.refl _ _⟩
    have h2 := HS.out.alloc (.cells #[.slice A ys.length c, .int .i64 d] 44)
    have e : kids d (ys.take 0) = [] := rfl
    rw [e, List.append_nil]
    obtain ⟨v, hc, hf, hbs, hFb, hown, hk⟩ := HS.out
    refine h2.mono fun k hk' _ => ?_
    rcases hk' with hk' | rfl
    · exact .inl hk'
    · refine .inr ⟨by omega, fun v' hv' => ?_⟩
      rw [World.cell?_alloc_lt _ _ _ hbs, hc] at hv'
      cases hv'
      intro hb'
      have := (hown.lt _ hb').2
      omega
  case round =>
    obtain ⟨j, hj, rfl, hs, hb⟩ := hrel
    by_cases hlt : j < ys.length
    · obtain ⟨g, o, rfl, hg, hcell⟩ : ∃ g o, A = some ⟨g, o, none⟩ ∧ F g ∧ ∀ i (h : i < ys.length), At w g (o + i * 5) ys[i] := by
        rcases HC.out with h | h
        · subst h; simp at hlt
        · exact h
      have hgs := HF.out g hg
      obtain ⟨c0, c1, c2, c3, c4⟩ := ((hcell j hlt).below (B := w.heap.size) hgs (below_alloc w (.cells #[.slice (some ⟨g, o, none⟩) ys.length c, .int .i64 d] 44))).fr (F := fun k => F k ∨ k = w.heap.size) (.inl hg) hb
      have p0 : wr.cell? ⟨w.heap.size, 1, none⟩ = some (.int .i64 d) := (hb.cell (p := ⟨w.heap.size, 1, none⟩) (.inr rfl)).trans (by simp)
      clear hcell
      by_cases h0 : 0 < ys[j].ln
      · have HK := Lib.hid (kids_snoc_yes d ys j hlt h0)
        obtain ⟨v, hc, hf, hbs, hFb, hown, hk⟩ := hs
        generalize ys[j] = y at *
        obtain ⟨k, n, s, ka, kn, kc, la, ln, lc⟩ := y
        simp only at *
        have hbb : b ≠ wr.heap.size := by omega
        have HO := Lib.hid hown
        have HKK := Lib.hid hk
        have hln := length_take_le' ys j
        have hkl := kids_length d (ys.take j)
        have hsl : (st ++ kids d (ys.take j)).length ≤ 4194304 - 1 := by
          rw [List.length_append]
          omega
        have hlv : v.oneCell' = true := by
          rcases hown.2 with ⟨rfl, _⟩ | ⟨_, _, _, rfl, _⟩ <;> rfl
        have hst : ∀ (x : Pr) (w2 : World), Stk w2 (fun k => F k ∨ k = w.heap.size) b (st ++ kids d (ys.take j) ++ [x]) → Stk w2 (fun k => F k ∨ k = w.heap.size) b (st ++ (kids d (ys.take j) ++ [x])) := fun x w2 h => by
          rw [← List.append_assoc]; exact h
        have hst := Lib.hid (hst ⟨la, ln, lc, d + 1⟩)
        generalize st ++ kids d (ys.take j) = st' at *
        have hvb : some b ≠ v.ownBlock := fun e => (hk b e.symm).1 rfl
        have hvw : some wr.heap.size ≠ v.ownBlock := fun e => by have := (hown.lt _ e.symm).2; omega
        have hvx : some w.heap.size ≠ v.ownBlock := fun e => (hk _ e.symm).2 (.inr rfl)
        have hsz : w.heap.size < wr.heap.size := by have := hb.size; simp at this; omega
        have HSS : Hid (∀ w' : World, (∀ q, q < wr.heap.size + 2 → some q ≠ v.ownBlock → w'.heap[q]? = ((wr.alloc (.cells #[.int .i64 k, .int .i64 n, .string s, .slice ka kn kc, .slice la ln lc] 25)).alloc (.cells #[.slice la ln lc, .int .i64 (d + 1)] 44)).drew.heap[q]?) →
            w'.cell? ⟨b, 0, none⟩ = some v ∧ w'.cell? ⟨wr.heap.size, 4, none⟩ = some (.slice la ln lc) ∧ w'.cell? ⟨w.heap.size, 1, none⟩ = some (.int .i64 d) ∧ w'.frozen? ⟨b, 0, none⟩ = false) := fun w' hw => by
          refine ⟨?_, ?_, ?_, ?_⟩
          · rw [World.cell?_of_block (w := wr) ((hw b (by omega) hvb).trans (heap2_old wr _ _ b hbs))]; exact hc
          · rw [World.cell?_of_block (hw wr.heap.size (by omega) hvw)]
            show ((wr.alloc _).alloc _).cell? _ = _
            rw [World.cell?_alloc_lt _ _ _ (by simp)]
            simp
          · rw [World.cell?_of_block (w := wr) ((hw w.heap.size (by omega) hvx).trans (heap2_old wr _ _ _ hsz))]; exact p0
          · rw [World.frozen?_of_block (w := wr) ((hw b (by omega) hvb).trans (heap2_old wr _ _ b hbs))]; exact hf
        clear hown hk hkl hln hvb hvw hvx
        go_wp2_with fail
        go_region_law
          ((first | (refine step_push rfl _ _ (by rfl) i0 hi hz0 hz1 hz2 wr v _ _ ?c1 HO.out ?c2 (wr.heap.size + 1) (.slice la ln lc) (.int .i64 (d + 1)) ?c3 ?c4 rfl rfl (by omega) (wr.heap.size + 2) ?c5 _ HSS.out ?_; (case c2 => exact heap2_old wr _ _); (case c4 => exact heap2_new wr _ _); (case c5 => exact heap2_size wr _ _); (case c1 => rfl); (case c3 => rfl); rintro g' cap' w1 ⟨e1, e2, e3, e4⟩ hown1 hgrow hat hlt1)))
        all_goals
          have HR : Hid (Stk (w1.setCell ⟨b, 0, none⟩ (.slice (some ⟨g', 0, none⟩) (st'.length + 1) cap')) (fun k => F k ∨ k = w.heap.size) b (st' ++ [⟨la, ln, lc, d + 1⟩]) ∧ Fr (fun k => F k ∨ k = w.heap.size) wr (w1.setCell ⟨b, 0, none⟩ (.slice (some ⟨g', 0, none⟩) (st'.length + 1) cap'))) := by
            have hF' : ∀ k, F k ∨ k = w.heap.size → k < wr.heap.size := fun k hk => by
              rcases hk with hk | rfl
              · exact Nat.lt_trans (HF.out k hk) hsz
              · exact hsz
            refine ⟨stk_set e1 e4 ?_ hFb ?_ fun k hk => ?_, ?_⟩
            · have := hgrow.size
              rw [heap2_size] at this
              omega
            · rw [List.length_append, List.flatMap_append]
              exact hown1
            · have : g' = k := by simpa [Value.ownBlock] using hk
              subst this
              rcases hat with hat | hat
              · exact HKK.out _ hat
              · subst hat
                exact ⟨by omega, fun h => by have := hF' _ h; omega⟩
            · exact ((((Fr.refl _ wr).alloc hF' _).alloc hF' _).drew.grown hF' hgrow fun k hk => (HKK.out k hk).2).setCell hFb _
          clear hown1 hgrow hat hlt1 e1 e2 e3 e4 HSS HO HKK
          generalize w1.setCell ⟨b, 0, none⟩ (.slice (some ⟨g', 0, none⟩) (st'.length + 1) cap') = w2 at *
          go_wp2_with fail
          go_roundw
          case rel => exact ⟨j + 1, by omega, by go_num, by rw [HK.out]; exact hst.out _ HR.out.1, hb.trans HR.out.2⟩
          case measure => simp [intOf]; omega
      · have HK := Lib.hid (kids_snoc_no d ys j hlt (by omega))
        have h0' : ys[j].ln = 0 := by omega
        generalize ys[j] = y at *
        obtain ⟨k, n, s, ka, kn, kc, la, ln, lc⟩ := y
        simp only at *
        subst h0'
        clear h0
        go_wp2_with fail
        go_roundw
        case rel => exact ⟨j + 1, by omega, by go_num, by rw [HK.out]; exact hs.alloc _, hb.alloc (fun k hk => by rcases hk with hk | rfl; exact Nat.lt_of_lt_of_le (HF.out k hk) (by simp); simp) _⟩
        case measure => simp [intOf]; omega
    · obtain rfl : j = ys.length := by omega
      go_wp2
      go_end0
      rw [List.take_length] at hs
      refine ⟨rfl, ?_, ?_⟩
      · exact hs.mono fun k hk _ => .inl (.inl hk)
      · exact ((Fr.refl F w).alloc HF.out _).trans (hb.mono fun k hk => .inl hk)
end Go.Proofs.YtnjcofjphneccaaDoor
