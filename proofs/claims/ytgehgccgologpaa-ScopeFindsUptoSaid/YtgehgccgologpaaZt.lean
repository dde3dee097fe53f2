/-
  SameNames; trees laid out in memory.
-/
import Derived.Test.YtgehgccgologpaaZk
import Derived.Test.YtgehgccgologpaaZp
import Derived.Test.YtgehgccgologpaaZq
import Derived.Laws.Rows
import Derived.Deep.RegionHeld3
namespace Go.Proofs.Ytgehgccgologpaa.Z
open Go.RowKit Go.Shelf Go.Proofs.Ytgehgccgologpaa Go.Proofs.Ytgehgccgologpaa.R Go.Proofs.Ytgehgccgologpaa.T

theorem eq_of_all {L M : List ByteArray} (hl : L.length = M.length) (h : ∀ j (h1 : j < L.length) (h2 : j < M.length), L[j] = M[j]) : L = M := List.ext_getElem hl h
set_option maxRecDepth 8000 in
set_option maxHeartbeats 1000000 in
theorem same_any (L M : List ByteArray) (A B : Option Addr) (c d : Nat) (w : World) (hA : Strs w A L) (hB : Strs w B M) (hl : L.length ≤ 4194304) :
    Calls Try.prog 15 #[.slice A L.length c, .slice B M.length d] w (AnsB w (decide (L = M))) := by
  have HA := Lib.hid hA
  have HB := Lib.hid hB
  have hli : (L.length : Int) ≤ 4194304 := by omega
  clear hA hB
  by_cases hlm : L.length = M.length
  · have HLM := Lib.hid hlm
    have hli' : (M.length : Int) ≤ 4194304 := by omega
    rw [← hlm]
    clear hlm
    go_enter Try.func15, Try.ntmps15
    go_wp2_with fail
    go_loopw [13] (fun i wr => ∃ k : Nat, k ≤ L.length ∧ i = .int .i64 k ∧ Hid (Below w.heap.size w wr) ∧ Hid (∀ j (h : j < k) (h1 : j < L.length) (h2 : j < M.length), L[j] = M[j])) (fun i _ => L.length - (intOf i).toNat)
    case atStart => exact ⟨0, Nat.zero_le _, rfl, Lib.hid (Below.refl _ _), Lib.hid fun j h => absurd h (Nat.not_lt_zero _)⟩
    case round =>
      obtain ⟨k, hk, rfl, hb, hno⟩ := hrel
      by_cases hlt : k < L.length
      · have hlt2 : k < M.length := by have := HLM.out; omega
        obtain ⟨g, o, rfl, hg, c1⟩ := (HA.out.below hb.out).at_ hlt
        obtain ⟨g2, o2, rfl, hg2, c2⟩ := (HB.out.below hb.out).at_ hlt2
        have HY : Hid (¬ L[k] = M[k] → ¬ L = M) := fun e e2 => e (by subst e2; rfl)
        have HN : Hid (L[k] = M[k] → ∀ j (h : j < k + 1) (h1 : j < L.length) (h2 : j < M.length), L[j] = M[j]) := fun e j hj h1 h2 => by
          by_cases hjk : j = k
          · subst hjk; exact e
          · exact hno.out j (by omega) h1 h2
        by_cases he : L[k] = M[k]
        · have HNE := Lib.hid (HN.out he)
          rw [← he] at c2
          clear HY HN he
          generalize L[k] = s at *
          go_wp2_with fail
          go_region_held3 (fun w' => w'.cell? ⟨g, o + k, none⟩ = some (.string s) ∧ w'.cell? ⟨g2, o2 + k, none⟩ = some (.string s)) (first | go_keep) ((fail))
          go_wp2_with fail
          go_roundw
          case rel => exact ⟨k + 1, hlt, by go_num, Lib.hid (hb.out.drew), HNE⟩
          case measure => simp [intOf]; omega
        · have HNE := Lib.hid (HY.out he)
          clear HY HN
          generalize L[k] = s at *
          generalize M[k] = t at *
          have hst := (str_dec s t).symm.trans (decide_eq_false he)
          clear he
          go_wp2_with fail
          go_region_held3 (fun w' => w'.cell? ⟨g, o + k, none⟩ = some (.string s) ∧ w'.cell? ⟨g2, o2 + k, none⟩ = some (.string t)) (first | go_keep) ((fail))
          go_wp2_with fail
          go_ret
          exact ⟨by rw [decide_eq_false HNE.out]; rfl, hb.out.drew⟩
      · obtain rfl : k = L.length := by omega
        have HNE := Lib.hid (eq_of_all HLM.out fun j h1 h2 => hno.out j h1 h1 h2)
        go_wp2_with fail
        go_ret
        exact ⟨by rw [decide_eq_true HNE.out]; rfl, hb.out⟩
  · have hd : decide (L = M) = false := decide_eq_false fun e => hlm (by rw [e])
    rw [hd]
    have h1 : ¬ (L.length : Int) = (M.length : Int) := by omega
    clear hlm
    go_enter Try.func15, Try.ntmps15
    go_wp2_with fail
    go_ret
    exact ⟨rfl, Below.refl _ _⟩
/-! trees laid out in memory -/
abbrev leaf (k : Int) (nm : ByteArray) (n : Int) : V := .mk k nm n ⟨#[]⟩ [] []
abbrev kidsV (k : Int) (nm : ByteArray) (l : List V) : V := .mk k nm 0 ⟨#[]⟩ [] l
theorem leaf_is (w : World) (B : Nat) (k : Int) (nm : ByteArray) (n : Int) : IsB w B (leaf k nm n) ⟨k, nm, n, ⟨#[]⟩, none, 0, 0, none, 0, 0⟩ := by
  rw [isB_iff]
  exact ⟨⟨rfl, rfl, rfl, rfl⟩, ⟨rfl, Nat.le_refl _, .inl rfl⟩, rfl, Nat.le_refl _, .inl rfl⟩
theorem row_is {w : World} {B : Nat} {k : Int} {nm : ByteArray} {l : List V} {A : Option Addr} {n c : Nat} (hn : n = l.length) (hc : n ≤ c) (h : RowB w B A l) : IsB w B (kidsV k nm l) ⟨k, nm, 0, ⟨#[]⟩, none, 0, 0, A, n, c⟩ := by
  rw [isB_iff]
  exact ⟨⟨rfl, rfl, rfl, rfl⟩, ⟨rfl, Nat.le_refl _, .inl rfl⟩, hn, hc, h⟩
theorem hp_new {w : World} {o : Obj} {g : Nat} (h : g = w.heap.size) : (w.alloc o).heap[g]? = some o := by subst h; exact World.alloc_heap_new w o
theorem hp_alloc {w : World} {o o' : Obj} {g : Nat} (h : w.heap[g]? = some o) : (w.alloc o').heap[g]? = some o := (Below.heap_alloc w o' g (Array.getElem?_eq_some_iff.1 h).1).trans h
theorem at_row {w : World} {g o : Nat} {cs : Array Value} {t : TypeId} {fr : Nat × Nat} {y : X} (h : w.heap[g]? = some (.cells cs t fr)) (h0 : cs[o]? = some (.int .i64 y.k)) (h1 : cs[o + 1]? = some (.string y.nm)) (h2 : cs[o + 2]? = some (.int .i64 y.n)) (h3 : cs[o + 3]? = some (.string y.s))
    (h4 : cs[o + 4]? = some (.slice y.ka y.kn y.kc)) (h5 : cs[o + 5]? = some (.slice y.la y.ln y.lc)) : At w g o y :=
  ⟨(cell_of_row w g o _ _ _ h).trans h0, (cell_of_row w g (o + 1) _ _ _ h).trans h1, (cell_of_row w g (o + 2) _ _ _ h).trans h2, (cell_of_row w g (o + 3) _ _ _ h).trans h3, (cell_of_row w g (o + 4) _ _ _ h).trans h4, (cell_of_row w g (o + 5) _ _ _ h).trans h5⟩
/-- a row of one node, of two nodes, laid out new -/
theorem row_one (w : World) (B : Nat) {v : V} {x : X} (h : IsB w B v x) (hB : B ≤ w.heap.size) : RowB (w.alloc (.cells x.cells 25)) (w.heap.size + 1) (some ⟨w.heap.size, 0, none⟩) [v] := by
  have hb := below_alloc w (.cells x.cells 25)
  exact .inr ⟨w.heap.size, 0, rfl, by omega, ⟨x, at_row (hp_new rfl) rfl rfl rfl rfl rfl rfl, IsB.to (hb.mono hB) (by omega) _ _ h⟩, trivial⟩
theorem row_two (w : World) (B : Nat) {v u : V} {x y : X} (h : IsB w B v x) (h2 : IsB w B u y) (hB : B ≤ w.heap.size) : RowB (w.alloc (.cells (x.cells ++ y.cells) 25)) (w.heap.size + 1) (some ⟨w.heap.size, 0, none⟩) [v, u] := by
  have hb := below_alloc w (.cells (x.cells ++ y.cells) 25)
  exact .inr ⟨w.heap.size, 0, rfl, by omega, ⟨x, at_row (hp_new rfl) rfl rfl rfl rfl rfl rfl, IsB.to (hb.mono hB) (by omega) _ _ h⟩, ⟨y, at_row (hp_new rfl) rfl rfl rfl rfl rfl rfl, IsB.to (hb.mono hB) (by omega) _ _ h2⟩, trivial⟩
end Go.Proofs.Ytgehgccgologpaa.Z
