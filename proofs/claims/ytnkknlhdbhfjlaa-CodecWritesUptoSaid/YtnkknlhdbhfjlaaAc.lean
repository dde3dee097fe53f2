/-
  A LIST OR A RECORD WHILE IT IS READ: a struct whose keys and elements are rows of the call's own.
-/
import Derived.Test.YtnkknlhdbhfjlaaE
namespace Go.Proofs.Ytnkknlhdbhfjlaa
open Go.RowKit

/-- the struct in block nu, made since w1; of w1 the blocks M alone have turned -/
structure Acc (w1 : World) (M : Nat → Prop) (nu : Nat) (k : Int) (ks : List ByteArray) (l : List V) (wr : World) (kA : Option Addr) (kC : Nat) (lA : Option Addr) (lC : Nat) (ys : List X) : Prop where
  mn : M nu
  lt : nu < w1.heap.size
  fr : Fr (fun g => g < w1.heap.size ∧ ¬ M g) w1 wr
  row : wr.heap[nu]? = some (.cells #[.int .i64 k, .int .i64 0, .string ⟨#[]⟩, .slice kA ks.length kC, .slice lA l.length lC] 25 (0, 0))
  kown : wr.ownsRow w1.heap.size 9 1 (.slice kA ks.length kC) ks.length (ks.map Value.string)
  lown : wr.ownsRow w1.heap.size 25 5 (.slice lA l.length lC) l.length (flat5 ys)
  kl : ∀ b, (Value.slice kA ks.length kC).ownBlock = some b → (Value.slice lA l.length lC).ownBlock ≠ some b
  len : ys.length = l.length
  kid : ∀ i (_ : i < ys.length) (h2 : i < l.length), IsP wr (fun g => w1.heap.size ≤ g ∧ g < wr.heap.size ∧ some g ≠ (Value.slice kA ks.length kC).ownBlock ∧ some g ≠ (Value.slice lA l.length lC).ownBlock) l[i] ys[i]
section
variable {w1 wr w2 w3 : World} {M N : Nat → Prop} {nu : Nat} {k : Int} {ks : List ByteArray} {l : List V} {kA lA : Option Addr} {kC lC : Nat} {ys : List X}
theorem Acc.cells (h : Acc w1 M nu k ks l wr kA kC lA lC ys) : wr.cell? ⟨nu, 0, none⟩ = some (.int .i64 k) ∧ wr.cell? ⟨nu, 1, none⟩ = some (.int .i64 0) ∧ wr.cell? ⟨nu, 2, none⟩ = some (.string ⟨#[]⟩) ∧ wr.cell? ⟨nu, 3, none⟩ = some (.slice kA ks.length kC) ∧ wr.cell? ⟨nu, 4, none⟩ = some (.slice lA l.length lC) ∧ ∀ o, wr.frozen? ⟨nu, o, none⟩ = false := by
  have hr := h.row
  refine ⟨?_, ?_, ?_, ?_, ?_, fun o => by simp [World.frozen?, hr]⟩
  · rw [cell_of_row wr nu 0 _ _ _ hr]; rfl
  · rw [cell_of_row wr nu 1 _ _ _ hr]; rfl
  · rw [cell_of_row wr nu 2 _ _ _ hr]; rfl
  · rw [cell_of_row wr nu 3 _ _ _ hr]; rfl
  · rw [cell_of_row wr nu 4 _ _ _ hr]; rfl
/-- a step that leaves the struct and its rows alone -/
theorem Acc.keep (h : Acc w1 M nu k ks l wr kA kC lA lC ys) (hf : Fr (fun g => g < wr.heap.size ∧ ¬ N g) wr w2) (hN : ∀ g, N g → M g ∧ g ≠ nu ∧ g < w1.heap.size) : Acc w1 M nu k ks l w2 kA kC lA lC ys := by
  have hs := h.fr.size
  have hz := hf.size
  have hnn : ¬ N nu := fun hn => (hN nu hn).2.1 rfl
  have hhi : ∀ g, w1.heap.size ≤ g → ¬ N g := fun g hg hn => by
    have := (hN g hn).2.2
    omega
  have hkeep : ∀ {e : TypeId} {size n : Nat} {v : Value} {xs : List Value}, wr.ownsRow w1.heap.size e size v n xs → w2.ownsRow w1.heap.size e size v n xs := fun ho =>
    own_any ho fun b hb => hf.block b ⟨(ho.lt b hb).2, hhi b (ho.lt b hb).1⟩
  refine ⟨h.mn, h.lt, h.fr.trans (hf.mono fun g hg => ⟨by omega, fun hn => hg.2 (hN g hn).1⟩), (hf.block nu ⟨by have := h.lt; omega, hnn⟩).trans h.row, hkeep h.kown, hkeep h.lown, h.kl, h.len, fun i h1 h2 => ?_⟩
  refine IsP.fr (P' := fun g => w1.heap.size ≤ g ∧ g < w2.heap.size ∧ some g ≠ (Value.slice kA ks.length kC).ownBlock ∧ some g ≠ (Value.slice lA l.length lC).ownBlock) (hf.mono fun g hg => ⟨hg.2.1, hhi g hg.1⟩) (fun g hg => ⟨hg.1, by omega, hg.2.2⟩) _ _ (h.kid i h1 h2)
/-- one more element -/
theorem Acc.push (h : Acc w1 M nu k ks l w2 kA kC lA lC ys) {v : V} {y : X} {B : Nat} (hB : w1.heap.size ≤ B) (hkB : ∀ b, (Value.slice kA ks.length kC).ownBlock = some b → b < B) (hlB : ∀ b, (Value.slice lA l.length lC).ownBlock = some b → b < B)
    (hy : IsP w2 (fun g => B ≤ g ∧ g < w2.heap.size) v y)
    {g cap : Nat} (h3 : w3.ownsRow w1.heap.size 25 5 (.slice (some ⟨g, 0, none⟩) (l.length + 1) cap) (l.length + 1) (flat5 ys ++ y.cells.toList)) (hg : (w2.alloc (.cells y.cells 25)).grownBy w3 (Value.slice lA l.length lC).ownBlock)
    (hat : (Value.slice lA l.length lC).ownBlock = some g ∨ g = w2.heap.size + 1) :
    Acc w1 M nu k ks (l ++ [v]) (w3.setCell ⟨nu, 4, none⟩ (.slice (some ⟨g, 0, none⟩) (l.length + 1) cap)) kA kC (some ⟨g, 0, none⟩) cap (ys ++ [y]) := by
  obtain ⟨hmn, hlt, hfr, hrow, hko, hlo, hkl, hlen, hkid⟩ := h
  have hs1 := hfr.size
  have hs4 : w2.heap.size + 1 ≤ w3.heap.size := by have := hg.size; simpa using this
  have hob : ∀ b, (Value.slice lA l.length lC).ownBlock = some b → w1.heap.size ≤ b ∧ b < w2.heap.size := hlo.lt
  have hkb : ∀ b, (Value.slice kA ks.length kC).ownBlock = some b → w1.heap.size ≤ b ∧ b < w2.heap.size := hko.lt
  have hgs : w1.heap.size ≤ g := by
    rcases hat with e | e
    · exact (hob g e).1
    · omega
  have hold : ∀ b, b < w2.heap.size → some b ≠ (Value.slice lA l.length lC).ownBlock → w3.heap[b]? = w2.heap[b]? := fun b hb hne => by
    rw [hg.block b (by simp; omega) hne, Below.heap_alloc _ _ _ hb]
  have hnn : some nu ≠ (Value.slice lA l.length lC).ownBlock := fun e => by
    have := (hob nu e.symm).1
    omega
  have hrow3 := (hold nu (by omega) hnn).trans hrow
  have hset : ∀ b, b ≠ nu → (w3.setCell ⟨nu, 4, none⟩ (.slice (some ⟨g, 0, none⟩) (l.length + 1) cap)).heap[b]? = w3.heap[b]? := fun b hb => Below.heap_setCell _ _ _ _ hb
  have hsz : (w3.setCell ⟨nu, 4, none⟩ (.slice (some ⟨g, 0, none⟩) (l.length + 1) cap)).heap.size = w3.heap.size := by simp [World.setCell]
  have hos : (w3.setCell ⟨nu, 4, none⟩ (.slice (some ⟨g, 0, none⟩) (l.length + 1) cap)).os = w2.os ∧ (w3.setCell ⟨nu, 4, none⟩ (.slice (some ⟨g, 0, none⟩) (l.length + 1) cap)).tape = w2.tape ∧ (w3.setCell ⟨nu, 4, none⟩ (.slice (some ⟨g, 0, none⟩) (l.length + 1) cap)).output = w2.output := ⟨hg.os, hg.tape, hg.output⟩
  have hgk : ∀ b, (Value.slice kA ks.length kC).ownBlock = some b → b ≠ g := fun b hb e => by
    subst e
    rcases hat with e | e
    · exact hkl b hb e
    · have := (hkb b hb).2
      omega
  refine ⟨hmn, hlt, hfr.trans ⟨hos.1, hos.2.1, hos.2.2, by rw [hsz]; omega, fun b hb => ?_⟩, ?_, ?_, ?_, fun b hb e => ?_, by simp [hlen], fun i hi hl => ?_⟩
  · rw [hset b (fun e => hb.2 (e ▸ hmn)), hold b (by omega) (fun e => by have := (hob b e.symm).1; omega)]
  · rw [List.length_append]
    exact hp_row_set hrow3 _
  · refine own_any hko fun b hb => ?_
    rw [hset b (by have := (hkb b hb).1; omega), hold b (hkb b hb).2 (fun e => hkl b hb e.symm)]
  · rw [flat5_snoc, List.length_append]
    refine ⟨h3.1, ?_⟩
    rcases h3.2 with h | ⟨g', cap', cur, hv, hb', hg', r⟩
    · exact .inl h
    · refine .inr ⟨g', cap', cur, hv, hb', ?_, r⟩
      rw [hset g' (by omega)]
      exact hg'
  · have e' : g = b := by simpa [Value.ownBlock] using e
    exact hgk b hb e'.symm
  · rw [hsz]
    by_cases e : i < ys.length
    · have hl' : i < l.length := by omega
      rw [List.getElem_append_left e, List.getElem_append_left hl']
      refine IsP.fr ?_ ?_ _ _ (hkid i e hl')
      · refine ⟨hos.1, hos.2.1, hos.2.2, by rw [hsz]; omega, fun b hb => ?_⟩
        rw [hset b (by omega), hold b hb.2.1 hb.2.2.2]
      · rintro b ⟨b1, b2, b3, b4⟩
        refine ⟨b1, by omega, b3, fun e => ?_⟩
        have : b = g := by simpa [Value.ownBlock] using e
        subst this
        rcases hat with e | e
        · exact b4 e.symm
        · omega
    · have hi' : i = l.length := by
        simp at hi
        omega
      subst hi'
      rw [List.getElem_append_right (by omega), List.getElem_append_right (by omega)]
      have e1 : ∀ q (hq : q < [y].length), [y][q] = y := fun q hq => by
        simp at hq
        subst hq
        rfl
      have e2 : ∀ q (hq : q < [v].length), [v][q] = v := fun q hq => by
        simp at hq
        subst hq
        rfl
      rw [e1, e2]
      refine IsP.fr ?_ ?_ _ _ hy
      · refine ⟨hg.os, hg.tape, hg.output, by rw [hsz]; omega, fun b hb => ?_⟩
        rw [hset b (by omega), hg.block b (by simp; omega) (fun e => by have := hlB b e.symm; omega), Below.heap_alloc _ _ _ hb.2]
      · rintro b ⟨b1, b2⟩
        refine ⟨by omega, by omega, fun e => by have := hkB b e.symm; omega, fun e => ?_⟩
        have : b = g := by simpa [Value.ownBlock] using e
        subst this
        rcases hat with e | e
        · have := hlB b e
          omega
        · omega
/-- one more key -/
theorem Acc.key (h : Acc w1 M nu k ks l w2 kA kC lA lC ys) {s : ByteArray}
    {g cap : Nat} (h3 : w3.ownsRow w1.heap.size 9 1 (.slice (some ⟨g, 0, none⟩) (ks.length + 1) cap) (ks.length + 1) (ks.map Value.string ++ [.string s])) (hg : (w2.alloc (.cells #[.string s] 9)).grownBy w3 (Value.slice kA ks.length kC).ownBlock)
    (hat : (Value.slice kA ks.length kC).ownBlock = some g ∨ g = w2.heap.size + 1) :
    Acc w1 M nu k (ks ++ [s]) l (w3.setCell ⟨nu, 3, none⟩ (.slice (some ⟨g, 0, none⟩) (ks.length + 1) cap)) (some ⟨g, 0, none⟩) cap lA lC ys := by
  obtain ⟨hmn, hlt, hfr, hrow, hko, hlo, hkl, hlen, hkid⟩ := h
  have hs1 := hfr.size
  have hs4 : w2.heap.size + 1 ≤ w3.heap.size := by have := hg.size; simpa using this
  have hob : ∀ b, (Value.slice lA l.length lC).ownBlock = some b → w1.heap.size ≤ b ∧ b < w2.heap.size := hlo.lt
  have hkb : ∀ b, (Value.slice kA ks.length kC).ownBlock = some b → w1.heap.size ≤ b ∧ b < w2.heap.size := hko.lt
  have hgs : w1.heap.size ≤ g := by
    rcases hat with e | e
    · exact (hkb g e).1
    · omega
  have hold : ∀ b, b < w2.heap.size → some b ≠ (Value.slice kA ks.length kC).ownBlock → w3.heap[b]? = w2.heap[b]? := fun b hb hne => by
    rw [hg.block b (by simp; omega) hne, Below.heap_alloc _ _ _ hb]
  have hnn : some nu ≠ (Value.slice kA ks.length kC).ownBlock := fun e => by
    have := (hkb nu e.symm).1
    omega
  have hrow3 := (hold nu (by omega) hnn).trans hrow
  have hset : ∀ b, b ≠ nu → (w3.setCell ⟨nu, 3, none⟩ (.slice (some ⟨g, 0, none⟩) (ks.length + 1) cap)).heap[b]? = w3.heap[b]? := fun b hb => Below.heap_setCell _ _ _ _ hb
  have hsz : (w3.setCell ⟨nu, 3, none⟩ (.slice (some ⟨g, 0, none⟩) (ks.length + 1) cap)).heap.size = w3.heap.size := by simp [World.setCell]
  have hos : (w3.setCell ⟨nu, 3, none⟩ (.slice (some ⟨g, 0, none⟩) (ks.length + 1) cap)).os = w2.os ∧ (w3.setCell ⟨nu, 3, none⟩ (.slice (some ⟨g, 0, none⟩) (ks.length + 1) cap)).tape = w2.tape ∧ (w3.setCell ⟨nu, 3, none⟩ (.slice (some ⟨g, 0, none⟩) (ks.length + 1) cap)).output = w2.output := ⟨hg.os, hg.tape, hg.output⟩
  have hgl : ∀ b, (Value.slice lA l.length lC).ownBlock = some b → b ≠ g := fun b hb e => by
    subst e
    rcases hat with e | e
    · exact hkl b e hb
    · have := (hob b hb).2
      omega
  refine ⟨hmn, hlt, hfr.trans ⟨hos.1, hos.2.1, hos.2.2, by rw [hsz]; omega, fun b hb => ?_⟩, ?_, ?_, ?_, fun b hb e => ?_, hlen, fun i hi hl => ?_⟩
  · rw [hset b (fun e => hb.2 (e ▸ hmn)), hold b (by omega) (fun e => by have := (hkb b e.symm).1; omega)]
  · rw [List.length_append]
    exact hp_row_set hrow3 _
  · rw [List.map_append, List.length_append]
    refine ⟨h3.1, ?_⟩
    rcases h3.2 with h | ⟨g', cap', cur, hv, hb', hg', r⟩
    · exact .inl h
    · refine .inr ⟨g', cap', cur, hv, hb', ?_, r⟩
      rw [hset g' (by omega)]
      exact hg'
  · refine own_any hlo fun b hb => ?_
    rw [hset b (by have := (hob b hb).1; omega), hold b (hob b hb).2 (fun e => hkl b e.symm hb)]
  · have e' : g = b := by simpa [Value.ownBlock] using hb
    exact hgl b e e'.symm
  · rw [hsz]
    refine IsP.fr ?_ ?_ _ _ (hkid i hi hl)
    · refine ⟨hos.1, hos.2.1, hos.2.2, by rw [hsz]; omega, fun b hb => ?_⟩
      rw [hset b (by omega), hold b hb.2.1 hb.2.2.1]
    · rintro b ⟨b1, b2, b3, b4⟩
      refine ⟨b1, by omega, fun e => ?_, b4⟩
      have : b = g := by simpa [Value.ownBlock] using e
      subst this
      rcases hat with e | e
      · exact b3 e.symm
      · omega
/-- what has been made -/
theorem Acc.done (h : Acc w1 M nu k ks l wr kA kC lA lC ys) : IsP wr (fun g => w1.heap.size ≤ g ∧ g < wr.heap.size) (.mk k 0 ⟨#[]⟩ ks l) ⟨k, 0, ⟨#[]⟩, kA, ks.length, kC, lA, l.length, lC⟩ := by
  rw [isP_iff]
  have hcap : ∀ {e : TypeId} {size n c : Nat} {A : Option Addr} {xs : List Value}, wr.ownsRow w1.heap.size e size (.slice A n c) n xs → n ≤ c := fun ho => by
    rcases ho.2 with ⟨hv, h0⟩ | ⟨g, cap, cur, hv, _, _, hn, _⟩
    · injection hv with _ hv _
      omega
    · injection hv with _ _ hv
      omega
  refine ⟨⟨rfl, rfl, rfl⟩, ⟨rfl, hcap h.kown, ?_⟩, rfl, hcap h.lown, ?_⟩
  · by_cases h0 : ks = []
    · exact .inl h0
    · have hpos : 0 < ks.length := List.length_pos_iff.2 h0
      obtain ⟨g, cap, hv, hb, hg⟩ := h.kown.form hpos
      injection hv with e1 _ e3
      subst e1 e3
      refine .inr ⟨g, 0, rfl, ⟨hb, hg⟩, fun j hj => ?_⟩
      have hj' : j < ks.length := hj
      have := h.kown.cells (g := g) rfl j (.string ks[j]) (by simp [hj'])
      rw [addr_add] at this
      exact this
  · by_cases h0 : l = []
    · exact .inl h0
    · have hpos : 0 < l.length := List.length_pos_iff.2 h0
      obtain ⟨g, cap, hv, hb, hg⟩ := h.lown.form hpos
      injection hv with e1 _ e3
      subst e1 e3
      refine .inr ⟨g, 0, rfl, ⟨hb, hg⟩, (isAllP_iff _ _ _ _ _).2 fun i hi => ?_⟩
      have hi' : i < ys.length := by rw [h.len]; exact hi
      refine ⟨ys[i], ?_, IsP.fr (Fr.refl _ _) (fun g hg => ⟨hg.1, hg.2.1⟩) _ _ (h.kid i hi' hi)⟩
      refine flat5_row.2 (fun j u hu => ?_) i hi'
      have := h.lown.cells (g := g) rfl j u hu
      rw [addr_add] at this
      exact this
theorem Acc.start {w1 : World} {M : Nat → Prop} {nu : Nat} {k : Int} (hm : M nu) (h : w1.heap[nu]? = some (.cells #[.int .i64 k, .int .i64 0, .string ⟨#[]⟩, .slice none 0 0, .slice none 0 0] 25 (0, 0))) : Acc w1 M nu k [] [] w1 none 0 none 0 [] :=
  ⟨hm, (Array.getElem?_eq_some_iff.1 h).1, Fr.refl _ _, h, World.ownsRow_nil _ _ _ _, World.ownsRow_nil _ _ _ _, fun b hb => by simp [Value.ownBlock] at hb, rfl, fun i hi => by simp at hi⟩
end
end Go.Proofs.Ytnkknlhdbhfjlaa
