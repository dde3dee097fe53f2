/-

-/
import Derived.Test.YtllpgoaanbiodaaGreatDoorMR
import Derived.Shelf.Spec.SlicesInsert
import Derived.Shelf.Spec.SlicesInsertGrow
import Derived.Deep.Upon
namespace Go.Proofs.YtllpgoaanbiodaaGreatDoor.R
open Go.Shelf Go.RowKit Go.Proofs.YtllpgoaanbiodaaGreatDoor Go.Proofs.YtllpgoaanbiodaaGreatDoor.T
def insRen : Go.Shelf.Ren := ⟨fun | 17 => 153 | 22 => 116 | 29 => 134 | 30 => 135 | 36 => 144 | n => n, fun | 0 => 0 | 3 => 3 | 4 => 4 | 9 => 9 | 24 => 22 | n => n, fun | n => n⟩
theorem insLays : Lays2.n22 Tryz.prog insRen := {
 mixed := by kernel_rfl
 f17 := Tryz.func153.trans (congrArg some (by kernel_rfl))
 f22 := Tryz.func116.trans (congrArg some (by kernel_rfl))
 f29 := Tryz.func134.trans (congrArg some (by kernel_rfl))
 f30 := Tryz.func135.trans (congrArg some (by kernel_rfl))
 f36 := Tryz.func144.trans (congrArg some (by kernel_rfl))
 t0 := Tryz.underlying0
 a0 := Tryz.isAgg0
 z0 := Tryz.sizeOf0
 v0 := Tryz.zeroValue0
 t3 := Tryz.underlying3
 a3 := Tryz.isAgg3
 z3 := Tryz.sizeOf3
 v3 := Tryz.zeroValue3
 t4 := Tryz.underlying4
 a4 := Tryz.isAgg4
 z4 := Tryz.sizeOf4
 v4 := Tryz.zeroValue4
 t9 := Tryz.underlying9
 a9 := Tryz.isAgg9
 z9 := Tryz.sizeOf9
 v9 := Tryz.zeroValue9
 t24 := Tryz.underlying22
 a24 := Tryz.isAgg22
 z24 := Tryz.sizeOf22
 v24 := Tryz.zeroValue22
 i9 := by kernel_rfl }
theorem block_setCell {w : World} {b : Nat} {cur : Array Value} {e : TypeId} {fz : Nat × Nat} (h : w.heap[b]? = some (.cells cur e fz)) (o : Nat) (v : Value) : (w.setCell ⟨b, o, none⟩ v).heap[b]? = some (.cells (cur.setIfInBounds o v) e fz) := by
 show (w.heap.modify b _)[b]? = _
 rw [Array.getElem?_modify, if_pos rfl, h]
 rfl
theorem block_setCells {b : Nat} {e : TypeId} {fz : Nat × Nat} : ∀ (vs : List Value) (o : Nat) (w : World) (cur : Array Value), w.heap[b]? = some (.cells cur e fz) → ∃ cur', (w.setCells b o vs).heap[b]? = some (.cells cur' e fz) ∧ cur'.size = cur.size
 | [], _, w, cur, h => ⟨cur, h, rfl⟩
 | v :: r, o, w, cur, h => by
  obtain ⟨cur', h1, h2⟩ := block_setCells r (o + 1) (w.setCell ⟨b, o, none⟩ v) _ (block_setCell h o v)
  exact ⟨cur', h1, by rw [h2]; simp⟩
theorem setCells_same (b : Nat) : ∀ (vs : List Value) (o : Nat) (w : World), (w.setCells b o vs).os = w.os ∧ (w.setCells b o vs).tape = w.tape ∧ (w.setCells b o vs).output = w.output ∧ (w.setCells b o vs).heap.size = w.heap.size
 | [], _, _ => ⟨rfl, rfl, rfl, rfl⟩
 | v :: r, o, w => by
  obtain ⟨h1, h2, h3, h4⟩ := setCells_same b r (o + 1) (w.setCell ⟨b, o, none⟩ v)
  exact ⟨h1, h2, h3, h4.trans (by simp [World.setCell])⟩
def put1 (T : Ts) (i : Nat) (s : ByteArray) : Ts := T.take i ++ s :: T.drop i
theorem put1_length (T : Ts) (i : Nat) (s : ByteArray) (hi : i ≤ T.length) : (put1 T i s).length = T.length + 1 := by
 unfold put1
 rw [List.length_append, List.length_cons, List.length_take, List.length_drop]
 omega
theorem put1_get (T : Ts) (i : Nat) (s : ByteArray) (hi : i ≤ T.length) (j : Nat) : (put1 T i s)[j]? = if j < i then T[j]? else if j = i then some s else T[j - 1]? := by
 unfold put1
 by_cases h1 : j < i
 ·rw [if_pos h1, List.getElem?_append_left (by rw [List.length_take]; omega), List.getElem?_take_of_lt h1]
 ·rw [if_neg h1, List.getElem?_append_right (by rw [List.length_take]; omega), List.length_take, Nat.min_eq_left hi]
  by_cases h2 : j = i
  ·rw [if_pos h2, h2, Nat.sub_self]; rfl
  ·rw [if_neg h2, show j - i = (j - i - 1) + 1 by omega, List.getElem?_cons_succ, List.getElem?_drop]
   congr 1
   omega
def Ins (w : World) (F : Nat → Prop) (B : Nat) (T' : Ts) (b : Bool) (v : Value) (e : Ending) (w' : World) : Prop := ∃ g cap, e = .returned (.slice (some ⟨g, 0, none⟩) T'.length cap) ∧ w'.cell? ⟨B, 0, none⟩ = some v ∧ w'.frozen? ⟨B, 0, none⟩ = false ∧
 Wr (w'.setCell ⟨B, 0, none⟩ (.slice (some ⟨g, 0, none⟩) T'.length cap)) F B T' b (.slice (some ⟨g, 0, none⟩) T'.length cap) ∧ Fr F w (w'.setCell ⟨B, 0, none⟩ (.slice (some ⟨g, 0, none⟩) T'.length cap))
theorem ins_of {w w' : World} {F : Nat → Prop} {B : Nat} {T T' : Ts} {b : Bool} {v : Value} (h : Wr w F B T b v) (hB : w'.heap[B]? = w.heap[B]?) (hf : Fr F w w') (g cap : Nat) (cur : Array Value) (hg : w'.heap[g]? = some (.cells cur 9 (0, 0)))
  (hgB : g ≠ B) (hgF : ¬ F g) (hcap : T'.length ≤ cap) (hmax : cap ≤ maxLen) (hsz : cur.size = cap) (hcur : ∀ j, j < T'.length → cur[j]? = (vals T')[j]?) : Ins w F B T' b v (.returned (.slice (some ⟨g, 0, none⟩) T'.length cap)) w' := by
 have hc := (World.cell?_of_block hB).trans h.c0
 have hz := (World.frozen?_of_block hB).trans h.f0
 have hw : Wr w' F B T b v → True := fun _ => trivial
 refine ⟨g, cap, rfl, hc, hz, ⟨World.cell?_setCell_same _ _ _ hc, ?_, by simp [hz], ?_, by simpa [World.setCell] using Nat.lt_of_lt_of_le h.lt hf.size, h.nF, ?_, fun k hk => ?_⟩, hf.setCell h.nF _⟩
 ·rw [World.cell?_setCell_other _ _ _ _ (by simp)]
  exact (World.cell?_of_block hB).trans h.c1
 ·rw [World.frozen?_setCell]
  exact (World.frozen?_of_block hB).trans h.f1
 ·refine own_push (w := w') ⟨by simp, .inr ⟨g, cap, cur, rfl, Nat.zero_le _, hg, hcap, hmax, by omega, ?_⟩⟩ fun k hk => Below.heap_setCell _ _ _ _ ?_
  ·refine List.ext_getElem? fun j => ?_
   rw [Nat.mul_one]
   by_cases hj : j < T'.length
   ·rw [List.getElem?_take_of_lt hj, Array.getElem?_toList]
    exact hcur j hj
   ·rw [List.getElem?_eq_none (by rw [List.length_take]; omega), List.getElem?_eq_none (by simp; omega)]
  ·have : g = k := by simpa [Value.ownBlock] using hk
   subst this
   exact hgB
 ·have : g = k := by simpa [Value.ownBlock] using hk
  subst this
  exact ⟨hgB, hgF⟩
theorem vals_one (T : Ts) : ∀ v ∈ vals T, v.oneCell' = true := by
 intro v hv
 obtain ⟨s, _, rfl⟩ := List.mem_map.1 hv
 rfl
theorem vals_get (T : Ts) (j : Nat) : (vals T)[j]? = (T[j]?).map Value.string := by rw [vals, List.getElem?_map]
theorem insert_any (F : Nat → Prop) (B : Nat) (T : Ts) (b : Bool) (v : Value) (s : ByteArray) (i : Nat) (g n : Nat) (w : World) (hF : ∀ k, F k → k < w.heap.size) (h : Wr w F B T b v) (hi : i < T.length) (hlim : T.length ≤ 8796093022000) (hg : g = w.heap.size) (hn : n = 1) :
  Calls Tryz.prog 116 #[v, .int .i64 (i : Nat), .slice (some ⟨g, 0, none⟩) n n] (w.alloc (.cells #[.string s] 9)) (Ins w F B (put1 T i s) b v) := by
 subst hg hn
 have hb := below_alloc w (.cells #[.string s] 9)
 have h1 := h.below hb
 have hlen := put1_length T i s (Nat.le_of_lt hi)
 rcases h1.own.2 with ⟨_, h0⟩ | ⟨g, c, cur, rfl, _, hg, hnc, hmx, hcs, htk⟩
 ·omega
 ·obtain ⟨hgB, hgF⟩ := h1.away g rfl
  have hgw : g < w.heap.size := h.blt rfl
  rw [Nat.mul_one] at hcs htk
  have hcell : ∀ j (u : Value), (vals T)[j]? = some u → (w.alloc (.cells #[.string s] 9)).cell? ⟨g, 0 + j, none⟩ = some u := fun j u hu => by
   rw [Nat.zero_add, cell_of_row _ g j cur _ _ hg, ← Array.getElem?_toList]
   have hj : j < T.length := by
    have := (List.getElem?_eq_some_iff.1 hu).1
    simpa using this
   rw [← List.getElem?_take_of_lt hj, htk]
   exact hu
  have hnew : (w.alloc (.cells #[.string s] 9)).heap[w.heap.size]? = some (.cells #[.string s] 9 (0, 0)) := by
   show (w.heap.push _)[w.heap.size]? = _
   rw [Array.getElem?_push, if_pos rfl]
  have hvs : ∀ j (u : Value), [Value.string s][j]? = some u → (w.alloc (.cells #[.string s] 9)).cell? ⟨w.heap.size, 0 + j, none⟩ = some u := fun j u hu => by
   rw [Nat.zero_add, cell_of_row _ _ j _ _ _ hnew]
   simpa using hu
  have h1v : ∀ u ∈ [Value.string s], u.oneCell' = true := fun u hu => by rw [List.mem_singleton] at hu; rw [hu]; rfl
  have hc63 : c ≤ 9223372036854775807 := by unfold maxLen at hmx; omega
  by_cases hroom : T.length + 1 ≤ c
  ·refine (Any2.slices_Insert_string_shift insLays g 0 T.length c i w.heap.size 0 1 1 (vals T) [.string s] (w.alloc (.cells #[.string s] 9)) hi (by decide) hroom hc63 (by omega) (by simp) rfl hcell ?_ ?_ hvs (vals_one T) h1v 9 9 1 c ?_ ?_ (by omega) ?_ ?_).mono ?_
   ·intro j hj
    rw [Nat.zero_add, cell_of_row _ g j cur _ _ hg, Array.getElem?_eq_getElem (by omega)]
    rfl
   ·intro j _
    rw [Nat.zero_add]
    exact frozen_of_row _ g j cur _ hg
   ·unfold World.shape?
    rw [hnew]
    rfl
   ·unfold World.shape?
    rw [hg, ← hcs]
   ·exact frozen_of_row _ _ 0 _ _ hnew
   ·exact frozen_of_row _ _ 1 _ _ hnew
   rintro e w' ⟨rfl, rfl⟩
   obtain ⟨cur1, hg1, hs1⟩ := block_setCells ((vals T).drop i) (0 + (i + 1)) (w.alloc (.cells #[.string s] 9)).drew cur hg
   obtain ⟨cur2, hg2, hs2⟩ := block_setCells [.string s] (0 + i) _ cur1 hg1
   rw [← hlen]
   refine ins_of h ?_ ?_ g c cur2 hg2 hgB hgF (by omega) hmx (by omega) fun j hj => ?_
   ·rw [World.heap_setCells_other _ _ _ _ ?_ (Ne.symm hgB), World.heap_setCells_other _ _ _ _ ?_ (Ne.symm hgB)]
    ·exact hb.block B h.lt
    ·exact h1.lt
    ·rw [(setCells_same _ _ _ _).2.2.2]; exact h1.lt
   ·refine ((Fr.refl F w).alloc hF (.cells #[.string s] 9)).trans ?_
    obtain ⟨a1, a2, a3, a4⟩ := setCells_same g ((vals T).drop i) (0 + (i + 1)) (w.alloc (.cells #[.string s] 9)).drew
    obtain ⟨b1, b2, b3, b4⟩ := setCells_same g [.string s] (0 + i) ((w.alloc (.cells #[.string s] 9)).drew.setCells g (0 + (i + 1)) ((vals T).drop i))
    refine ⟨b1.trans a1, b2.trans a2, b3.trans a3, Nat.le_of_eq (b4.trans a4).symm, fun k hk => ?_⟩
    ·have hkg : k ≠ g := fun e => hgF (e ▸ hk)
     have hkl : k < (w.alloc (.cells #[.string s] 9)).heap.size := Nat.lt_of_lt_of_le (hF k hk) hb.size
     rw [World.heap_setCells_other _ _ _ _ (by rw [a4]; exact hkl) hkg, World.heap_setCells_other (w.alloc (.cells #[.string s] 9)).drew _ _ _ hkl hkg]
     rfl
   ·rw [hlen] at hj
    rw [← cell_of_row _ g j cur2 _ _ hg2, vals_get, put1_get T i s (Nat.le_of_lt hi)]
    have hex : ∀ q, q < c → ((w.alloc (.cells #[.string s] 9)).drew.cell? ⟨g, q, none⟩).isSome = true := fun q hq => by
     show ((w.alloc (.cells #[.string s] 9)).cell? ⟨g, q, none⟩).isSome = true
     rw [cell_of_row _ g q cur _ _ hg, Array.getElem?_eq_getElem (by omega)]
     rfl
    have hold : ∀ q, q < T.length → (w.alloc (.cells #[.string s] 9)).drew.cell? ⟨g, q, none⟩ = (T[q]?).map Value.string := fun q hq => by
     rw [List.getElem?_eq_getElem hq]
     have := hcell q (.string T[q]) (by rw [vals_get, List.getElem?_eq_getElem hq]; rfl)
     rw [Nat.zero_add] at this
     exact this
    have hdl : ((vals T).drop i).length = T.length - i := by simp
    have hex2 : ∀ q, q < c → (((w.alloc (.cells #[.string s] 9)).drew.setCells g (0 + (i + 1)) ((vals T).drop i)).cell? ⟨g, q, none⟩).isSome = true := fun q hq => by
     rw [cell_of_row _ g q cur1 _ _ hg1, Array.getElem?_eq_getElem (by omega)]
     rfl
    by_cases hji : j = i
    ·subst hji
     rw [if_neg (Nat.lt_irrefl _), if_pos rfl]
     have := World.cell?_setCells_in g [.string s] (0 + j) _ (fun q hq => by rw [List.length_singleton] at hq; exact hex2 _ (by omega)) 0 (by simp)
     rw [show 0 + j + 0 = j by omega] at this
     exact this
    ·rw [World.cell?_setCells_out _ _ _ _ _ (by intro _ _; rw [List.length_singleton]; simp only; omega)]
     by_cases hlt : j < i
     ·rw [if_pos hlt, World.cell?_setCells_out _ _ _ _ _ (by intro _ _; simp only; omega)]
      exact hold j (by omega)
     ·rw [if_neg hlt, if_neg hji]
      have := World.cell?_setCells_in g ((vals T).drop i) (0 + (i + 1)) (w.alloc (.cells #[.string s] 9)).drew (fun q hq => hex _ (by omega)) (j - i - 1) (by omega)
      rw [show 0 + (i + 1) + (j - i - 1) = j by omega] at this
      rw [this, List.getElem_drop, List.getElem_map, List.getElem?_eq_getElem (by omega)]
      simp only [Option.map_some]
      congr 3
      omega
  ·refine (Any2.slices_Insert_string_grow insLays g 0 T.length c i w.heap.size 0 1 1 (vals T) [.string s] (w.alloc (.cells #[.string s] 9)) hi (by decide) hnc (by omega) (by omega) (by simp) rfl hcell hvs (vals_one T) h1v).mono ?_
   rintro e w' ⟨rfl, rfl⟩
   have hcg := grownCap_ge (w.alloc (.cells #[.string s] 9)) (T.length + 1) c (insRen.t 9)
   have hcm := grownCap_le_maxLen (w.alloc (.cells #[.string s] 9)) (T.length + 1) c (insRen.t 9) (by unfold maxLen; omega)
   generalize grownCap (w.alloc (.cells #[.string s] 9)) (T.length + 1) c (insRen.t 9) = K at *
   have hG : (w.alloc (.cells #[.string s] 9)).heap.size = w.heap.size + 1 := by simp
   generalize w.alloc (.cells #[.string s] 9) = w1 at *
   generalize hC : ((vals T).take i).toArray ++ Builtin.zeroCells (Value.string ⟨#[]⟩).cells (T.length + 1 - i) ++ Builtin.zeroCells (Value.string ⟨#[]⟩).cells (K - (T.length + 1)) = C
   have hCs : C.size = K := by
    rw [← hC, Array.size_append, Array.size_append, size_zeroCells, size_zeroCells]
    have : (Value.string ⟨#[]⟩).cells.size = 1 := rfl
    rw [this]
    simp
    omega
   have hg0 : (w1.alloc (.cells C (insRen.t 9))).drew.heap[w1.heap.size]? = some (.cells C (insRen.t 9) (0, 0)) := by
    show (w1.heap.push _)[w1.heap.size]? = _
    rw [Array.getElem?_push, if_pos rfl]
   obtain ⟨cur1, hg1, hs1⟩ := block_setCells [.string s] i _ C hg0
   have hg1' : ((w1.alloc (.cells C (insRen.t 9))).drew.setCells w1.heap.size i [.string s]).drew.heap[w1.heap.size]? = some (.cells cur1 (insRen.t 9) (0, 0)) := hg1
   obtain ⟨cur2, hg2, hs2⟩ := block_setCells ((vals T).drop i) (i + 1) _ cur1 hg1'
   rw [← hlen]
   have hold : ∀ k, k < w1.heap.size → (((w1.alloc (.cells C (insRen.t 9))).drew.setCells w1.heap.size i [.string s]).drew.setCells w1.heap.size (i + 1) ((vals T).drop i)).heap[k]? = w1.heap[k]? := fun k hk => by
    rw [World.heap_setCells_other _ _ _ _ ?_ (by omega)]
    ·show ((w1.alloc (.cells C (insRen.t 9))).drew.setCells w1.heap.size i [.string s]).heap[k]? = _
     rw [World.heap_setCells_other _ _ _ _ ?_ (by omega)]
     ·exact (below_alloc w1 _).block k hk
     ·show k < (w1.alloc _).heap.size
      simp
      omega
    ·show k < ((w1.alloc (.cells C (insRen.t 9))).drew.setCells w1.heap.size i [.string s]).heap.size
     rw [(setCells_same _ _ _ _).2.2.2]
     show k < (w1.alloc _).heap.size
     simp
     omega
   obtain ⟨a1, a2, a3, a4⟩ := setCells_same w1.heap.size [.string s] i (w1.alloc (.cells C (insRen.t 9))).drew
   obtain ⟨b1, b2, b3, b4⟩ := setCells_same w1.heap.size ((vals T).drop i) (i + 1) ((w1.alloc (.cells C (insRen.t 9))).drew.setCells w1.heap.size i [.string s]).drew
   refine ins_of h ?_ ?_ w1.heap.size K cur2 hg2 (by have := h.lt; omega) (fun hk => by have := hF _ hk; omega) (by omega) hcm (by omega) fun j hj => ?_
   ·rw [hold B h1.lt]
    exact hb.block B h.lt
   ·refine (Fr.of hb hF).trans ⟨b1.trans a1, b2.trans a2, b3.trans a3, ?_, fun k hk => hold k (Nat.lt_of_lt_of_le (hF k hk) hb.size)⟩
    rw [b4]
    show _ ≤ ((w1.alloc (.cells C (insRen.t 9))).drew.setCells w1.heap.size i [.string s]).heap.size
    rw [a4]
    show _ ≤ (w1.alloc _).heap.size
    simp
   ·rw [hlen] at hj
    rw [← cell_of_row _ w1.heap.size j cur2 _ _ hg2, vals_get, put1_get T i s (Nat.le_of_lt hi)]
    have hex : ∀ q, q < K → ((w1.alloc (.cells C (insRen.t 9))).drew.cell? ⟨w1.heap.size, q, none⟩).isSome = true := fun q hq => by
     rw [cell_of_row _ _ q C _ _ hg0, Array.getElem?_eq_getElem (by omega)]
     rfl
    have hex2 : ∀ q, q < K → (((w1.alloc (.cells C (insRen.t 9))).drew.setCells w1.heap.size i [.string s]).drew.cell? ⟨w1.heap.size, q, none⟩).isSome = true := fun q hq => by
     rw [cell_of_row _ _ q cur1 _ _ hg1', Array.getElem?_eq_getElem (by omega)]
     rfl
    have hdl : ((vals T).drop i).length = T.length - i := by simp
    by_cases hji : j = i
    ·subst hji
     rw [if_neg (Nat.lt_irrefl _), if_pos rfl, World.cell?_setCells_out _ _ _ _ _ (by intro _ _; simp only; omega)]
     have := World.cell?_setCells_in w1.heap.size [.string s] j _ (fun q hq => by rw [List.length_singleton] at hq; exact hex _ (by omega)) 0 (by simp)
     exact this
    ·by_cases hlt : j < i
     ·rw [if_pos hlt, World.cell?_setCells_out _ _ _ _ _ (by intro _ _; simp only; omega)]
      show ((w1.alloc (.cells C (insRen.t 9))).drew.setCells w1.heap.size i [.string s]).cell? _ = _
      rw [World.cell?_setCells_out _ _ _ _ _ (by intro _ _; simp only; omega), cell_of_row _ _ j C _ _ hg0, ← hC, Array.getElem?_append_left (by rw [Array.size_append]; simp; omega), Array.getElem?_append_left (by simp; omega)]
      simp [hlt]
     ·rw [if_neg hlt, if_neg hji]
      have := World.cell?_setCells_in w1.heap.size ((vals T).drop i) (i + 1) _ (fun q hq => hex2 _ (by omega)) (j - i - 1) (by omega)
      rw [show i + 1 + (j - i - 1) = j by omega] at this
      rw [this, List.getElem_drop, List.getElem_map, List.getElem?_eq_getElem (by omega)]
      simp only [Option.map_some]
      congr 3
      omega
end Go.Proofs.YtllpgoaanbiodaaGreatDoor.R
