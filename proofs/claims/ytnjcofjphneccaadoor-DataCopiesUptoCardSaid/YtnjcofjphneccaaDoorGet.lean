/-
  Get, by contract.
-/
import Derived.Test.YtnjcofjphneccaaDoorCopy
import Derived.Laws.ResultCell
namespace Go.Proofs.YtnjcofjphneccaaDoor
open Go.RowKit

/-- the first key that is equal -/
def findK (key : ByteArray) : List ByteArray → Option Nat
  | [] => none
  | k :: r => if k = key then some 0 else (findK key r).map (· + 1)
theorem findK_some {key : ByteArray} : ∀ {ks : List ByteArray} {j : Nat}, findK key ks = some j → j < ks.length ∧ ks.getD j ByteArray.empty = key ∧ ∀ i, i < j → ks.getD i ByteArray.empty ≠ key
  | [], j, h => by cases h
  | k :: r, j, h => by
    unfold findK at h
    split at h
    · rename_i e
      injection h with h
      subst h
      exact ⟨by simp, by simpa using e, fun i hi => by omega⟩
    · rename_i e
      obtain ⟨m, hm, rfl⟩ := Option.map_eq_some_iff.1 h
      obtain ⟨h1, h2, h3⟩ := findK_some hm
      refine ⟨by simpa using h1, by simpa using h2, fun i hi => ?_⟩
      cases i with
      | zero => simpa using e
      | succ i => simpa using h3 i (by omega)
theorem findK_none {key : ByteArray} : ∀ {ks : List ByteArray}, findK key ks = none → ∀ i, i < ks.length → ks.getD i ByteArray.empty ≠ key
  | [], _, i, hi => by simp at hi
  | k :: r, h, i, hi => by
    unfold findK at h
    split at h
    · cases h
    · rename_i e
      have h := Option.map_eq_none_iff.1 h
      cases i with
      | zero => simpa using e
      | succ i => simpa using findK_none h i (by simpa using hi)
theorem findK_hit {key : ByteArray} {ks : List ByteArray} {j : Nat} (hj : j < ks.length) (h : ks.getD j ByteArray.empty = key) (hn : ∀ i, i < j → ks.getD i ByteArray.empty ≠ key) : findK key ks = some j := by
  rcases hf : findK key ks with _ | m
  · exact absurd h (findK_none hf j hj)
  · obtain ⟨h1, h2, h3⟩ := findK_some hf
    rcases Nat.lt_trichotomy m j with h | rfl | h
    · exact absurd h2 (hn m h)
    · rfl
    · exact absurd ‹ks.getD j ByteArray.empty = key› (h3 j h)
theorem findK_miss {key : ByteArray} {ks : List ByteArray} (hn : ∀ i, i < ks.length → ks.getD i ByteArray.empty ≠ key) : findK key ks = none := by
  rcases hf : findK key ks with _ | m
  · rfl
  · obtain ⟨h1, h2, _⟩ := findK_some hf
    exact absurd h2 (hn m h1)
/-- what a value has at a key -/
def got (v : V) (key : ByteArray) : Option V := (findK key v.ks).bind fun j => v.l[j]?
def zeroV : V := .mk 0 0 ⟨#[]⟩ [] []
theorem zero_is (w : World) : Is w zeroV ⟨0, 0, ⟨#[]⟩, none, 0, 0, none, 0, 0⟩ := by
  rw [is_iff]
  exact ⟨⟨rfl, rfl, rfl⟩, ⟨rfl, Nat.le_refl _, .inl rfl⟩, rfl, Nat.le_refl _, .inl rfl⟩
theorem index_any (A : Option Addr) (ks : List ByteArray) (c : Nat) (key : ByteArray) (w : World) (h : Strs w A ks) (hk : ks.length ≤ 4194304) :
    Calls Tryd.prog 31 #[.slice A ks.length c, .string key] w fun e w' => e = .returned (.int .i64 (match findK key ks with | some j => (j : Int) | none => -1)) ∧ w' = w := by
  have hidx : Lib.idxOfS ks key = (match findK key ks with | some j => (j : Int) | none => -1) := by
    rcases hf : findK key ks with _ | j
    · have := Lib.idxOfS_miss ks ks.length key (findK_none hf)
      rwa [List.take_length] at this
    · obtain ⟨h1, h2, h3⟩ := findK_some hf
      have := Lib.idxOfS_hit ks ks.length j key h1 (Nat.le_refl _) h2 h3
      rwa [List.take_length] at this
  rw [← hidx]
  rcases h with h | ⟨g, o, rfl, hg, h⟩
  · subst h
    exact Tryd.slices_Index_string_empty A c key w
  · have := Tryd.slices_Index_string g o ks.length c ks key w (Nat.le_refl _) (by omega) fun j hj => by
      rw [h j hj, List.getD_eq_getElem?_getD, List.getElem?_eq_getElem hj]
      rfl
    rwa [List.take_length] at this

theorem Copied.hp0 {w w' : World} {v : V} {y : X} {T : Ty} {K : Ky} (h : Copied w w' v y T K) : Heap w' 0 w.heap.size T K := by
  refine ⟨Nat.zero_le _, fun n l hn => ?_, h.hp.k⟩
  obtain ⟨e1, e2, e3, _⟩ := h.hp.t n l hn
  refine ⟨e1, e2, e3, fun i hi => ?_⟩
  obtain ⟨z, z1, z2⟩ := h.done n l hn i hi
  exact ⟨z, z1, .inr z2⟩
theorem Heap.high {w : World} {hi : Nat} {T : Ty} {K : Ky} (h : Heap w 0 hi T K) : ∀ k, FT 0 T K k → hi ≤ k := by
  rintro k (hk | hk | hk)
  · omega
  · obtain ⟨l, hl⟩ := Option.ne_none_iff_exists'.1 hk
    exact (h.t k l hl).1
  · obtain ⟨l, hl⟩ := Option.ne_none_iff_exists'.1 hk
    exact (h.k k l hl).1
/-- a copy still reads as it did where its own blocks are as they were -/
theorem Copied.is_fr {w w' w'' : World} {v : V} {y : X} {T : Ty} {K : Ky} (h : Copied w w' v y T K) (hfr : Fr (fun k => w.heap.size ≤ k) w' w'') : Is w'' v y :=
  (h.hp0.fr (hfr.mono fun k hk => h.hp0.high k hk)).read (Nat.zero_le _) _ _ (.inr h.own)

set_option maxRecDepth 8000 in
set_option maxHeartbeats 1000000 in
theorem get_any2 (v : V) (x : X) (key : ByteArray) (w : World) (h : Is w v x) (hbk : v.bulk ≤ 4194304) :
    Calls Tryd.prog 13 #[x.v, .string key] w fun e w' => ∃ y, e = .returned (.tuple #[y.v, .bool (got v key).isSome]) ∧ (∀ w'', Fr (fun k => w.heap.size ≤ k) w' w'' → Is w'' ((got v key).getD zeroV) y) ∧ Below w.heap.size w w' := by
  have hkl : v.ks.length ≤ 4194304 := by
    have h1 := length_le_keysBulk v.ks
    obtain ⟨_, _, _, _, _⟩ := v
    simp only [V.bulk, V.ks] at *
    omega
  have hll : v.l.length ≤ 4194304 := by
    have h1 := length_le_bulks v.l
    obtain ⟨_, _, _, _, _⟩ := v
    simp only [V.bulk, V.l] at *
    omega
  obtain ⟨ka, kc, la, lc, rfl, h1, h2, h3, h4⟩ := h.open
  have HI := Lib.hid fun w' (hb : Below w.heap.size w w') => index_any ka v.ks kc key w' (h3.below hb) hkl
  have HG : Hid (got v key = (findK key v.ks).bind fun j => v.l[j]?) := Lib.hid rfl
  have HR := Lib.hid h4
  clear h3 h4 h
  simp only [X.v]
  go_enter Tryd.func13, Tryd.ntmps13
  go_wp2_with fail
  refine (HI.out _ ((below_alloc w _).trans ((below_alloc _ _).mono (by simp)))).mono ?_
  rintro e w1 ⟨rfl, rfl⟩
  rcases hf : findK key v.ks with _ | j
  · have HG2 : Hid (got v key = none) := by
      show got v key = none
      rw [HG.out, hf]
      rfl
    clear HG
    go_wp2_with fail
    (try simp only [Exit.inBlock, Exit.then])
    refine bodyPost_ret (v := .tuple #[.agg #[.int .i64 0, .int .i64 0, .string ⟨#[]⟩, .slice none 0 0, .slice none 0 0], .bool false]) ?_ rfl ⟨⟨0, 0, ⟨#[]⟩, none, 0, 0, none, 0, 0⟩, by rw [HG2.out]; rfl, by rw [HG2.out]; exact fun _ _ => zero_is _, ?_⟩
    · rw [results_cell_tmp rfl]
      go_simp
    · repeat' (first | exact Below.refl _ _ | refine Below.alloc ?_ (by simp) _ | refine Below.setCell ?_ (by show w.heap.size ≤ w.heap.size + 1; omega) _)
  · by_cases hj : j < v.l.length
    · have HG2 : Hid (got v key = some v.l[j]) := by
        show got v key = _
        rw [HG.out, hf]
        exact List.getElem?_eq_getElem hj
      obtain ⟨g, o, rfl, hg, y, hy, hiy⟩ := HR.out.at_ hj
      have HY := Lib.hid hiy
      have hbj := Nat.le_trans (bulk_le_of_mem (List.getElem_mem hj)) (Nat.le_trans (show V.bulks v.l ≤ v.bulk by cases v; simp only [V.bulk, V.l]; omega) hbk)
      have HC := Lib.hid fun w' (hb : Below w.heap.size w w') => copy_any v.l[j] y w' (Is.below hb _ _ hiy) hbj
      obtain ⟨c0, c1, c2, c3, c4⟩ := hy
      obtain ⟨yk, yn, yS, yka, ykn, ykc, yla, yln, ylc⟩ := y
      simp only [X.v] at *
      clear HG hiy HI HR
      generalize v.l[j] = u at *
      go_wp2_with fail
      refine (HC.out _ ((below_alloc w _).trans ((below_alloc _ _).mono (by simp)))).mono ?_
      rintro e w2 ⟨z, T, K, rfl, hcp⟩
      have hb2 : Below w.heap.size w w2 := ((below_alloc w _).trans ((below_alloc _ _).mono (by simp))).trans (hcp.bel.mono (by simp; omega))
      have hh : w2.heap[w.heap.size + 1]? = some zrow := by
        rw [hcp.bel.block _ (by simp)]
        exact hp_new (by simp)
      have hsz : w.heap.size + 1 < w2.heap.size := (Array.getElem?_eq_some_iff.1 hh).1
      unfold zrow at hh
      have e0 : w2.cell? ⟨w.heap.size + 1, 0, none⟩ = some (.int .i64 0) := by rw [cell_of_row w2 (w.heap.size + 1) 0 _ _ _ hh]; rfl
      have e1 : w2.cell? ⟨w.heap.size + 1, 1, none⟩ = some (.int .i64 0) := by rw [cell_of_row w2 (w.heap.size + 1) 1 _ _ _ hh]; rfl
      have e2 : w2.cell? ⟨w.heap.size + 1, 2, none⟩ = some (.string ⟨#[]⟩) := by rw [cell_of_row w2 (w.heap.size + 1) 2 _ _ _ hh]; rfl
      have e3 : w2.cell? ⟨w.heap.size + 1, 3, none⟩ = some (.slice none 0 0) := by rw [cell_of_row w2 (w.heap.size + 1) 3 _ _ _ hh]; rfl
      have e4 : w2.cell? ⟨w.heap.size + 1, 4, none⟩ = some (.slice none 0 0) := by rw [cell_of_row w2 (w.heap.size + 1) 4 _ _ _ hh]; rfl
      have q0 : ∀ o, w2.frozen? ⟨w.heap.size + 1, o, none⟩ = false := fun o => by simp [World.frozen?, hh]
      have f0 := q0 0
      have f1 := q0 1
      have f2 := q0 2
      have f3 := q0 3
      have f4 := q0 4
      have HCP := Lib.hid hcp
      have hh' := Lib.hid hh
      have HB2 := Lib.hid hb2
      obtain ⟨zk, zn, zS, zka, zkn, zkc, zla, zln, zlc⟩ := z
      simp only
      clear hcp hb2 hh q0 c0 c1 c2 c3 c4
      go_wp2_with fail
      (try simp only [Exit.inBlock, Exit.then])
      refine bodyPost_ret (v := .tuple #[.agg #[.int .i64 zk, .int .i64 zn, .string zS, .slice zka zkn zkc, .slice zla zln zlc], .bool true]) ?_ rfl ⟨⟨zk, zn, zS, zka, zkn, zkc, zla, zln, zlc⟩, by rw [HG2.out]; rfl, ?_, ?_⟩
      · rw [results_cell_tmp rfl]
        go_simp
      · rw [HG2.out]
        rw [← put5_lit]
        intro w3 hw3
        have hq := (below_alloc w (.cells #[.int .i64 v.k, .int .i64 v.n, .string v.s, .slice ka v.ks.length kc, .slice (some ⟨g, o, none⟩) v.l.length lc] 25)).size
        exact HCP.out.is_fr (((put5_fr w2 (w.heap.size + 1) 0 _).mono fun k hk => by
          simp at hk
          show k ≠ w.heap.size + 1
          omega).trans (hw3.mono fun k hk => by simp at hk; omega))
      · repeat' (first | exact HB2.out | refine Below.setCell ?_ (by show w.heap.size ≤ w.heap.size + 1; omega) _)
    · have HG2 : Hid (got v key = none) := by
        show got v key = none
        rw [HG.out, hf]
        exact List.getElem?_eq_none (by omega)
      clear HG
      go_wp2_with fail
      (try simp only [Exit.inBlock, Exit.then])
      refine bodyPost_ret (v := .tuple #[.agg #[.int .i64 0, .int .i64 0, .string ⟨#[]⟩, .slice none 0 0, .slice none 0 0], .bool false]) ?_ rfl ⟨⟨0, 0, ⟨#[]⟩, none, 0, 0, none, 0, 0⟩, by rw [HG2.out]; rfl, by rw [HG2.out]; exact fun _ _ => zero_is _, ?_⟩
      · rw [results_cell_tmp rfl]
        go_simp
      · repeat' (first | exact Below.refl _ _ | refine Below.alloc ?_ (by simp) _ | refine Below.setCell ?_ (by show w.heap.size ≤ w.heap.size + 1; omega) _)
theorem get_any (v : V) (x : X) (key : ByteArray) (w : World) (h : Is w v x) (hbk : v.bulk ≤ 4194304) :
    Calls Tryd.prog 13 #[x.v, .string key] w fun e w' => ∃ y, e = .returned (.tuple #[y.v, .bool (got v key).isSome]) ∧ Is w' ((got v key).getD zeroV) y ∧ Below w.heap.size w w' :=
  (get_any2 v x key w h hbk).mono fun _ w' ⟨y, h1, h2, h3⟩ => ⟨y, h1, h2 w' (Fr.refl _ _), h3⟩
end Go.Proofs.YtnjcofjphneccaaDoor
