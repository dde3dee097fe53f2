/-
  distinct, by contract: a set of keys.
-/
import Derived.Test.YtnjcofjphneccaaDoorMem
import Derived.Test.YtnjcofjphneccaaDoorSpec
import Derived.Maps.OwnSet
namespace Go.Proofs.YtnjcofjphneccaaDoor
open Go.RowKit Go.Maps Go.WideMaps

def keyL (s : ByteArray) : Lit := .string s.data.toList
theorem keyL_lit (s : ByteArray) : WideAt.IsKeyLit (keyL s) := by
  unfold keyL
  trivial
theorem keyL_inj {a b : ByteArray} (h : keyL a = keyL b) : a = b := by
  unfold keyL at h
  injection h with h
  apply ByteArray.ext
  exact Array.toList_inj.1 h
theorem any_key (x : ByteArray) : ∀ L : List ByteArray, ((L.map keyL).any (fun y => y.sameKey (keyL x)) = true) ↔ x ∈ L
  | [] => by simp
  | y :: r => by
    have ih := any_key x r
    rw [List.map_cons, List.any_cons, Bool.or_eq_true, ih]
    by_cases h : x = y
    · subst h
      rw [WideAt.sameKey_self (keyL_lit x)]
      simp
    · rw [sameKey_ne (fun e => h (keyL_inj e).symm)]
      simp [h]
theorem fold_keys : ∀ (xs L : List ByteArray), ∃ M : List ByteArray, (xs.map keyL).foldl addKey (L.map keyL) = M.map keyL ∧ M.length ≤ L.length + xs.length ∧ (L.Nodup → (M.length = L.length + xs.length ↔ (L ++ xs).Nodup))
  | [], L => ⟨L, rfl, by simp, fun h => by simpa using h⟩
  | x :: r, L => by
    rw [List.map_cons, List.foldl_cons]
    unfold addKey
    by_cases h : x ∈ L
    · obtain ⟨M, h1, h2, h3⟩ := fold_keys r L
      refine ⟨M, ?_, by simp; omega, fun hn => ?_⟩
      · rw [if_pos ((any_key x L).2 h)]
        exact h1
      · constructor
        · intro e
          simp at e
          omega
        · intro e
          exact absurd rfl ((List.nodup_append.1 e).2.2 x h x (by simp))
    · obtain ⟨M, h1, h2, h3⟩ := fold_keys r (L ++ [x])
      refine ⟨M, ?_, by simp at h2; simp; omega, fun hn => ?_⟩
      · rw [if_neg (fun e => h ((any_key x L).1 e)), ← h1, List.map_append]
        rfl
      · have hn2 : (L ++ [x]).Nodup := List.nodup_append.2 ⟨hn, by simp, fun a ha b hb e => by simp at hb; subst hb; subst e; exact h ha⟩
        have := h3 hn2
        rw [List.append_assoc, List.singleton_append] at this
        rw [← this]
        simp
        omega
/-- the set of the first k keys -/
def Sn (ks : List ByteArray) (k : Nat) : DataW Unit := setOf (.agg []) ((ks.take k).map keyL)
theorem Sn_succ (ks : List ByteArray) (k : Nat) (hk : k < ks.length) : Sn ks (k + 1) = (Sn ks k).put (keyL ks[k]) (.agg []) := by
  unfold Sn
  rw [snoc_get _ _ hk, List.map_append, List.map_singleton, setOf_snoc]
theorem Sn_zero (ks : List ByteArray) : Sn ks 0 = .map [] := rfl
theorem Sn_size (ks : List ByteArray) : (Maps.size (Sn ks ks.length) = ks.length) ↔ ks.Nodup := by
  unfold Sn
  rw [List.take_length, size_setOf _ _ (fun x hx => by obtain ⟨y, _, rfl⟩ := List.mem_map.1 hx; exact keyL_lit y)]
  obtain ⟨M, h1, h2, h3⟩ := fold_keys ks []
  have h4 := h3 List.nodup_nil
  rw [List.map_nil] at h1
  rw [h1, List.length_map]
  simpa using h4
theorem law9 : Keyed Tryd.prog 9 := string_keyed Tryd.underlying9

theorem makeMap_hint (w : World) (n : Int) : (Instr.makeMap 65 (some (.int .i64 n))).run Tryd.prog w = .ok (.map (some w.heap.size)) (w.alloc (.map #[] 0)) := by
  simp [Instr.makeMap, run_underlying Tryd.underlying65, asInt, Result.andThen]
  rfl

set_option maxRecDepth 100000 in
set_option maxHeartbeats 1000000 in
theorem distinct_any (A : Option Addr) (ks : List ByteArray) (c : Nat) (w : World) (h : Strs w A ks) (hb : keysBulk ks ≤ 4194304) :
    Calls Tryd.prog 40 #[.slice A ks.length c] w fun e w' => e = .returned (.bool (decide (okKeys ks))) ∧ Below w.heap.size w w' := by
  have hlen := length_le_keysBulk ks
  have hmm := makeMap_hint
  have HS := Lib.hid (Sn_size ks)
  go_enter Tryd.func40, Tryd.ntmps40
  go_wp2_with fail
  go_loopw [11] (fun i wr => ∃ k : Nat, k ≤ ks.length ∧ i = .int .i64 k ∧ wr.ownsMap Tryd.prog 9 unitElem w.heap.size k (Sn ks k) ∧ Below w.heap.size w wr ∧ Hid (∀ x ∈ ks.take k, x.size % 2 = 0))
    (fun i _ => ks.length - (intOf i).toNat)
  case atStart => exact ⟨0, Nat.zero_le _, rfl, by rw [Sn_zero]; exact World.ownsMap_made _ _ _ _, (Below.refl _ _).alloc (Nat.le_refl _) _, fun x hx => by simp at hx⟩
  case round =>
    obtain ⟨k, hk, rfl, hown, hnx, hev⟩ := hrel
    by_cases hlt : k < ks.length
    · obtain ⟨g, o, rfl, hg, hc⟩ := h.at_ hlt
      have hcx : wr.cell? ⟨g, o + k, none⟩ = some (.string ks[k]) := (hnx.cell (p := ⟨g, o + k, none⟩) hg).trans hc
      have hm := key_le_keysBulk (List.getElem_mem hlt)
      have hcr := Lib.hid fun w => check_any ks[k] w (by unfold maxLen; omega)
      have hkey : keyOf Tryd.prog 9 (.string ks[k]) = some (keyL ks[k]) := keyOf_string_mk Tryd.underlying9 (by unfold maxLen; omega)
      have HSn := Lib.hid (Sn_succ ks k hlt)
      have HT := Lib.hid (snoc_get ks k hlt)
      have hmem := List.getElem_mem hlt
      clear hc
      by_cases he : ks[k].size % 2 = 0
      · rw [decide_eq_true he] at hcr
        have HE : Hid (∀ x ∈ ks.take (k + 1), x.size % 2 = 0) := by
          intro x hx
          rw [HT.out, List.mem_append, List.mem_singleton] at hx
          rcases hx with hx | rfl
          · exact hev.out x hx
          · exact he
        generalize ks[k] = y at *
        clear he
        go_wp2_with (first
          | (go_at_call 39; refine (hcr.out _).mono ?_; rintro e w' ⟨rfl, rfl⟩)
          | (at_mapUpdate; refine wpList_mapUpdate_own _ rfl _ _ _ 65 rfl 9 66 law9 Tryd.underlying65 unitElem w.heap.size k _ rfl hown (by unfold maxLen; omega) _ _ _ rfl rfl hkey _ [] unitElem_mk ?_; intro w1 hown1 hgrow1))
        go_roundw
        case rel => exact ⟨k + 1, by omega, by go_num, HSn.out.symm ▸ hown1, hnx.grown hgrow1 hnx.size (fun j hj => by cases hj; exact Nat.le_refl _), HE.out⟩
        case measure => simp [intOf]; omega
      · rw [decide_eq_false he] at hcr
        have HV : Hid (decide (okKeys ks) = false) := by
          show decide (okKeys ks) = false
          exact decide_eq_false fun h => he (h.1 _ hmem)
        generalize ks[k] = y at *
        go_wp2_with (go_at_call 39; refine (hcr.out _).mono ?_; rintro e w' ⟨rfl, rfl⟩)
        go_ret
        exact ⟨by rw [HV.out]; rfl, hnx⟩
    · obtain rfl : k = ks.length := by omega
      have HV : Hid (decide (okKeys ks) = ((Maps.size (Sn ks ks.length) : Int) == (ks.length : Int))) := by
        show decide (okKeys ks) = _
        rw [Bool.eq_iff_iff]
        simp only [decide_eq_true_eq, beq_iff_eq]
        constructor
        · intro h
          have := HS.out.2 h.2
          omega
        · intro h
          refine ⟨fun x hx => hev.out x (by rw [List.take_length]; exact hx), HS.out.1 (by omega)⟩
      go_wp2_with (at_len; refine wpList_len_own _ rfl _ 65 rfl 9 66 Tryd.underlying65 _ w.heap.size _ _ rfl hown ?_)
      go_ret
      exact ⟨by rw [HV.out]; rfl, hnx⟩
end Go.Proofs.YtnjcofjphneccaaDoor
