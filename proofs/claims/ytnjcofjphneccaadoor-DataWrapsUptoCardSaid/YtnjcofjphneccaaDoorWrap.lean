/-
  PLAIN: a List of one value.
-/
import Derived.Test.YtnjcofjphneccaaDoorText
namespace Go.Proofs.YtnjcofjphneccaaDoor
open Go.RowKit

def wrap (v : V) : V := .mk 5 0 ⟨#[]⟩ [] [v]
theorem wrap_size (v : V) : (wrap v).size = v.size + 1 := by
  simp only [wrap, V.size, V.sizes]
  omega
theorem wrap_bulk (v : V) : (wrap v).bulk = v.bulk + 1 := by
  simp only [wrap, V.bulk, V.bulks, keysBulk]
  rw [show (⟨#[]⟩ : ByteArray).size = 0 from rfl]
  omega
theorem wrap_deep (v : V) : (wrap v).deep = v.deep + 1 := by
  simp only [wrap, V.deep, V.deeps]
  omega
theorem wrap_may (v : V) : (wrap v).may = v.may := by
  simp only [wrap, V.may, V.mays]
  have : V.own (.mk 5 0 ⟨#[]⟩ [] [v]) = true := by rfl
  simp [this]
theorem wrap_chk (v : V) : (v.chk ≠ 0 → (wrap v).chk = v.chk) ∧ (v.chk = 0 → (wrap v).chk = 0 ∨ (wrap v).chk = 31) := by
  unfold V.chk
  rw [wrap_may, wrap_deep]
  cases v.may
  · simp
  · simp only [if_true]
    constructor
    · intro h
      split at h
      · rw [if_pos (by omega), if_pos (by assumption)]
      · exact absurd rfl h
    · intro _
      split
      · exact .inr rfl
      · exact .inl rfl
theorem wrap_out (v : V) (h : v.chk = 0) (h' : (wrap v).chk = 0) : (wrap v).out = 91 :: (v.out ++ [93]) := by
  unfold V.out
  rw [if_pos h, if_pos h']
  simp [wrap, V.tx, V.txs, joinC]
end Go.Proofs.YtnjcofjphneccaaDoor
