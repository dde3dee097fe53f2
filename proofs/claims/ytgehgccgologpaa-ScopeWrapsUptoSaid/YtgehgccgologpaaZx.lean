/-
  What wraps a node; trees with a name in them, in plain Lean.
-/
import Derived.Test.YtgehgccgologpaaZt
namespace Go.Proofs.Ytgehgccgologpaa.Z
open Go.RowKit Go.Shelf Go.Proofs.Ytgehgccgologpaa Go.Proofs.Ytgehgccgologpaa.R Go.Proofs.Ytgehgccgologpaa.T

abbrev n0 : ByteArray := ⟨#[]⟩
abbrev prg (v : V) : V := kidsV 41 n0 [v]
abbrev blk (v : V) : V := kidsV 25 n0 [v]
abbrev lop (v : V) : V := kidsV 27 n0 [leaf 5 n0 0, blk v]
abbrev fnc (v : V) : V := kidsV 24 n0 [kidsV 10 n0 [v]]
abbrev lab (s : ByteArray) (v : V) : V := kidsV 38 s [v]
abbrev brk (s : ByteArray) : V := leaf 31 s 0
abbrev con (s : ByteArray) : V := leaf 32 s 0
theorem wr_1 : chs (prg (lop (brk n0))) = 0 := by decide +kernel
theorem wr_2 : chs (prg (lop (con n0))) = 0 := by decide +kernel
theorem wr_3 : chs (prg (brk n0)) = 90 := by decide +kernel
theorem wr_4 : chs (prg (con n0)) = 90 := by decide +kernel
theorem wr_5 : chs (prg (fnc (leaf 33 n0 0))) = 0 := by decide +kernel
theorem wr_6 : chs (prg (lop (leaf 33 n0 0))) = 90 := by decide +kernel
theorem wr_7 : chs (prg (lop (fnc (brk n0)))) = 90 := by decide +kernel
theorem nm_of {s : ByteArray} (h : (prg (brk s)).chk = 0) (hs : ¬ s.size = 0) : isNm s = true := by
  unfold V.chk at h
  split at h
  · rename_i h1
    have h2 := h1.2
    simp [V.ok, V.oks, right, fields, nmOk, numOk, txOk, nsOk, kids, hs, V.k, V.nm, V.n, V.s, V.ks, V.l, isSt] at h2
    exact h2.2.1
  · exact absurd h (by decide)
section
variable {s : ByteArray} (h : isNm s = true) (hs : ¬ s.size = 0)
include h hs
theorem wr_8 : chs (prg (lab s (blk (brk s)))) = 0 := by
  have h0 : n0 = ByteArray.empty := rfl
  have e : (prg (lab s (blk (brk s)))).chk = 0 := by
    simp [V.chk, V.ok, V.oks, right, fields, nmOk, numOk, txOk, nsOk, kids, h, h0, V.k, V.nm, V.n, V.s, V.ks, V.l, isSt, isIn, are, V.deep, V.deeps]
  have h1 : ¬ s = ByteArray.empty := fun e => hs (by rw [e]; rfl)
  have e2 : early (prg (lab s (blk (brk s)))) = false := by
    simp [early, earlyF, V.size, V.sizes, bads, fnsP, wi, wiV, badN, wrong, astray, V.k, V.nm, V.ks, V.l, isFn, isLp, isLb, h1, bar, dup]
  unfold chs
  rw [if_pos e, e2]
  rfl
theorem wr_9 : chs (prg (lab s (blk (con s)))) = 90 := by
  have h0 : n0 = ByteArray.empty := rfl
  have e : (prg (lab s (blk (con s)))).chk = 0 := by
    simp [V.chk, V.ok, V.oks, right, fields, nmOk, numOk, txOk, nsOk, kids, h, h0, V.k, V.nm, V.n, V.s, V.ks, V.l, isSt, isIn, are, V.deep, V.deeps]
  have h1 : ¬ s = ByteArray.empty := fun e => hs (by rw [e]; rfl)
  have e2 : early (prg (lab s (blk (con s)))) = true := by
    simp [early, earlyF, V.size, V.sizes, bads, fnsP, wi, wiV, badN, wrong, astray, V.k, V.nm, V.ks, V.l, isFn, isLp, isLb, lbl, h1, bar, dup]
  unfold chs
  rw [if_pos e, e2]
  rfl
theorem wr_10 : chs (prg (lab s (lop (con s)))) = 0 := by
  have h0 : n0 = ByteArray.empty := rfl
  have e : (prg (lab s (lop (con s)))).chk = 0 := by
    simp [V.chk, V.ok, V.oks, right, fields, nmOk, numOk, txOk, nsOk, kids, h, h0, V.k, V.nm, V.n, V.s, V.ks, V.l, isSt, isIn, isE, isK, are, V.deep, V.deeps]
  have h1 : ¬ s = ByteArray.empty := fun e => hs (by rw [e]; rfl)
  have e2 : early (prg (lab s (lop (con s)))) = false := by
    simp [early, earlyF, V.size, V.sizes, bads, fnsP, wi, wiV, badN, wrong, astray, V.k, V.nm, V.ks, V.l, isFn, isLp, isLb, lbl, h1, bar, dup]
  unfold chs
  rw [if_pos e, e2]
  rfl
theorem wr_11 : chs (prg (lop (brk s))) = 90 := by
  have h0 : n0 = ByteArray.empty := rfl
  have e : (prg (lop (brk s))).chk = 0 := by
    simp [V.chk, V.ok, V.oks, right, fields, nmOk, numOk, txOk, nsOk, kids, h, h0, V.k, V.nm, V.n, V.s, V.ks, V.l, isSt, isIn, isE, isK, are, V.deep, V.deeps]
  have h1 : ¬ s = ByteArray.empty := fun e => hs (by rw [e]; rfl)
  have e2 : early (prg (lop (brk s))) = true := by
    simp [early, earlyF, V.size, V.sizes, bads, fnsP, wi, wiV, badN, wrong, astray, V.k, V.nm, V.ks, V.l, isFn, isLp, isLb, h1, bar, dup]
  unfold chs
  rw [if_pos e, e2]
  rfl
theorem wr_12 : chs (prg (lab s (lab s (brk n0)))) = 90 := by
  have h0 : n0 = ByteArray.empty := rfl
  have e : (prg (lab s (lab s (brk n0)))).chk = 0 := by
    simp [V.chk, V.ok, V.oks, right, fields, nmOk, numOk, txOk, nsOk, kids, h, h0, V.k, V.nm, V.n, V.s, V.ks, V.l, isSt, isIn, are, V.deep, V.deeps]
  have h1 : ¬ s = ByteArray.empty := fun e => hs (by rw [e]; rfl)
  have e2 : early (prg (lab s (lab s (brk n0)))) = true := by
    simp [early, earlyF, V.size, V.sizes, bads, fnsP, wi, wiV, badN, wrong, astray, V.k, V.nm, V.ks, V.l, isFn, isLp, isLS, isLb, bar, dup]
  unfold chs
  rw [if_pos e, e2]
  rfl
theorem wr_13 : chs (prg (lab s (fnc (brk s)))) = 90 := by
  have h0 : n0 = ByteArray.empty := rfl
  have e : (prg (lab s (fnc (brk s)))).chk = 0 := by
    simp [V.chk, V.ok, V.oks, right, fields, nmOk, numOk, txOk, nsOk, kids, h, h0, V.k, V.nm, V.n, V.s, V.ks, V.l, isSt, isIn, isE, are, V.deep, V.deeps]
  have h1 : ¬ s = ByteArray.empty := fun e => hs (by rw [e]; rfl)
  have e2 : early (prg (lab s (fnc (brk s)))) = true := by
    simp [early, earlyF, V.size, V.sizes, bads, fnsP, wi, wiV, badN, wrong, astray, V.k, V.nm, V.ks, V.l, isFn, isLp, h1, bar, dup]
  unfold chs
  rw [if_pos e, e2]
  rfl
end
end Go.Proofs.Ytgehgccgologpaa.Z
