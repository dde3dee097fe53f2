/-
 THE RING: a property more, one fewer.
 What a map finds, what stands at an index: a property more, one fewer.
 WHAT A CHANGE OF ONE OBJECT LEAVES; append, by contract.
-/
import Derived.Test.YtcahijpbkjplmaaGreatDoorMZ0
import Derived.Test.YtcahijpbkjplmaaGreatDoorMHf
import Derived.Test.YtcahijpbkjplmaaGreatDoorMPc
import Derived.Lib.MinMax
set_option linter.unusedSimpArgs false
namespace Go.Proofs.YtcahijpbkjplmaaGreatDoor.G
open Go.RowKit Go.Maps Go.Proofs.YtcahijpbkjplmaaGreatDoor
structure Ring (w : World) (i : Nat) (pp : Value) (x : OL) (o : Ob) : Prop where
 ob : Blk w x.b 84 (objC i o pp x)
 pl : x.pb.length = o.ps.length
 pr : ∀ j (h : j < x.pb.length) (h2 : j < o.ps.length), Blk w x.pb[j] 81 (propC o.ps[j] (av (nd x.b x.pb j)) (av (nd x.b x.pb (j + 2))))
 nod : x.pb.Nodup
theorem ObjAt.ring {w : World} {ow : Nat → Option Nat} {i n : Nat} {pp : Value} {x : OL} {o : Ob} (h : ObjAt w ow i n pp x o) : Ring w i pp x o := ⟨h.ob, h.pl, h.pr, h.nod⟩
section
variable {w w' : World} {i : Nat} {pp : Value} {x : OL} {o : Ob}
theorem Ring.fr (h : Ring w i pp x o) (hb : w'.heap[x.b]? = w.heap[x.b]?) (hp : ∀ b ∈ x.pb, w'.heap[b]? = w.heap[b]?) : Ring w' i pp x o :=
 ⟨h.ob.fr hb, h.pl, fun j a b => (h.pr j a b).fr (hp _ (List.getElem_mem a)), h.nod⟩
theorem Ring.ne (h : Ring w i pp x o) {b : Nat} (hb : b ∈ x.pb) : b ≠ x.b := by
 obtain ⟨j, hj, rfl⟩ := List.getElem_of_mem hb
 exact (h.pr j hj (by rw [← h.pl]; exact hj)).ne h.ob (by decide)
theorem propC_behind (p : Pr) (a b c : Value) : (propC p a b).set 8 c = propC p a c := rfl
theorem propC_ahead (p : Pr) (a b c : Value) : (propC p a b).set 7 c = propC p c b := rfl
theorem nd_snoc {b B : Nat} {pb : List Nat} {j : Nat} (h : j ≤ pb.length) : nd b (pb ++ [B]) j = nd b pb j := by
 cases j with
 | zero => rfl
 | succ j =>
  rw [nd_of (show j < (pb ++ [B]).length by simp; omega), nd_of (show j < pb.length by omega), List.getElem_append_left (by omega)]
theorem nd_new {b B : Nat} {pb : List Nat} : nd b (pb ++ [B]) (pb.length + 1) = ⟨B, 0, none⟩ := by
 rw [nd_of (show pb.length < (pb ++ [B]).length by simp), List.getElem_append_right (Nat.le_refl _)]
 simp
theorem nd_last {b B : Nat} {pb : List Nat} : nd b (pb ++ [B]) (pb.length + 2) = ⟨b, 5, none⟩ := nd_end (by simp)
theorem Ring.snoc (h : Ring w i pp x o) {B : Nat} {p : Pr} (hB : Blk w B 81 (propC p (av (nd x.b x.pb x.pb.length)) (av ⟨x.b, 5, none⟩))) (hn : B ∉ x.pb) :
  Ring ((w.setCell ⟨(nd x.b x.pb x.pb.length).block, (nd x.b x.pb x.pb.length).off + 8, none⟩ (pv B)).setCell ⟨x.b, 12, none⟩ (pv B)) i pp { x with pb := x.pb ++ [B] } { o with ps := o.ps ++ [p] } := by
 have hbb := hB.ne h.ob (by decide)
 have hlen := h.pl
 have hfirst : ∀ {j}, 1 ≤ j → j ≤ x.pb.length → nd x.b (x.pb ++ [B]) j = nd x.b x.pb j := fun _ h2 => nd_snoc h2
 refine ⟨?_, by simp [hlen], fun j a b => ?_, ?_⟩
 ·show Blk _ x.b _ (objC i { o with ps := o.ps ++ [p] } pp { x with pb := x.pb ++ [B] })
  rcases Nat.eq_zero_or_pos x.pb.length with h0 | h0
  ·have e : x.pb = [] := List.eq_nil_of_length_eq_zero h0
   have h1 := (h.ob.set 13 (pv B)).set 12 (pv B)
   rw [h0]
   have e2 : objC i { o with ps := o.ps ++ [p] } pp { x with pb := x.pb ++ [B] } = ((objC i o pp x).set 13 (pv B)).set 12 (pv B) := by
    unfold objC
    rw [e]
    rfl
   rw [e2]
   exact h1
  ·obtain ⟨k, hk⟩ : ∃ k, x.pb.length = k + 1 := ⟨x.pb.length - 1, by omega⟩
   have hkl : k < x.pb.length := by omega
   have h1 := (h.ob.other (p := ⟨x.pb[k], 8, none⟩) (Ne.symm (h.ne (List.getElem_mem hkl))) (pv B)).set 12 (pv B)
   have e1 : nd x.b x.pb x.pb.length = ⟨x.pb[k], 0, none⟩ := by
    conv => lhs; rw [show nd x.b x.pb x.pb.length = nd x.b x.pb (k + 1) by rw [hk]]
    exact nd_of hkl
   rw [e1]
   have e2 : objC i { o with ps := o.ps ++ [p] } pp { x with pb := x.pb ++ [B] } = (objC i o pp x).set 12 (pv B) := by
    unfold objC
    simp only [List.length_append, List.length_singleton, nd_new]
    rw [nd_snoc (show 1 ≤ x.pb.length by omega)]
    rfl
   rw [e2]
   exact h1
 ·have hj : j < x.pb.length + 1 := by simpa using a
  show Blk _ (x.pb ++ [B])[j] _ (propC (o.ps ++ [p])[j] (av (nd x.b (x.pb ++ [B]) j)) (av (nd x.b (x.pb ++ [B]) (j + 2))))
  by_cases hjl : j < x.pb.length
  ·have hop := h.pr j hjl (by omega)
   have hne := h.ne (List.getElem_mem hjl)
   rw [List.getElem_append_left hjl, List.getElem_append_left (by omega), nd_snoc (by omega)]
   by_cases hlast : j + 1 = x.pb.length
   ·have e1 : nd x.b x.pb x.pb.length = ⟨x.pb[j], 0, none⟩ := by
     conv => lhs; rw [show nd x.b x.pb x.pb.length = nd x.b x.pb (j + 1) by rw [hlast]]
     exact nd_of hjl
    rw [e1]
    have e2 : nd x.b (x.pb ++ [B]) (j + 2) = ⟨B, 0, none⟩ := by
     rw [show j + 2 = x.pb.length + 1 by omega]
     exact nd_new
    rw [e2, ← propC_behind o.ps[j] _ (av (nd x.b x.pb (j + 2)))]
    exact (hop.set 8 (pv B)).other (p := ⟨x.b, 12, none⟩) hne _
   ·rw [nd_snoc (show j + 2 ≤ x.pb.length by omega)]
    refine (hop.other ?_ _).other (p := ⟨x.b, 12, none⟩) hne _
    intro e
    have e : x.pb[j] = (nd x.b x.pb x.pb.length).block := e
    rcases Nat.eq_zero_or_pos x.pb.length with h0 | h0
    ·omega
    ·obtain ⟨k, hk⟩ : ∃ k, x.pb.length = k + 1 := ⟨x.pb.length - 1, by omega⟩
     have hkl : k < x.pb.length := by omega
     have e1 : nd x.b x.pb x.pb.length = ⟨x.pb[k], 0, none⟩ := by
      conv => lhs; rw [show nd x.b x.pb x.pb.length = nd x.b x.pb (k + 1) by rw [hk]]
      exact nd_of hkl
     rw [e1] at e
     have := (List.getElem_inj h.nod).1 e
     omega
  ·have hjj : j = x.pb.length := by omega
   subst hjj
   have e1 : (x.pb ++ [B])[x.pb.length]'(by simp) = B := by simp
   have e2 : (o.ps ++ [p])[x.pb.length]'(by simp [hlen]) = p := by
    rw [List.getElem_append_right (by omega)]
    simp [hlen]
   rw [e1, e2, nd_snoc (Nat.le_refl _), nd_last]
   refine (hB.other ?_ _).other (p := ⟨x.b, 12, none⟩) hbb _
   intro e
   have e : B = (nd x.b x.pb x.pb.length).block := e
   rcases Nat.eq_zero_or_pos x.pb.length with h0 | h0
   ·rw [h0] at e
    exact hbb e
   ·obtain ⟨k, hk⟩ : ∃ k, x.pb.length = k + 1 := ⟨x.pb.length - 1, by omega⟩
    have hkl : k < x.pb.length := by omega
    have e1 : nd x.b x.pb x.pb.length = ⟨x.pb[k], 0, none⟩ := by
     conv => lhs; rw [show nd x.b x.pb x.pb.length = nd x.b x.pb (k + 1) by rw [hk]]
     exact nd_of hkl
    rw [e1] at e
    exact hn (by rw [e]; exact List.getElem_mem hkl)
 ·show (x.pb ++ [B]).Nodup
  rw [List.nodup_append]
  exact ⟨h.nod, by simp, fun a ha b hb => by rw [List.mem_singleton.1 hb]; rintro rfl; exact hn ha⟩
theorem nd_erase {b : Nat} {pb : List Nat} {k j : Nat} (_ : k < pb.length) : nd b (pb.eraseIdx k) j = if j ≤ k then nd b pb j else nd b pb (j + 1) := by
 cases j with
 | zero => rfl
 | succ j =>
  simp only [nd, List.getElem?_eraseIdx]
  by_cases h : j < k
  ·rw [if_pos h, if_pos (by omega)]
  ·rw [if_neg h, if_neg (by omega)]
theorem Ring.erase (h : Ring w i pp x o) {k : Nat} (hk : k < x.pb.length) :
  Ring ((w.setCell ⟨(nd x.b x.pb k).block, (nd x.b x.pb k).off + 8, none⟩ (av (nd x.b x.pb (k + 2)))).setCell ⟨(nd x.b x.pb (k + 2)).block, (nd x.b x.pb (k + 2)).off + 7, none⟩ (av (nd x.b x.pb k))) i pp { x with pb := x.pb.eraseIdx k } { o with ps := o.ps.eraseIdx k } := by
 have hlen := h.pl
 have hko : k < o.ps.length := by omega
 -- a place of the ring is the object's own ends, or a property's
 have hnd : ∀ j, nd x.b x.pb j = ⟨x.b, 5, none⟩ ∧ (j = 0 ∨ x.pb.length < j) ∨ ∃ (q : Nat) (hq : q < x.pb.length), j = q + 1 ∧ nd x.b x.pb j = ⟨x.pb[q], 0, none⟩ := fun j => by
  cases j with
  | zero => exact .inl ⟨rfl, .inl rfl⟩
  | succ j =>
   rcases Nat.lt_or_ge j x.pb.length with h' | h'
   ·exact .inr ⟨j, h', rfl, nd_of h'⟩
   ·exact .inl ⟨nd_end h', .inr (by omega)⟩
 refine ⟨?_, ?_, fun j a b => ?_, h.nod.sublist (List.eraseIdx_sublist _ _)⟩
 ·show Blk _ x.b _ (objC i { o with ps := o.ps.eraseIdx k } pp { x with pb := x.pb.eraseIdx k })
  have hl1 : (x.pb.eraseIdx k).length = x.pb.length - 1 := List.length_eraseIdx_of_lt hk
  have e0 : objC i { o with ps := o.ps.eraseIdx k } pp { x with pb := x.pb.eraseIdx k } = ((objC i o pp x).set 13 (av (if 1 ≤ k then nd x.b x.pb 1 else nd x.b x.pb 2))).set 12 (av (if x.pb.length - 1 ≤ k then nd x.b x.pb (x.pb.length - 1) else nd x.b x.pb x.pb.length)) := by
   unfold objC
   simp only [hl1, nd_erase hk]
   by_cases h1 : x.pb.length - 1 ≤ k
   ·rw [if_pos h1, if_pos h1]
    rfl
   ·rw [if_neg h1, if_neg h1, show x.pb.length - 1 + 1 = x.pb.length by omega]
    rfl
  rw [e0]
  rcases hnd k with ⟨a1, a2⟩ | ⟨q, hq, a2, a1⟩
  ·have hk0 : k = 0 := by omega
   subst hk0
   rw [a1, if_neg (by omega)]
   rcases hnd 2 with ⟨c1, c2⟩ | ⟨r, hr, c2, c1⟩
   ·rw [c1, if_pos (by omega), show x.pb.length - 1 = 0 by omega]
    exact (h.ob.set 13 _).set 12 _
   ·rw [c1, if_neg (by omega)]
    have := (h.ob.set 13 (av ⟨x.pb[r], 0, none⟩)).other (p := ⟨x.pb[r], 0 + 7, none⟩) (Ne.symm (h.ne (List.getElem_mem hr))) (av ⟨x.b, 5, none⟩)
    exact this
  ·rw [a1, if_pos (by omega)]
   have h1 := h.ob.other (p := ⟨x.pb[q], 0 + 8, none⟩) (Ne.symm (h.ne (List.getElem_mem hq))) (av (nd x.b x.pb (k + 2)))
   rcases hnd (k + 2) with ⟨c1, c2⟩ | ⟨r, hr, c2, c1⟩
   ·rw [c1] at h1 ⊢
    rw [if_pos (by omega), show x.pb.length - 1 = k by omega, a1]
    exact h1.set 12 _
   ·rw [c1] at h1 ⊢
    rw [if_neg (by omega)]
    exact h1.other (p := ⟨x.pb[r], 0 + 7, none⟩) (Ne.symm (h.ne (List.getElem_mem hr))) _
 ·show (x.pb.eraseIdx k).length = (o.ps.eraseIdx k).length
  rw [List.length_eraseIdx_of_lt hk, List.length_eraseIdx_of_lt hko, hlen]
 ·have hl1 : (x.pb.eraseIdx k).length = x.pb.length - 1 := List.length_eraseIdx_of_lt hk
  have hj : j < x.pb.length - 1 := by rw [← hl1]; exact a
  show Blk _ (x.pb.eraseIdx k)[j] _ (propC (o.ps.eraseIdx k)[j] (av (nd x.b (x.pb.eraseIdx k) j)) (av (nd x.b (x.pb.eraseIdx k) (j + 2))))
  obtain ⟨q, hq, hqk, hqj, hqo⟩ : ∃ (q : Nat) (hq : q < x.pb.length), q ≠ k ∧ (q = if j < k then j else j + 1) ∧ (x.pb.eraseIdx k)[j] = x.pb[q] ∧ (o.ps.eraseIdx k)[j] = o.ps[q]'(by omega) := by
   by_cases hjk : j < k
   ·exact ⟨j, by omega, by omega, by rw [if_pos hjk], by rw [List.getElem_eraseIdx, dif_pos hjk], by rw [List.getElem_eraseIdx, dif_pos hjk]⟩
   ·exact ⟨j + 1, by omega, by omega, by rw [if_neg hjk], by rw [List.getElem_eraseIdx, dif_neg hjk], by rw [List.getElem_eraseIdx, dif_neg hjk]⟩
  rw [hqo.1, hqo.2, nd_erase hk, nd_erase hk]
  have hop := h.pr q hq (by omega)
  have hne := h.ne (List.getElem_mem hq)
  have hin : ∀ r (hr : r < x.pb.length), x.pb[q] = x.pb[r] ↔ q = r := fun r hr => List.getElem_inj h.nod
  -- the one ahead: its behind
  have s1 : Blk (w.setCell ⟨(nd x.b x.pb k).block, (nd x.b x.pb k).off + 8, none⟩ (av (nd x.b x.pb (k + 2)))) x.pb[q] 81 (propC (o.ps[q]'(by omega)) (av (nd x.b x.pb q)) (av (if q + 1 = k then nd x.b x.pb (k + 2) else nd x.b x.pb (q + 2)))) := by
   rcases hnd k with ⟨a1, a2⟩ | ⟨r, hr, a2, a1⟩
   ·rw [a1, if_neg (by omega)]
    exact hop.other hne _
   ·rw [a1]
    by_cases hrq : q = r
    ·subst hrq
     rw [if_pos (by omega)]
     exact hop.set 8 _
    ·rw [if_neg (by omega)]
     exact hop.other (fun e => hrq ((hin r hr).1 e)) _
  have s2 : Blk ((w.setCell ⟨(nd x.b x.pb k).block, (nd x.b x.pb k).off + 8, none⟩ (av (nd x.b x.pb (k + 2)))).setCell ⟨(nd x.b x.pb (k + 2)).block, (nd x.b x.pb (k + 2)).off + 7, none⟩ (av (nd x.b x.pb k))) x.pb[q] 81 (propC (o.ps[q]'(by omega)) (av (if q = k + 1 then nd x.b x.pb k else nd x.b x.pb q)) (av (if q + 1 = k then nd x.b x.pb (k + 2) else nd x.b x.pb (q + 2)))) := by
   rcases hnd (k + 2) with ⟨a1, a2⟩ | ⟨r, hr, a2, a1⟩
   ·rw [if_neg (by omega)]
    refine s1.other ?_ _
    rw [a1]
    exact hne
   ·by_cases hrq : q = r
    ·rw [a1] at s1
     rw [if_pos (by omega), a1]
     subst hrq
     have h7 := s1.set 7 (av (nd x.b x.pb k))
     rw [propC_ahead] at h7
     exact h7
    ·rw [if_neg (by omega)]
     refine s1.other ?_ _
     rw [a1]
     exact fun e => hrq ((hin r hr).1 e)
  have e1 : (if q = k + 1 then nd x.b x.pb k else nd x.b x.pb q) = (if j ≤ k then nd x.b x.pb j else nd x.b x.pb (j + 1)) := by
   rw [hqj]
   by_cases h1 : j < k
   ·rw [if_pos h1, if_neg (by omega), if_pos (by omega)]
   ·rw [if_neg h1]
    by_cases h2 : j = k
    ·subst h2
     rw [if_pos rfl, if_pos (Nat.le_refl _)]
    ·rw [if_neg (by omega), if_neg (by omega)]
  have e2 : (if q + 1 = k then nd x.b x.pb (k + 2) else nd x.b x.pb (q + 2)) = (if j + 2 ≤ k then nd x.b x.pb (j + 2) else nd x.b x.pb (j + 2 + 1)) := by
   rw [hqj]
   by_cases h1 : j < k
   ·rw [if_pos h1]
    by_cases h2 : j + 1 = k
    ·rw [if_pos h2, if_neg (by omega)]
     congr 1
     omega
    ·rw [if_neg h2, if_pos (by omega)]
   ·rw [if_neg h1, if_neg (by omega), if_neg (by omega)]
  rw [← e1, ← e2]
  exact s2
end
end Go.Proofs.YtcahijpbkjplmaaGreatDoor.G
namespace Go.Proofs.YtcahijpbkjplmaaGreatDoor.G
open Go.RowKit Go.Maps Go.Proofs.YtcahijpbkjplmaaGreatDoor
theorem fnd_cons (b : Nat) (pb : List Nat) (p : Pr) (ps : List Pr) (s : ByteArray) : fnd (b :: pb) (p :: ps) s = if p.key = s then pv b else fnd pb ps s := by
 unfold fnd
 rw [List.findIdx?_cons]
 unfold has
 by_cases h : p.key = s
 ·rw [if_pos h, if_pos (decide_eq_true h)]
  rfl
 ·rw [if_neg h, if_neg (by simpa using h)]
  show (match (List.findIdx? (fun p => decide (p.key = s)) ps).map (· + 1) with
   | some k => match (b :: pb)[k]? with
    | some b => pv b
    | none => .pointer none
   | none => .pointer none) = match List.findIdx? (fun p => decide (p.key = s)) ps with
   | some k => match pb[k]? with
    | some b => pv b
    | none => .pointer none
   | none => .pointer none
  cases List.findIdx? (fun p => decide (p.key = s)) ps with
  | none => rfl
  | some k => simp only [Option.map_some, List.getElem?_cons_succ]
theorem fnd_out : ∀ {pb : List Nat} {ps : List Pr} {s : ByteArray}, s ∉ ps.map (·.key) → fnd pb ps s = .pointer none := fun {pb ps s} h => by
 unfold fnd
 have : ps.findIdx? (has s) = none := by
  rw [List.findIdx?_eq_none_iff]
  intro p hp
  unfold has
  exact decide_eq_false fun e => h (e ▸ List.mem_map.2 ⟨p, hp, rfl⟩)
 rw [this]
theorem fnd_snoc : ∀ {pb : List Nat} {ps : List Pr} {B : Nat} {p : Pr} (s : ByteArray), pb.length = ps.length → p.key ∉ ps.map (·.key) → fnd (pb ++ [B]) (ps ++ [p]) s = if s = p.key then pv B else fnd pb ps s
 | [], [], B, p, s, _, _ => by
  show fnd (B :: []) (p :: []) s = _
  rw [fnd_cons]
  by_cases h : s = p.key
  ·rw [if_pos h.symm, if_pos h]
  ·rw [if_neg (fun e => h e.symm), if_neg h]
 | b :: pb, q :: ps, B, p, s, hl, hk => by
  rw [List.cons_append, List.cons_append, fnd_cons, fnd_cons, fnd_snoc s (by simpa using hl) (fun e => hk (by rw [List.map_cons]; exact List.mem_cons_of_mem _ e))]
  by_cases h : q.key = s
  ·rw [if_pos h, if_pos h, if_neg]
   rintro rfl
   exact hk (by rw [List.map_cons, h]; exact List.mem_cons_self)
  ·rw [if_neg h, if_neg h]
theorem fnd_erase : ∀ {pb : List Nat} {ps : List Pr} {k : Nat} {p : Pr} (s : ByteArray), pb.length = ps.length → (ps.map (·.key)).Nodup → ps[k]? = some p → fnd (pb.eraseIdx k) (ps.eraseIdx k) s = if s = p.key then .pointer none else fnd pb ps s
 | [], [], k, p, s, _, _, h => by simp at h
 | b :: pb, q :: ps, 0, p, s, hl, hn, h => by
  simp only [List.getElem?_cons_zero, Option.some.injEq] at h
  subst h
  rw [List.map_cons, List.nodup_cons] at hn
  rw [List.eraseIdx_cons_zero, List.eraseIdx_cons_zero, fnd_cons]
  by_cases h : s = q.key
  ·rw [if_pos h, h, fnd_out hn.1]
  ·rw [if_neg h, if_neg (fun e => h e.symm)]
 | b :: pb, q :: ps, k + 1, p, s, hl, hn, h => by
  rw [List.map_cons, List.nodup_cons] at hn
  have h : ps[k]? = some p := by simpa using h
  rw [List.eraseIdx_cons_succ, List.eraseIdx_cons_succ, fnd_cons, fnd_cons, fnd_erase s (by simpa using hl) hn.2 h]
  by_cases hq : q.key = s
  ·rw [if_pos hq, if_pos hq, if_neg]
   rintro rfl
   exact hn.1 (by rw [hq]; exact List.mem_map.2 ⟨p, List.mem_of_getElem? h, rfl⟩)
  ·rw [if_neg hq, if_neg hq]
theorem fnd_set {q : Pr} (s : ByteArray) : ∀ (ps : List Pr) (pb : List Nat) (k : Nat) (p : Pr), pb.length = ps.length → ps[k]? = some p → q.key = p.key → fnd pb (ps.set k q) s = fnd pb ps s := by
 intro ps
 induction ps with
 | nil => intro pb k p _ h; simp at h
 | cons a ps ih =>
  intro pb k p hl h hq
  cases pb with
  | nil => simp at hl
  | cons b pb =>
   cases k with
   | zero =>
    simp only [List.getElem?_cons_zero, Option.some.injEq] at h
    subst h
    rw [List.set_cons_zero, fnd_cons, fnd_cons, hq]
   | succ k => rw [List.set_cons_succ, fnd_cons, fnd_cons, ih pb k p (by simpa using hl) (by simpa using h) hq]
def selG (f : ByteArray → Bool) (pb : List Nat) (ps : List Pr) : List Nat := ((pb.zip ps).filter fun q => f q.2.key).map (·.1)
theorem sel_eq (o : Ob) (pb : List Nat) (y : Nat) : sel o pb y = selG (fun key => decide (o.ixA ix AR key = some y)) pb o.ps := rfl
theorem selG_snoc (f : ByteArray → Bool) {pb : List Nat} {ps : List Pr} {B : Nat} {p : Pr} (hl : pb.length = ps.length) : selG f (pb ++ [B]) (ps ++ [p]) = selG f pb ps ++ (if f p.key then [B] else []) := by
 unfold selG
 rw [List.zip_append hl, List.filter_append, List.map_append]
 congr 1
 show List.map _ (List.filter _ [(B, p)]) = _
 rw [List.filter_cons]
 cases f p.key <;> rfl
theorem selG_mem {f : ByteArray → Bool} : ∀ {pb : List Nat} {ps : List Pr} {b : Nat}, b ∈ selG f pb ps → b ∈ pb := fun {pb ps b} h => by
 unfold selG at h
 obtain ⟨q, hq, rfl⟩ := List.mem_map.1 h
 exact (List.of_mem_zip (List.mem_filter.1 hq).1).1
theorem selG_cons (f : ByteArray → Bool) (b : Nat) (pb : List Nat) (p : Pr) (ps : List Pr) : selG f (b :: pb) (p :: ps) = if f p.key then b :: selG f pb ps else selG f pb ps := by
 unfold selG
 rw [List.zip_cons_cons, List.filter_cons]
 dsimp only
 split <;> rfl
theorem selG_erase (f : ByteArray → Bool) : ∀ {pb : List Nat} {ps : List Pr} {k : Nat} {b : Nat}, pb.length = ps.length → pb.Nodup → pb[k]? = some b → selG f (pb.eraseIdx k) (ps.eraseIdx k) = (selG f pb ps).filter (fun c => !decide (c = b))
 | [], [], k, b, _, _, h => by simp at h
 | a :: pb, q :: ps, 0, b, hl, hn, h => by
  simp only [List.getElem?_cons_zero, Option.some.injEq] at h
  subst h
  rw [List.nodup_cons] at hn
  rw [List.eraseIdx_cons_zero, List.eraseIdx_cons_zero, selG_cons]
  have e : (selG f pb ps).filter (fun c => !decide (c = a)) = selG f pb ps := List.filter_eq_self.2 fun c hc => by
   rw [decide_eq_false]
   ·rfl
   ·rintro rfl
    exact hn.1 (selG_mem hc)
  split
  ·rw [List.filter_cons, decide_eq_true rfl, if_neg (by simp), e]
  ·exact e.symm
 | a :: pb, q :: ps, k + 1, b, hl, hn, h => by
  rw [List.nodup_cons] at hn
  have h : pb[k]? = some b := by simpa using h
  have hab : a ≠ b := by
   rintro rfl
   exact hn.1 (List.mem_of_getElem? h)
  rw [List.eraseIdx_cons_succ, List.eraseIdx_cons_succ, selG_cons, selG_cons, selG_erase f (by simpa using hl) hn.2 h]
  split
  ·rw [List.filter_cons, decide_eq_false hab]
   rfl
  ·rfl
theorem selG_set {q : Pr} (f : ByteArray → Bool) : ∀ (ps : List Pr) (pb : List Nat) (k : Nat) (p : Pr), pb.length = ps.length → ps[k]? = some p → q.key = p.key → selG f pb (ps.set k q) = selG f pb ps := by
 intro ps
 induction ps with
 | nil => intro pb k p _ h; simp at h
 | cons a ps ih =>
  intro pb k p hl h hq
  cases pb with
  | nil => simp at hl
  | cons b pb =>
   cases k with
   | zero =>
    simp only [List.getElem?_cons_zero, Option.some.injEq] at h
    subst h
    rw [List.set_cons_zero, selG_cons, selG_cons, hq]
   | succ k => rw [List.set_cons_succ, selG_cons, selG_cons, ih pb k p (by simpa using hl) (by simpa using h) hq]
theorem key_out {ps : List Pr} {s : ByteArray} (h : ps.findIdx? (has s) = none) : s ∉ ps.map (·.key) := fun e => by
 obtain ⟨p, hp, hk⟩ := List.mem_map.1 e
 rw [List.findIdx?_eq_none_iff] at h
 have := h p hp
 unfold has at this
 exact of_decide_eq_false this hk
end Go.Proofs.YtcahijpbkjplmaaGreatDoor.G
namespace Go.Proofs.YtcahijpbkjplmaaGreatDoor.G
open Go.RowKit Go.Shelf Go.Maps Go.Proofs.YtcahijpbkjplmaaGreatDoor
structure Chg (w : World) (ow : Nat → Option Nat) (i n : Nat) (pp : Value) (b : Nat) (o' : Ob) (w' : World) (ow' : Nat → Option Nat) (x' : OL) : Prop where
 b : x'.b = b
 at' : ObjAt w' ow' i n pp x' o'
 old : ∀ k r, ow k = some r → ow' k = some r
 new : ∀ k, ow' k ≠ none → ow k ≠ none ∨ w.heap.size ≤ k
 lt : ∀ k, ow' k ≠ none → k < w'.heap.size
 only : ∀ k r, ow' k = some r → r ≠ i + 1 → ow k = some r
 fr : Fr (fun k => k < w.heap.size ∧ ow k ≠ some (i + 1)) w w'
theorem Ring.place {w : World} {i : Nat} {pp : Value} {x : OL} {o : Ob} (h : Ring w i pp x o) (j : Nat) : ∃ g q, nd x.b x.pb j = ⟨g, q, none⟩ ∧ (∃ u, w.cell? ⟨g, q + 8, none⟩ = some u) ∧ (∃ u, w.cell? ⟨g, q + 7, none⟩ = some u) ∧ (∀ k, w.frozen? ⟨g, k, none⟩ = false) ∧ (g = x.b ∨ g ∈ x.pb) := by
 cases j with
 | zero => exact ⟨x.b, 5, rfl, ⟨_, h.ob.cell (k := 13) rfl⟩, ⟨_, h.ob.cell (k := 12) rfl⟩, h.ob.fz, .inl rfl⟩
 | succ j =>
  rcases Nat.lt_or_ge j x.pb.length with h' | h'
  ·have hp := h.pr j h' (by rw [← h.pl]; exact h')
   exact ⟨x.pb[j], 0, nd_of h', ⟨_, hp.cell (k := 8) rfl⟩, ⟨_, hp.cell (k := 7) rfl⟩, hp.fz, .inr (List.getElem_mem h')⟩
  ·exact ⟨x.b, 5, nd_end h', ⟨_, h.ob.cell (k := 13) rfl⟩, ⟨_, h.ob.cell (k := 12) rfl⟩, h.ob.fz, .inl rfl⟩
structure Mid (w : World) (ow : Nat → Option Nat) (i n : Nat) (pp : Value) (x : OL) (o : Ob) (B : Nat) (p : Pr) (w' : World) : Prop where
 ring : Ring w' i pp { x with pb := x.pb ++ [B] } { o with ps := o.ps ++ [p] }
 mp : MapS w' x.pm (n + 1) (.pointer none) (fnd (x.pb ++ [B]) (o.ps ++ [p]))
 mi : ∃ ni, ni + o.ps.length ≤ 2 * n ∧ MapI w' x.im ni (.slice none 0 0) x.fi
 rw : ∀ y, w'.ownsRow 0 79 1 (x.fi y) (sel o x.pb y).length ((sel o x.pb y).map pv)
 fr : Fr (fun k => k < w.heap.size ∧ ow k ≠ some (i + 1)) w w'
 lo : w.heap.size ≤ B
 hi : B < w'.heap.size
section
variable {w w1 w2 : World} {ow : Nat → Option Nat} {i n B : Nat} {pp : Value} {x : OL} {o : Ob} {p : Pr}
theorem Mid.low (h : Mid w ow i n pp x o B p w1) (hb : Below w1.heap.size w1 w2) : Mid w ow i n pp x o B p w2 := by
 obtain ⟨ni, h1, h2⟩ := h.mi
 refine ⟨h.ring.fr (hb.block _ h.ring.ob.lt) fun b hbm => ?_, h.mp.fr (hb.block _ h.mp.lt), ⟨ni, h1, h2.fr (hb.block _ h2.lt)⟩, fun y => row_same (h.rw y) fun k e => hb.block k ((h.rw y).lt k e).2, h.fr.trans ⟨hb.os, hb.tape, hb.output, hb.size, fun k hk => hb.block k (Nat.lt_of_lt_of_le hk.1 h.fr.size)⟩, h.lo, Nat.lt_of_lt_of_le h.hi hb.size⟩
 obtain ⟨j, hj, rfl⟩ := List.getElem_of_mem hbm
 exact hb.block _ (h.ring.pr j hj (by rw [← h.ring.pl]; exact hj)).lt
theorem Mid.whole (h : Mid w ow i n pp x o B p w1) (h0 : ObjAt w ow i n pp x o) (hl : ∀ k, ow k ≠ none → k < w.heap.size) (hx : o.ixA ix AR p.key = none) :
  ∃ ow' x', Chg w ow i (n + 1) pp x.b (o.more ix AR p) w1 ow' x' := by
 obtain ⟨ni, hn1, hn2⟩ := h.mi
 have hB : ow B = none := by
  cases e : ow B with
  | none => rfl
  | some r => exact absurd (hl B (by rw [e]; simp)) (by have := h.lo; omega)
 have hmo : o.more ix AR p = { o with ps := o.ps ++ [p] } := by
  unfold Ob.more
  rw [hx]
 have hold : ∀ k r, ow k = some r → (if k = B then some (i + 1) else ow k) = some r := fun k r e => by
  rw [if_neg, e]
  rintro rfl
  rw [hB] at e
  cases e
 refine ⟨fun k => if k = B then some (i + 1) else ow k, { x with pb := x.pb ++ [B] }, rfl, ?_, hold, fun k hk => ?_, fun k hk => ?_, fun k r e hr => ?_, h.fr⟩
 ·rw [hmo]
  refine ⟨h.ring.ob, h.ring.pl, h.ring.pr, h.ring.nod, h.mp, ⟨ni, ?_, hn2⟩, fun y => ?_, fun y g e => ⟨hold _ _ (h0.ra y g e).1, (h0.ra y g e).2⟩, hold _ _ h0.wb, hold _ _ h0.wm, hold _ _ h0.wi, fun b hb => ?_, h0.mne⟩
  ·show ni + (o.ps ++ [p]).length ≤ 2 * (n + 1)
   rw [List.length_append, List.length_singleton]
   omega
  ·have e : sel { o with ps := o.ps ++ [p] } (x.pb ++ [B]) y = sel o x.pb y := by
    rw [sel_eq, sel_eq]
    show selG _ (x.pb ++ [B]) (o.ps ++ [p]) = _
    rw [selG_snoc _ h0.pl]
    have : decide (({ o with ps := o.ps ++ [p] } : Ob).ixA ix AR p.key = some y) = false := decide_eq_false (by
     show ¬ o.ixA ix AR p.key = some y
     rw [hx]
     simp)
    rw [this]
    exact List.append_nil _
   show w1.ownsRow 0 _ 1 (x.fi y) (sel _ (x.pb ++ [B]) y).length _
   rw [e]
   exact h.rw y
  ·rcases List.mem_append.1 hb with hb | hb
   ·exact hold _ _ (h0.wp b hb)
   ·rw [List.mem_singleton.1 hb]
    exact if_pos rfl
 ·by_cases e : k = B
  ·rw [e]
   exact .inr h.lo
  ·exact .inl (by simpa [e] using hk)
 ·by_cases e : k = B
  ·rw [e]
   exact h.hi
  ·have : ow k ≠ none := by simpa [e] using hk
   exact Nat.lt_of_lt_of_le (hl k this) h.fr.size
 ·split at e
  ·exact absurd (Option.some.inj e).symm hr
  ·exact e
theorem Ring.lt {w : World} (h : Ring w i pp x o) {b : Nat} (hb : b ∈ x.pb) : b < w.heap.size := by
 obtain ⟨j, hj, rfl⟩ := List.getElem_of_mem hb
 exact (h.pr j hj (by rw [← h.pl]; exact hj)).lt
theorem Ring.ne_row {w : World} (h : Ring w i pp x o) {b : Nat} (hb : b ∈ x.pb) {B' m : Nat} {v : Value} {xs : List Value} (hr : w.ownsRow B' 79 1 v m xs) : ∀ g, v.ownBlock = some g → b ≠ g := by
 obtain ⟨j, hj, rfl⟩ := List.getElem_of_mem hb
 exact (h.pr j hj (by rw [← h.pl]; exact hj)).ne_row hr (by decide)
theorem Ring.ne_map {w : World} (h : Ring w i pp x o) {b : Nat} (hb : b ∈ x.pb) {m : Nat} {es : Array MapEntry} {c : Nat} (hm : w.heap[m]? = some (.map es c)) : b ≠ m := by
 obtain ⟨j, hj, rfl⟩ := List.getElem_of_mem hb
 exact (h.pr j hj (by rw [← h.pl]; exact hj)).ne_map hm
theorem row_ne_map {w : World} {B' s m n : Nat} {e : TypeId} {v : Value} {xs : List Value} (hr : w.ownsRow B' e s v n xs) {es : Array MapEntry} {c : Nat} (hm : w.heap[m]? = some (.map es c)) : v.ownBlock ≠ some m := by
 intro eb
 rcases hr.2 with ⟨rfl, _⟩ | ⟨g, cap, cur, rfl, _, hg, _⟩
 ·cases eb
 ·cases eb
  rw [hg] at hm
  cases hm
theorem Mid.indexed (h : Mid w ow i n pp x o B p w1) (h0 : ObjAt w ow i n pp x o) (hl : ∀ k, ow k ≠ none → k < w.heap.size) {y : Nat} (hx : o.ixA ix AR p.key = some y) {v' : Value}
  (hob : Blk w2 x.b 84 (objC i (o.more ix AR p) pp { x with pb := x.pb ++ [B] })) (him : ∃ ni, ni + o.ps.length ≤ 2 * n + 1 ∧ MapI w2 x.im ni (.slice none 0 0) (fun t => if t = y then v' else x.fi t))
  (hrow : w2.ownsRow 0 79 1 v' ((sel o x.pb y).length + 1) ((sel o x.pb y).map pv ++ [pv B])) (hv : v'.ownBlock = (x.fi y).ownBlock ∨ ∃ g, v'.ownBlock = some g ∧ w1.heap.size ≤ g)
  (hfr : Fr (fun k => k < w1.heap.size ∧ k ≠ x.b ∧ k ≠ x.im ∧ (x.fi y).ownBlock ≠ some k) w1 w2) :
  ∃ ow' x', Chg w ow i (n + 1) pp x.b (o.more ix AR p) w2 ow' x' := by
 obtain ⟨ni, hn1, hn2⟩ := him
 obtain ⟨mi, hm1, hm2⟩ := h.mi
 obtain ⟨ese, ce, hme⟩ := h.mp.isMap
 obtain ⟨esi, ci, hmi⟩ := hm2.isMap
 have hB : ow B = none := by
  cases e : ow B with
  | none => rfl
  | some r => exact absurd (hl B (by rw [e]; simp)) (by have := h.lo; omega)
 have hmo : (o.more ix AR p).ps = o.ps ++ [p] := rfl
 have hvn : ∀ k r, ow k = some r → v'.ownBlock = some k → r = i + 1 := fun k r e ev => by
  rcases hv with hv | ⟨g, hg, hgl⟩
  ·rw [hv] at ev
   have := (h0.ra y k ev).1
   rw [this] at e
   exact (Option.some.inj e).symm
  ·rw [hg] at ev
   cases ev
   exact absurd (hl _ (by rw [e]; simp)) (by have := h.fr.size; omega)
 have hold : ∀ k r, ow k = some r → (if k = B ∨ v'.ownBlock = some k then some (i + 1) else ow k) = some r := fun k r e => by
  by_cases hc : k = B ∨ v'.ownBlock = some k
  ·rw [if_pos hc]
   rcases hc with rfl | hc
   ·rw [hB] at e
    cases e
   ·rw [hvn k r e hc]
  ·rw [if_neg hc, e]
 have hmemB : B ∈ x.pb ++ [B] := by simp
 have hkeepP : ∀ b ∈ x.pb ++ [B], w2.heap[b]? = w1.heap[b]? := fun b hb => hfr.block b ⟨h.ring.lt hb, h.ring.ne hb, h.ring.ne_map hb hmi, fun e => h.ring.ne_row hb (h.rw y) b e rfl⟩
 have hrowlt : ∀ g, v'.ownBlock = some g → g < w2.heap.size := fun g e => (hrow.lt g e).2
 refine ⟨fun k => if k = B ∨ v'.ownBlock = some k then some (i + 1) else ow k, ⟨x.b, x.pm, x.im, x.pb ++ [B], fun t => if t = y then v' else x.fi t⟩, rfl, ?_, hold, fun k hk => ?_, fun k hk => ?_, fun k r e hr => ?_, ?_⟩
 ·refine ⟨hob, h.ring.pl, fun j a b => (h.ring.pr j a b).fr (hkeepP _ (List.getElem_mem a)), h.ring.nod, h.mp.fr (hfr.block _ ⟨h.mp.lt, (fun e => h.ring.ob.ne_map hme e.symm), h0.mne, row_ne_map (h.rw y) hme⟩), ⟨ni, ?_, hn2⟩, fun t => ?_, fun t g e => ?_, hold _ _ h0.wb, hold _ _ h0.wm, hold _ _ h0.wi, fun b hb => ?_, h0.mne⟩
  ·show ni + (o.ps ++ [p]).length ≤ 2 * (n + 1)
   rw [List.length_append, List.length_singleton]
   omega
  ·have e : sel (o.more ix AR p) (x.pb ++ [B]) t = sel o x.pb t ++ (if t = y then [B] else []) := by
    rw [sel_eq, sel_eq]
    show selG (fun key => decide (o.ixA ix AR key = some t)) (x.pb ++ [B]) (o.ps ++ [p]) = _
    rw [selG_snoc _ h0.pl, hx]
    by_cases ht : t = y
    ·subst ht
     rw [if_pos rfl, if_pos (decide_eq_true rfl)]
    ·rw [if_neg ht, if_neg (by simpa using fun e => ht e.symm)]
   show w2.ownsRow 0 _ 1 (if t = y then v' else x.fi t) (sel (o.more ix AR p) (x.pb ++ [B]) t).length ((sel (o.more ix AR p) (x.pb ++ [B]) t).map pv)
   rw [e]
   by_cases ht : t = y
   ·subst ht
    rw [if_pos rfl, if_pos rfl, List.length_append, List.length_singleton, List.map_append]
    exact hrow
   ·rw [if_neg ht, if_neg ht, List.append_nil]
    refine row_same (h.rw t) fun k e => hfr.block k ⟨((h.rw t).lt k e).2, (fun ek => h.ring.ob.ne_row (h.rw t) (by decide) k e ek.symm), (fun ek => row_ne_map (h.rw t) hmi (by rw [← ek]; exact e)), fun ek => ht ((h0.ra t k e).2 y ek).symm⟩
  ·have e : (if t = y then v' else x.fi t).ownBlock = some g := e
   show (if g = B ∨ v'.ownBlock = some g then some (i + 1) else ow g) = some (i + 1) ∧ ∀ y', (if y' = y then v' else x.fi y').ownBlock = some g → y' = t
   have key : ∀ t', (x.fi t').ownBlock = some g → v'.ownBlock = some g → t' = y := fun t' e1 e2 => by
    rcases hv with hv | ⟨g2, hg2, hgl⟩
    ·rw [hv] at e2
     exact ((h0.ra t' g e1).2 y e2).symm
    ·rw [hg2] at e2
     cases e2
     exact absurd (hl _ (by rw [(h0.ra t' _ e1).1]; simp)) (by have := h.fr.size; omega)
   by_cases ht : t = y
   ·rw [if_pos ht] at e
    refine ⟨if_pos (.inr e), fun y' e' => ?_⟩
    by_cases hy : y' = y
    ·rw [hy, ht]
    ·rw [if_neg hy] at e'
     exact absurd (key y' e' e) hy
   ·rw [if_neg ht] at e
    refine ⟨hold _ _ (h0.ra t g e).1, fun y' e' => ?_⟩
    by_cases hy : y' = y
    ·rw [if_pos hy] at e'
     exact absurd (key t e e') ht
    ·rw [if_neg hy] at e'
     exact (h0.ra t g e).2 y' e'
  ·rcases List.mem_append.1 hb with hb | hb
   ·exact hold _ _ (h0.wp b hb)
   ·rw [List.mem_singleton.1 hb]
    exact if_pos (.inl rfl)
 ·by_cases e : k = B ∨ v'.ownBlock = some k
  ·rcases e with rfl | e
   ·exact .inr h.lo
   ·rcases hv with hv | ⟨g, hg, hgl⟩
    ·rw [hv] at e
     exact .inl (by rw [(h0.ra y k e).1]; simp)
    ·rw [hg] at e
     cases e
     exact .inr (Nat.le_trans h.fr.size hgl)
  ·exact .inl (by simpa [e] using hk)
 ·by_cases e : k = B ∨ v'.ownBlock = some k
  ·rcases e with rfl | e
   ·exact Nat.lt_of_lt_of_le h.hi hfr.size
   ·exact hrowlt k e
  ·have : ow k ≠ none := by simpa [e] using hk
   exact Nat.lt_of_lt_of_le (hl k this) (Nat.le_trans h.fr.size hfr.size)
 ·split at e
  ·exact absurd (Option.some.inj e).symm hr
  ·exact e
 ·refine h.fr.trans (hfr.mono fun k hk => ⟨Nat.lt_of_lt_of_le hk.1 h.fr.size, ?_, ?_, ?_⟩)
  ·rintro rfl
   exact hk.2 h0.wb
  ·rintro rfl
   exact hk.2 h0.wi
  ·intro e
   exact hk.2 (h0.ra y k e).1
end
end Go.Proofs.YtcahijpbkjplmaaGreatDoor.G
