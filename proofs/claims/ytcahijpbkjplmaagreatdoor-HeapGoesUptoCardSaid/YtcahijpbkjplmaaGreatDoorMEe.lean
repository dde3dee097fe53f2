/-
 Up the prototypes in plain Lean: what an object has itself, what it has from its prototype.
-/
import Derived.Test.YtcahijpbkjplmaaGreatDoorMFn
set_option linter.unusedSimpArgs false
namespace Go.Proofs.YtcahijpbkjplmaaGreatDoor.G
open Go.RowKit Go.Shelf Go.Maps Go.Lib Go.Proofs.YtcahijpbkjplmaaGreatDoor
theorem nat_null (h : Hs) : h.at null = none := at_none (by rintro ⟨h, -⟩; exact absurd h (by decide))
theorem pown_first {h : Hs} (k : Ok h) {v : Vl} {key : ByteArray} {p : Pr} (e : h.ownV v key = some p) : h.find LK AR (h.at v) key = some p := by
 unfold Hs.ownV Hs.obj at e
 cases ha : h.at v with
 | none =>
  rw [ha] at e
  cases e
 | some i =>
  rw [ha] at e
  change (h.os[i]?).bind _ = _ at e
  cases ho : h.os[i]? with
  | none =>
   rw [ho] at e
   cases e
  | some o =>
   rw [ho] at e
   change o.own LK AR key = _ at e
   rw [find_some LK AR k ho, e]
   rfl
theorem pown_next {h : Hs} (k : Ok h) {v : Vl} {key : ByteArray} (e : h.ownV v key = none) : h.find LK AR (h.at v) key = h.find LK AR (h.at (protoR (h.obj v))) key := by
 unfold Hs.ownV at e
 cases ha : h.at v with
 | none =>
  rw [obj_none ha]
  show _ = h.find LK AR (h.at null) key
  rw [nat_null]
 | some i =>
  have hi := at_lt ha
  have ho : h.os[i]? = some h.os[i] := List.getElem?_eq_getElem hi
  have hob : h.obj v = some h.os[i] := by unfold Hs.obj; rw [ha]; exact ho
  rw [hob] at e ⊢
  change h.os[i].own LK AR key = _ at e
  rw [find_some LK AR k ho, e]
  show h.find LK AR h.os[i].proto key = h.find LK AR (h.at (refO h.os[i].proto)) key
  cases hp : h.os[i].proto with
  | none => rw [show refO none = null from rfl, nat_null]
  | some p =>
   have := k.pw i _ ho p hp
   rw [show refO (some p) = ref p from rfl, at_ref (by omega)]
def dpt : Option Nat → Nat
 | none => 0
 | some i => i + 1
theorem dpt_next {h : Hs} (k : Ok h) {u : Vl} {i : Nat} (e : h.at u = some i) : dpt (h.at (protoR (h.obj u))) ≤ i := by
 have hi := at_lt e
 have ho : h.os[i]? = some h.os[i] := List.getElem?_eq_getElem hi
 have hob : h.obj u = some h.os[i] := by unfold Hs.obj; rw [e]; exact ho
 rw [hob]
 show dpt (h.at (refO h.os[i].proto)) ≤ i
 cases hp : h.os[i].proto with
 | none => rw [show refO none = null from rfl, nat_null]; exact Nat.zero_le _
 | some p =>
  have := k.pw i _ ho p hp
  rw [show refO (some p) = ref p from rfl, at_ref (by omega)]
  exact this
end Go.Proofs.YtcahijpbkjplmaaGreatDoor.G
