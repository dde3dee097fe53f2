/-
  do of Keys and Enum beside a reference where nothing is done; do, all calls.
-/
import Derived.Test.YtcahijpbkjplmaaGreatDoorMFe
import Derived.Test.YtcahijpbkjplmaaGreatDoorMFd
import Derived.Test.YtcahijpbkjplmaaGreatDoorMFg
import Derived.Test.YtcahijpbkjplmaaGreatDoorMFi
import Derived.Test.YtcahijpbkjplmaaGreatDoorMFk
import Derived.Test.YtcahijpbkjplmaaGreatDoorMFl
namespace Go.Proofs.YtcahijpbkjplmaaGreatDoor.G
open Go.RowKit Go.Shelf Go.Maps Go.Lib Go.Proofs.YtcahijpbkjplmaaGreatDoor

theorem enumP_len : ∀ (ps : List Pr) (met : List ByteArray), (enumP ps met).1.length ≤ ps.length
  | [], _ => Nat.le_refl _
  | p :: r, met => by
    have := enumP_len r (met ++ [p.key])
    rw [enumP, List.length_cons]
    dsimp only
    split
    · rw [List.length_cons]
      omega
    · omega
theorem enumC_len {os : List Ob} (h : ∀ (i : Nat) (o : Ob), os[i]? = some o → o.ps.length ≤ 100000) : ∀ (l : List Nat) (met : List ByteArray), (enumC LK AR os l met).length ≤ l.length * 100000
  | [], _ => Nat.zero_le _
  | i :: r, met => by
    rw [enumC]
    cases ho : os[i]? with
    | none => exact Nat.zero_le _
    | some o =>
      have h1 := h i o ho
      have h2 := enumP_len o.ps met
      have h3 := enumC_len h r (enumO LK AR o met).2
      dsimp only
      rw [List.length_append, List.length_cons]
      have h4 : (enumO LK AR o met).1.length = (enumP o.ps met).1.length := rfl
      omega
theorem Gd.enum_len {H : Hs} (g : Gd H) (q : Option Nat) : (H.enum LK AR q).length ≤ 100000000000 := by
  have h := enumC_len (os := H.os) (fun i o ho => Nat.le_trans (g.og i o ho).l g.n100) (H.chain q) []
  have h2 : (H.chain q).length ≤ 100000 := Nat.le_trans (up_len H.os H.os.length q) g.os100
  unfold Hs.enum
  omega
theorem Gd.keys_len {H : Hs} (g : Gd H) (v : Vl) : (keysR (H.obj v)).length ≤ 100000000000 := by
  unfold Hs.obj
  cases H.at v with
  | none => exact Nat.zero_le _
  | some i =>
    show (keysR H.os[i]?).length ≤ _
    cases ho : H.os[i]? with
    | none => exact Nat.zero_le _
    | some o =>
      have := Nat.le_trans (g.og i o ho).l g.n100
      show (o.ps.map (·.key)).length ≤ _
      rw [List.length_map]
      omega
section
variable {w : World} {ow : Nat → Option Nat} {A X : Nat} {H : Hs} {L : List OL}
theorem do_6 (h : PH w A H ow L) (g : Gd H) (hd : Dr w X ow) (o : Op) {sl : Value} (e : o.d = 6) :
    Calls Tryz.prog 11 #[pv A, pv X, opV o sl] w (DoR w A ow L (H.step ix dx LK AR o)) := by
  have hstep : H.step ix dx LK AR o = H := by unfold Hs.step; rw [e]; rfl
  rw [hstep]
  obtain ⟨owx, R, hr, -⟩ := hd
  refine (do6_gen w A X o sl e (keysR (H.obj o.v)) [] (H.enum LK AR (H.at o.v)) [] (g.keys_len _) (Nat.zero_le _) (g.enum_len _) (Nat.zero_le _) (fun w1 hb => ?_) (fun w1 hb => ?_) (fun w1 hb => ?_) (fun w1 hb => ?_)).mono ?_
  · refine (keys_any (h.low hb) g o.v).mono ?_
    rintro e w2 ⟨r, e1, h1, h2⟩
    exact ⟨r, e1, h1.nm, h2⟩
  · refine (rkeys_none (hr.low hb) o.v (by decide) (new0_at _)).mono ?_
    rintro e w2 ⟨e1, h2⟩
    exact ⟨_, e1, Nm.nil _, h2⟩
  · refine (enum_any (h.low hb) g o.v).mono ?_
    rintro e w2 ⟨r, e1, h1, h2⟩
    exact ⟨r, e1, h1.nm, h2⟩
  · refine (renum_none (hr.low hb) o.v (by decide) (new0_at _)).mono ?_
    rintro e w2 ⟨e1, h2⟩
    exact ⟨_, e1, Nm.nil _, h2⟩
  · rintro e w2 ⟨rfl, hb⟩
    exact ⟨_, rfl, ow, L, Hch.below h hb⟩
/-- do, beside a reference where nothing is done -/
theorem do_any (h : PH w A H ow L) (g : Gd H) (hd : Dr w X ow) (o : Op) (so : So o) {sl : Value} {bk : Nat} (hv : Vls w sl o.l bk) (hk : bk < w.heap.size ∧ ow bk = none) (hT : Tab w) (hTo : ow 0 = none) (hll : o.l.length ≤ 4194304) :
    Calls Tryz.prog 11 #[pv A, pv X, opV o sl] w (DoR w A ow L (H.step ix dx LK AR o)) := by
  by_cases hn : o.d < 0 ∨ 9 < o.d
  · exact do_n h g hd o so hv hk hT hTo hll hn
  · have hc : o.d = 0 ∨ o.d = 1 ∨ o.d = 2 ∨ o.d = 3 ∨ o.d = 4 ∨ o.d = 5 ∨ o.d = 6 ∨ o.d = 7 ∨ o.d = 8 ∨ o.d = 9 := by omega
    rcases hc with e | e | e | e | e | e | e | e | e | e
    · exact do_0 h g hd o so hv hk hT hTo hll e
    · exact do_1 h g hd o so hv hk hT hTo hll e
    · exact do_2 h g hd o so hv hk hT hTo hll e
    · exact do_3 h g hd o so hv hk hT hTo hll e
    · exact do_4 h g hd o so hv hk hT hTo hll e
    · exact do_5 h g hd o so hv hk hT hTo hll e
    · exact do_6 h g hd o e
    · exact do_7 h g hd o so hv hk hT hTo hll e
    · exact do_8 h g hd o so hv hk hT hTo hll e
    · exact do_9 h g hd o so hv hk hT hTo hll e
end
end Go.Proofs.YtcahijpbkjplmaaGreatDoor.G
