/-
 The reference's prop, by contract.
 The reference's Len, Own, by contract.
-/
import Derived.Test.YtcahijpbkjplmaaGreatDoorMFn
import Derived.Test.YtcahijpbkjplmaaGreatDoorMZ0
set_option linter.unusedSimpArgs false
namespace Go.Proofs.YtcahijpbkjplmaaGreatDoor.G
open Go.RowKit Go.Shelf Go.Maps Go.Lib Go.Proofs.YtcahijpbkjplmaaGreatDoor
theorem rows_form {w : World} {B n k : Nat} {T : TypeId} {v : Value} {xs : List Value} (h : w.ownsRow B T k v n xs) : ∃ A cap, v = .slice A n cap ∧ n ≤ cap ∧ (0 < n → ∃ g, A = some ⟨g, 0, none⟩ ∧ v.ownBlock = some g ∧ g < w.heap.size) := by
 rcases id h.2 with ⟨e, h0⟩ | ⟨g, cap, cur, e, hb, hg, hn, hc, hs, htk⟩
 ·exact ⟨none, 0, by rw [e, h0], by rw [h0]; exact Nat.le_refl _, fun hp => by omega⟩
 ·exact ⟨some ⟨g, 0, none⟩, cap, e, hn, fun _ => ⟨g, rfl, by rw [e]; rfl, (Array.getElem?_eq_some_iff.1 hg).1⟩⟩
def propR (q : Option Ob) (key : ByteArray) : Int := match q with
 | none => -1
 | some o => match o.ps.findIdx? (has key) with
  | some k => (k : Int)
  | none => -1
theorem idx_none {ps : List Pr} {key : ByteArray} (h : ∀ (j : Nat) p, ps[j]? = some p → ¬ p.key = key) : ps.findIdx? (has key) = none := by
 rw [List.findIdx?_eq_none_iff]
 intro p hp
 obtain ⟨j, hj⟩ := List.getElem?_of_mem hp
 unfold has
 rw [decide_eq_false (h j p hj)]
section
variable {w w' : World} {ow : Nat → Option Nat} {A : Nat} {H : Hs} {R : List Value}
set_option maxRecDepth 8000 in
set_option maxHeartbeats 1000000 in
theorem rprop_any (h : RH w A H ow R) (g : Gd H) (v : Vl) (key : ByteArray) (hs : key.size ≤ 16777216) :
  Calls Tryz.prog 74 #[pv A, v.v, .string key] w fun e w' => e = .returned (.int .i64 (propR (H.obj v) key)) ∧ Below w.heap.size w w' := by
 have hl := g.os100
 cases hat : H.at v with
 | none =>
  have e1 : propR (H.obj v) key = -1 := by rw [obj_none hat]; rfl
  rw [e1]
  exact rprop_none h v key hl hat
 | some i =>
  have hb0 := below_new w (.cells v.cs.toArray 29)
  have HH := Lib.hid (h.low hb0)
  have HB := Lib.hid hb0
  have HT := Lib.hid (rat_any (h.low hb0) v hl)
  rw [hat] at HT
  have hi := at_lt hat
  obtain ⟨o, ho⟩ : ∃ o, H.os[i]? = some o := ⟨H.os[i], List.getElem?_eq_getElem hi⟩
  have hob : H.obj v = some o := by unfold Hs.obj; rw [hat]; exact ho
  have HND := Lib.hid (g.ok.nd i o ho)
  have hpl : o.ps.length ≤ 100000 := Nat.le_trans (g.og i o ho).l g.n100
  obtain ⟨r0, HR0⟩ : ∃ r, Hid (propR (H.obj v) key = r) := ⟨_, rfl⟩
  have HV : Hid (∀ k, o.ps.findIdx? (has key) = some k → r0 = (k : Int)) := fun k hk => by rw [← HR0.out, hob]; unfold propR; dsimp only; rw [hk]
  have HVN : Hid (o.ps.findIdx? (has key) = none → r0 = -1) := fun hk => by rw [← HR0.out, hob]; unfold propR; dsimp only; rw [hk]
  rw [HR0.out]
  have HIX := Lib.hid fun w => refIndex_any key w hs
  have HDG := Lib.hid fun w => rdigit_any key w
  have HO := Lib.hid ho
  clear h hb0 hat hob HR0 ho hs g
  obtain ⟨vk, vn, vs⟩ := v
  simp only [Vl.v, Vl.cs, atI] at HB HT HH ⊢
  go_enter Tryz.func74, Tryz.ntmps74
  go_wp2_with fail
  refine HT.out.mono ?_
  rintro e w1 ⟨rfl, hb⟩
  have HH1 := HH.out.low hb
  obtain ⟨gb, cap, r, c0, hcap, hr, hcell, -⟩ := HH1.row HO.out
  obtain ⟨hrow, -⟩ := HH1.props HO.out hr
  obtain ⟨rA, rc, rfl, hrc, hrg⟩ := rows_form hrow
  have k4 := (hcell 4 _ rfl).1
  have hii : (i : Int) < (H.os.length : Int) := by omega
  have hpli : (o.ps.length : Int) ≤ 100000 := by omega
  have HB1 := Lib.hid (HB.out.trans (hb.mono HB.out.size))
  have HCE : Hid (∀ w', Below w1.heap.size w1 w' → ∀ k p, o.ps[k]? = some p → ∃ g, rA = some ⟨g, 0, none⟩ ∧ ∀ j u, (Pr.cs p)[j]? = some u → w'.cell? ⟨g, k * 7 + j, none⟩ = some u) := fun w' hb' k p hp => by
   obtain ⟨g, e1, e2, e3⟩ := hrg (Nat.lt_of_le_of_lt (Nat.zero_le k) (List.getElem?_eq_some_iff.1 hp).1)
   exact ⟨g, e1, fun j u hj => (World.cell?_of_block (w := w1) (a := ⟨g, k * 7 + j, none⟩) (hb'.block g e3)).trans (prop_cell hrow (by rw [e1]) hp hj).1⟩
  clear hcell hb HT HB HH HH1 hrow hrg
  go_wp2_with fail
  refine (HDG.out _).mono ?_
  rintro e w2 ⟨b, rfl, rfl⟩
  clear HDG
  cases b with
  | false =>
   go_wp2_with fail
   go_loopw [52] (fun x wr => ∃ k : Nat, k ≤ o.ps.length ∧ x = .int .i64 k ∧ Hid (Below w1.heap.size w1 wr) ∧ Hid (∀ (j : Nat) p, j < k → o.ps[j]? = some p → ¬ p.key = key)) (fun x _ => o.ps.length - (intOf x).toNat)
   case atStart => exact ⟨0, Nat.zero_le _, rfl, Lib.hid (Below.refl _ _), Lib.hid fun j p hj => absurd hj (Nat.not_lt_zero _)⟩
   case round =>
    obtain ⟨k, hk, rfl, hb, hno⟩ := hrel
    by_cases hlt : k < o.ps.length
    ·obtain ⟨p, HP⟩ : ∃ p, Hid (o.ps[k]? = some p) := ⟨_, List.getElem?_eq_getElem hlt⟩
     obtain ⟨g, rfl, hc⟩ := HCE.out wr hb.out k p HP.out
     have d0 := hc 0 _ rfl
     have d1 := hc 1 _ rfl
     have d2 := hc 2 _ rfl
     have d3 := hc 3 _ rfl
     have d4 := hc 4 _ rfl
     have d5 := hc 5 _ rfl
     have d6 := hc 6 _ rfl
     simp only [Nat.add_zero] at d0
     have HBN : Hid (∀ o : Obj, Below w1.heap.size w1 (wr.alloc o)) := fun o => hb.out.trans ((below_new wr o).mono hb.out.size)
     have HST := Lib.hid (toList_eq_is p.key key)
     clear hc
     by_cases he : p.key = key
     ·have hst := HST.out.trans (decide_eq_true he)
      have HR := Lib.hid (HV.out k (idx_of HND.out HP.out he))
      clear he HST
      go_wp2_with fail
      go_ret
      exact ⟨by rw [HR.out]; rfl, HB1.out.trans ((HBN.out _).mono HB1.out.size)⟩
     ·have hst := HST.out.trans (decide_eq_false he)
      have HN1 : Hid (∀ (j : Nat) q, j < k + 1 → o.ps[j]? = some q → ¬ q.key = key) := fun j q hj hq => by
       by_cases hjk : j = k
       ·subst hjk
        rw [HP.out] at hq
        rw [← Option.some.inj hq]
        exact he
       ·exact hno.out j q (by omega) hq
      clear he HST
      go_wp2_with fail
      go_roundw
      case rel => exact ⟨k + 1, hlt, by go_num, Lib.hid (HBN.out _), HN1⟩
      case measure => simp [intOf]; omega
    ·obtain rfl : k = o.ps.length := by omega
     have HR := Lib.hid (HVN.out (idx_none fun j p hp => hno.out j p (List.getElem?_eq_some_iff.1 hp).1 hp))
     go_wp2_with fail
     go_ret
     exact ⟨by rw [HR.out]; rfl, HB1.out.trans (hb.out.mono HB1.out.size)⟩
  | true =>
   go_wp2_with fail
   refine (HIX.out _).mono ?_
   rintro e w3 ⟨rfl, hb⟩
   have HB13 := Lib.hid hb
   clear hb HIX
   cases hx : idx (us key.data.toList) with
   | none =>
    simp only [idxRes]
    go_wp2_with fail
    go_loopw [52] (fun x wr => ∃ k : Nat, k ≤ o.ps.length ∧ x = .int .i64 k ∧ Hid (Below w1.heap.size w1 wr) ∧ Hid (∀ (j : Nat) p, j < k → o.ps[j]? = some p → ¬ p.key = key)) (fun x _ => o.ps.length - (intOf x).toNat)
    case atStart => exact ⟨0, Nat.zero_le _, rfl, HB13, Lib.hid fun j p hj => absurd hj (Nat.not_lt_zero _)⟩
    case round =>
     obtain ⟨k, hk, rfl, hb, hno⟩ := hrel
     by_cases hlt : k < o.ps.length
     ·obtain ⟨p, HP⟩ : ∃ p, Hid (o.ps[k]? = some p) := ⟨_, List.getElem?_eq_getElem hlt⟩
      obtain ⟨g, rfl, hc⟩ := HCE.out wr hb.out k p HP.out
      have d0 := hc 0 _ rfl
      have d1 := hc 1 _ rfl
      have d2 := hc 2 _ rfl
      have d3 := hc 3 _ rfl
      have d4 := hc 4 _ rfl
      have d5 := hc 5 _ rfl
      have d6 := hc 6 _ rfl
      simp only [Nat.add_zero] at d0
      have HBN : Hid (∀ o : Obj, Below w1.heap.size w1 (wr.alloc o)) := fun o => hb.out.trans ((below_new wr o).mono hb.out.size)
      have HST := Lib.hid (toList_eq_is p.key key)
      clear hc
      by_cases he : p.key = key
      ·have hst := HST.out.trans (decide_eq_true he)
       have HR := Lib.hid (HV.out k (idx_of HND.out HP.out he))
       clear he HST
       go_wp2_with fail
       go_ret
       exact ⟨by rw [HR.out]; rfl, HB1.out.trans ((HBN.out _).mono HB1.out.size)⟩
      ·have hst := HST.out.trans (decide_eq_false he)
       have HN1 : Hid (∀ (j : Nat) q, j < k + 1 → o.ps[j]? = some q → ¬ q.key = key) := fun j q hj hq => by
        by_cases hjk : j = k
        ·subst hjk
         rw [HP.out] at hq
         rw [← Option.some.inj hq]
         exact he
        ·exact hno.out j q (by omega) hq
       clear he HST
       go_wp2_with fail
       go_roundw
       case rel => exact ⟨k + 1, hlt, by go_num, Lib.hid (HBN.out _), HN1⟩
       case measure => simp [intOf]; omega
     ·obtain rfl : k = o.ps.length := by omega
      have HR := Lib.hid (HVN.out (idx_none fun j p hp => hno.out j p (List.getElem?_eq_some_iff.1 hp).1 hp))
      go_wp2_with fail
      go_ret
      exact ⟨by rw [HR.out]; rfl, HB1.out.trans (hb.out.mono HB1.out.size)⟩
   | some n =>
    simp only [idxRes]
    by_cases hn : n < o.ps.length
    ·have hn' : (n : Int) < (o.ps.length : Int) := by omega
     obtain ⟨p, HP⟩ : ∃ p, Hid (o.ps[n]? = some p) := ⟨_, List.getElem?_eq_getElem hn⟩
     obtain ⟨g, rfl, hc⟩ := HCE.out w3 HB13.out n p HP.out
     have d0 := hc 0 _ rfl
     simp only [Nat.add_zero] at d0
     have HST := Lib.hid (toList_eq_is p.key key)
     clear hc hn hx
     by_cases he : p.key = key
     ·have hst := HST.out.trans (decide_eq_true he)
      have HR := Lib.hid (HV.out n (idx_of HND.out HP.out he))
      clear he HST
      go_wp2_with fail
      go_ret
      exact ⟨by rw [HR.out]; rfl, HB1.out.trans (HB13.out.mono HB1.out.size)⟩
     ·have hst := HST.out.trans (decide_eq_false he)
      clear he HST
      go_wp2_with fail
      clear d0 hst hn' HP
      go_loopw [52] (fun x wr => ∃ k : Nat, k ≤ o.ps.length ∧ x = .int .i64 k ∧ Hid (Below w1.heap.size w1 wr) ∧ Hid (∀ (j : Nat) p, j < k → o.ps[j]? = some p → ¬ p.key = key)) (fun x _ => o.ps.length - (intOf x).toNat)
      case atStart => exact ⟨0, Nat.zero_le _, rfl, HB13, Lib.hid fun j p hj => absurd hj (Nat.not_lt_zero _)⟩
      case round =>
       obtain ⟨k, hk, rfl, hb, hno⟩ := hrel
       by_cases hlt : k < o.ps.length
       ·obtain ⟨p, HP⟩ : ∃ p, Hid (o.ps[k]? = some p) := ⟨_, List.getElem?_eq_getElem hlt⟩
        obtain ⟨gg, e', hc⟩ := HCE.out wr hb.out k p HP.out
        injection e' with e'
        injection e' with e'
        subst e'
        have d0 := hc 0 _ rfl
        have d1 := hc 1 _ rfl
        have d2 := hc 2 _ rfl
        have d3 := hc 3 _ rfl
        have d4 := hc 4 _ rfl
        have d5 := hc 5 _ rfl
        have d6 := hc 6 _ rfl
        simp only [Nat.add_zero] at d0
        have HBN : Hid (∀ o : Obj, Below w1.heap.size w1 (wr.alloc o)) := fun o => hb.out.trans ((below_new wr o).mono hb.out.size)
        have HST := Lib.hid (toList_eq_is p.key key)
        clear hc
        by_cases he : p.key = key
        ·have hst := HST.out.trans (decide_eq_true he)
         have HR := Lib.hid (HV.out k (idx_of HND.out HP.out he))
         clear he HST
         go_wp2_with fail
         go_ret
         exact ⟨by rw [HR.out]; rfl, HB1.out.trans ((HBN.out _).mono HB1.out.size)⟩
        ·have hst := HST.out.trans (decide_eq_false he)
         have HN1 : Hid (∀ (j : Nat) q, j < k + 1 → o.ps[j]? = some q → ¬ q.key = key) := fun j q hj hq => by
          by_cases hjk : j = k
          ·subst hjk
           rw [HP.out] at hq
           rw [← Option.some.inj hq]
           exact he
          ·exact hno.out j q (by omega) hq
         clear he HST
         go_wp2_with fail
         go_roundw
         case rel => exact ⟨k + 1, hlt, by go_num, Lib.hid (HBN.out _), HN1⟩
         case measure => simp [intOf]; omega
       ·obtain rfl : k = o.ps.length := by omega
        have HR := Lib.hid (HVN.out (idx_none fun j p hp => hno.out j p (List.getElem?_eq_some_iff.1 hp).1 hp))
        go_wp2_with fail
        go_ret
        exact ⟨by rw [HR.out]; rfl, HB1.out.trans (hb.out.mono HB1.out.size)⟩
    ·have hn' : ¬ (n : Int) < (o.ps.length : Int) := by omega
     clear hn hx
     go_wp2_with fail
     clear hn'
     go_loopw [52] (fun x wr => ∃ k : Nat, k ≤ o.ps.length ∧ x = .int .i64 k ∧ Hid (Below w1.heap.size w1 wr) ∧ Hid (∀ (j : Nat) p, j < k → o.ps[j]? = some p → ¬ p.key = key)) (fun x _ => o.ps.length - (intOf x).toNat)
     case atStart => exact ⟨0, Nat.zero_le _, rfl, HB13, Lib.hid fun j p hj => absurd hj (Nat.not_lt_zero _)⟩
     case round =>
      obtain ⟨k, hk, rfl, hb, hno⟩ := hrel
      by_cases hlt : k < o.ps.length
      ·obtain ⟨p, HP⟩ : ∃ p, Hid (o.ps[k]? = some p) := ⟨_, List.getElem?_eq_getElem hlt⟩
       obtain ⟨g, rfl, hc⟩ := HCE.out wr hb.out k p HP.out
       have d0 := hc 0 _ rfl
       have d1 := hc 1 _ rfl
       have d2 := hc 2 _ rfl
       have d3 := hc 3 _ rfl
       have d4 := hc 4 _ rfl
       have d5 := hc 5 _ rfl
       have d6 := hc 6 _ rfl
       simp only [Nat.add_zero] at d0
       have HBN : Hid (∀ o : Obj, Below w1.heap.size w1 (wr.alloc o)) := fun o => hb.out.trans ((below_new wr o).mono hb.out.size)
       have HST := Lib.hid (toList_eq_is p.key key)
       clear hc
       by_cases he : p.key = key
       ·have hst := HST.out.trans (decide_eq_true he)
        have HR := Lib.hid (HV.out k (idx_of HND.out HP.out he))
        clear he HST
        go_wp2_with fail
        go_ret
        exact ⟨by rw [HR.out]; rfl, HB1.out.trans ((HBN.out _).mono HB1.out.size)⟩
       ·have hst := HST.out.trans (decide_eq_false he)
        have HN1 : Hid (∀ (j : Nat) q, j < k + 1 → o.ps[j]? = some q → ¬ q.key = key) := fun j q hj hq => by
         by_cases hjk : j = k
         ·subst hjk
          rw [HP.out] at hq
          rw [← Option.some.inj hq]
          exact he
         ·exact hno.out j q (by omega) hq
        clear he HST
        go_wp2_with fail
        go_roundw
        case rel => exact ⟨k + 1, hlt, by go_num, Lib.hid (HBN.out _), HN1⟩
        case measure => simp [intOf]; omega
      ·obtain rfl : k = o.ps.length := by omega
       have HR := Lib.hid (HVN.out (idx_none fun j p hp => hno.out j p (List.getElem?_eq_some_iff.1 hp).1 hp))
       go_wp2_with fail
       go_ret
       exact ⟨by rw [HR.out]; rfl, HB1.out.trans (hb.out.mono HB1.out.size)⟩
end
structure RO (w : World) (A i n : Nat) (o : Ob) (g cap : Nat) (r : Value) : Prop where
 c0 : w.cell? ⟨A, 0, none⟩ = some (.slice (some ⟨g, 0, none⟩) n cap)
 cell : ∀ j v, (objV (o, r))[j]? = some v → w.cell? ⟨g, i * 8 + j, none⟩ = some v
 lA : A < w.heap.size
 lg : g < w.heap.size
section
variable {w w' : World} {ow : Nat → Option Nat} {A i : Nat} {H : Hs} {R : List Value} {o : Ob}
theorem RO.low {n g cap : Nat} {r : Value} (h : RO w A i n o g cap r) (hb : Below w.heap.size w w') : RO w' A i n o g cap r :=
 ⟨(World.cell?_of_block (w := w) (a := ⟨A, 0, none⟩) (hb.block A h.lA)).trans h.c0, fun j v hj => (World.cell?_of_block (w := w) (a := ⟨g, i * 8 + j, none⟩) (hb.block g h.lg)).trans (h.cell j v hj), Nat.lt_of_lt_of_le h.lA hb.size, Nat.lt_of_lt_of_le h.lg hb.size⟩
theorem RH.ro (h : RH w A H ow R) (ho : H.os[i]? = some o) : ∃ g cap r, RO w A i H.os.length o g cap r ∧ H.os.length ≤ cap ∧ R[i]? = some r ∧ ow g = some 0 := by
 obtain ⟨g, cap, r, c0, hc, hr, hcell, hg⟩ := h.row ho
 obtain ⟨ov, hov, -, -⟩ := h.hb
 exact ⟨g, cap, r, ⟨c0, fun j v hj => (hcell j v hj).1, hov.lt, h.lt g (by rw [hg]; simp)⟩, hc, hr, hg⟩
def PRow (w : World) (r : Value) (ps : List Pr) : Prop := ∃ rA rc, r = .slice rA ps.length rc ∧ ps.length ≤ rc ∧ ∀ (k : Nat) p, ps[k]? = some p → ∃ g, rA = some ⟨g, 0, none⟩ ∧ g < w.heap.size ∧ ∀ j u, (Pr.cs p)[j]? = some u → w.cell? ⟨g, k * 7 + j, none⟩ = some u
theorem PRow.low {r : Value} {ps : List Pr} (h : PRow w r ps) (hb : Below w.heap.size w w') : PRow w' r ps := by
 obtain ⟨rA, rc, h1, h2, h3⟩ := h
 refine ⟨rA, rc, h1, h2, fun k p hp => ?_⟩
 obtain ⟨g, h4, h5, h6⟩ := h3 k p hp
 exact ⟨g, h4, Nat.lt_of_lt_of_le h5 hb.size, fun j u hj => (World.cell?_of_block (w := w) (a := ⟨g, k * 7 + j, none⟩) (hb.block g h5)).trans (h6 j u hj)⟩
theorem RH.prow (h : RH w A H ow R) {r : Value} (ho : H.os[i]? = some o) (hr : R[i]? = some r) : PRow w r o.ps := by
 obtain ⟨hrow, -⟩ := h.props ho hr
 obtain ⟨rA, rc, e, h2, h3⟩ := rows_form hrow
 refine ⟨rA, rc, e, h2, fun k p hp => ?_⟩
 obtain ⟨g, e1, e2, e3⟩ := h3 (Nat.lt_of_le_of_lt (Nat.zero_le k) (List.getElem?_eq_some_iff.1 hp).1)
 exact ⟨g, e1, e3, fun j u hj => (prop_cell hrow (by rw [e, e1]) hp hj).1⟩
theorem obj_some {v : Vl} (hat : H.at v = some i) (ho : H.os[i]? = some o) : H.obj v = some o := by
 unfold Hs.obj
 rw [hat]
 exact ho
set_option maxRecDepth 8000 in
set_option maxHeartbeats 1000000 in
theorem rlen_any (h : RH w A H ow R) (v : Vl) (hl : H.os.length ≤ 100000) :
  Calls Tryz.prog 45 #[pv A, v.v] w fun e w' => e = .returned (lenR (H.obj v)) ∧ Below w.heap.size w w' := by
 cases hat : H.at v with
 | none =>
  rw [obj_none hat]
  exact rlen_none h v hl hat
 | some i =>
  obtain ⟨o, ho⟩ : ∃ o, H.os[i]? = some o := ⟨H.os[i]'(at_lt hat), List.getElem?_eq_getElem (at_lt hat)⟩
  have hi := at_lt hat
  have hob := obj_some hat ho
  have hb0 := below_new w (.cells v.cs.toArray 29)
  have HB := Lib.hid hb0
  have HC := Lib.hid (rclass_any (h.low hb0) v hl)
  rw [hob] at HC ⊢
  have HV := Lib.hid (Blk.new w 29 v.cs)
  have HH := Lib.hid (h.low hb0)
  have HT := Lib.hid fun w' (hb : Below (w.alloc (.cells v.cs.toArray 29)).heap.size (w.alloc (.cells v.cs.toArray 29)) w') => rat_any (HH.out.low hb) v hl
  rw [hat] at HT
  have HL0 : Hid (lenR (some o) = if o.cls = AR then .tuple #[.int .i64 (o.len : Int), .bool true] else .tuple #[.int .i64 0, .bool false]) := rfl
  obtain ⟨r, HR⟩ : ∃ r, Hid (lenR (some o) = r) := ⟨_, rfl⟩
  rw [HR.out]
  rw [HR.out] at HL0
  have HA := Lib.hid (ar_eq o.cls)
  obtain ⟨g, cap, rr, hro, hcap, -, -⟩ := (h.low hb0).ro ho
  have HRO := Lib.hid hro
  have hii : (i : Int) < (H.os.length : Int) := by omega
  clear h hb0 hat hob HR ho hro
  obtain ⟨vk, vn, vs⟩ := v
  simp only [Vl.v, Vl.cs, atI, clsR] at HB HC HT HH HV HRO ⊢
  by_cases hc : o.cls = AR
  ·have ha := HA.out.trans (decide_eq_true hc)
   have HL := HL0.out
   rw [if_pos hc] at HL
   have HL := Lib.hid HL
   clear HL0 HA hc
   go_enter Tryz.func45, Tryz.ntmps45
   go_wp2_with fail
   refine HC.out.mono ?_
   rintro e w1 ⟨rfl, hb⟩
   have hb2 := hb.drew
   have HB1 := Lib.hid (HB.out.trans (hb2.mono HB.out.size))
   have HB10 := Lib.hid hb2
   have hs0 : (fun w' : World => (w'.cell? ⟨w.heap.size, 0, none⟩ = some (.int .i64 vk) ∧ w'.cell? ⟨w.heap.size, 1, none⟩ = some (.int .i64 vn) ∧ w'.cell? ⟨w.heap.size, 2, none⟩ = some (.string vs)) ∧ w'.cell? ⟨A, 0, none⟩ = some (.slice (some ⟨g, 0, none⟩) H.os.length cap) ∧ w'.cell? ⟨g, i * 8 + 6, none⟩ = some (.int .i64 (o.len : Int))) w1.drew := ⟨Blk.three (v := ⟨vk, vn, vs⟩) (HV.out.low hb2), (HRO.out.low hb2).c0, (HRO.out.low hb2).cell 6 _ rfl⟩
   dsimp only at hs0
   clear hb hb2 HC HB
   go_wp2_with fail
   refine wp_region_held_drew (S := (fun w' : World => (w'.cell? ⟨w.heap.size, 0, none⟩ = some (.int .i64 vk) ∧ w'.cell? ⟨w.heap.size, 1, none⟩ = some (.int .i64 vn) ∧ w'.cell? ⟨w.heap.size, 2, none⟩ = some (.string vs)) ∧ w'.cell? ⟨A, 0, none⟩ = some (.slice (some ⟨g, 0, none⟩) H.os.length cap) ∧ w'.cell? ⟨g, i * 8 + 6, none⟩ = some (.int .i64 (o.len : Int)))) (by kernel_rfl) (hs0) (fun hHeld0 => ?_)
   generalize w1.drew = w2 at *
   refine tk 0 ?_ ‹_› ?_ ?_; rotate_left; focus (intro w0 hSw; obtain ⟨⟨e0, e1, e2⟩, e3, e4⟩ := hSw; go_simp; try with_reducible rfl)
   refine tk 1 ?_ ‹_› ?_ ?_; rotate_left; focus (intro w0 hSw; obtain ⟨⟨e0, e1, e2⟩, e3, e4⟩ := hSw; go_simp; try with_reducible rfl)
   refine tk 2 ?_ ‹_› ?_ ?_; rotate_left; focus (intro w0 hSw; obtain ⟨⟨e0, e1, e2⟩, e3, e4⟩ := hSw; go_simp; try with_reducible rfl)
   refine tk 3 ?_ ‹_› ?_ ?_; rotate_left; focus (intro w0 hSw; obtain ⟨⟨e0, e1, e2⟩, e3, e4⟩ := hSw; go_simp; try with_reducible rfl)
   refine tk 4 ?_ ‹_› ?_ ?_; rotate_left; focus (intro w0 hSw; obtain ⟨⟨e0, e1, e2⟩, e3, e4⟩ := hSw; go_simp; try with_reducible rfl)
   refine tk 5 ?_ ‹_› ?_ ?_; rotate_left; focus (intro w0 hSw; obtain ⟨⟨e0, e1, e2⟩, e3, e4⟩ := hSw; go_simp; try with_reducible rfl)
   try simp only [PT]
   refine wpAnyH_ready (rs := [6]) (by decide +kernel) (by simp) (AllReadyH.cons rfl (fun K hK => ?_) AllReadyH.nil)
   go_simp
   refine (HT.out _ HB10.out).mono ?_
   rintro e w3 ⟨rfl, hb⟩
   have HB3 := Lib.hid (HB1.out.trans (hb.mono HB1.out.size))
   have hs3 : (fun w' : World => (w'.cell? ⟨w.heap.size, 0, none⟩ = some (.int .i64 vk) ∧ w'.cell? ⟨w.heap.size, 1, none⟩ = some (.int .i64 vn) ∧ w'.cell? ⟨w.heap.size, 2, none⟩ = some (.string vs)) ∧ w'.cell? ⟨A, 0, none⟩ = some (.slice (some ⟨g, 0, none⟩) H.os.length cap) ∧ w'.cell? ⟨g, i * 8 + 6, none⟩ = some (.int .i64 (o.len : Int))) w3 := ⟨Blk.three (v := ⟨vk, vn, vs⟩) ((HV.out.low HB10.out).low hb), ((HRO.out.low HB10.out).low hb).c0, ((HRO.out.low HB10.out).low hb).cell 6 _ rfl⟩
   dsimp only at hs3
   clear hb HT
   refine hK.out _ _ hs3 (fun hHeld1 => ?_)
   clear hK K hHeld0 
   try simp only [PT]
   refine tk 7 ?_ ‹_› ?_ ?_; rotate_left; focus (intro w0 hSw; obtain ⟨⟨e0, e1, e2⟩, e3, e4⟩ := hSw; go_simp; try with_reducible rfl)
   refine tk 8 ?_ ‹_› ?_ ?_; rotate_left; focus (intro w0 hSw; obtain ⟨⟨e0, e1, e2⟩, e3, e4⟩ := hSw; go_simp; try with_reducible rfl)
   refine tk 9 ?_ ‹_› ?_ ?_; rotate_left; focus (intro w0 hSw; obtain ⟨⟨e0, e1, e2⟩, e3, e4⟩ := hSw; go_simp; try with_reducible rfl)
   refine tk 10 ?_ ‹_› ?_ ?_; rotate_left; focus (intro w0 hSw; obtain ⟨⟨e0, e1, e2⟩, e3, e4⟩ := hSw; go_simp; try with_reducible rfl)
   refine tk 11 ?_ ‹_› ?_ ?_; rotate_left; focus (intro w0 hSw; obtain ⟨⟨e0, e1, e2⟩, e3, e4⟩ := hSw; go_simp; try with_reducible rfl)
   try simp only [PT]
   refine wpAnyH_done (by kernel_rfl) ?_ _
   clear hHeld1 hs0 hs3
   go_wp2_with fail
   go_ret2
   exact ⟨by rw [HL.out]; rfl, HB3.out⟩
  ·have ha := HA.out.trans (decide_eq_false hc)
   have HL := HL0.out
   rw [if_neg hc] at HL
   have HL := Lib.hid HL
   clear HL0 HA hc
   go_enter Tryz.func45, Tryz.ntmps45
   go_wp2_with fail
   refine HC.out.mono ?_
   rintro e w1 ⟨rfl, hb⟩
   go_wp2_with fail
   go_ret2
   exact ⟨by rw [HL.out]; rfl, HB.out.trans (hb.mono HB.out.size)⟩
end
end Go.Proofs.YtcahijpbkjplmaaGreatDoor.G
