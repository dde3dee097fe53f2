/-

-/
import Derived.Test.YtllpgoaanbiodaaGreatDoorMQ
import Derived.Test.YtllpgoaanbiodaaGreatDoorMTB
set_option maxRecDepth 8000
namespace Go.Proofs.YtllpgoaanbiodaaGreatDoor.R
open Go.RowKit Go.Proofs.YtllpgoaanbiodaaGreatDoor Go.Proofs.YtllpgoaanbiodaaGreatDoor.T
def PredB (f : Nat) (p : V → Bool) (l : List V) : Prop := ∀ v ∈ l, ∀ (x : X) (w : World), Is w v x → Calls Tryz.prog f #[x.v] w fun e w' => e = .returned (.bool (p v)) ∧ Below w.heap.size w w'
theorem Pred.on {f : Nat} {p : V → Bool} (h : Pred f p) (l : List V) : PredB f p l := fun v _ x w hx => h v x w hx
theorem countP_snoc {α : Type} (p : α → Bool) (l : List α) (j : Nat) (h : j < l.length) : (l.take (j + 1)).countP p = (l.take j).countP p + (if p l[j] then 1 else 0) := by
 rw [List.take_succ_eq_append_getElem h, List.countP_append]
 simp [List.countP_cons]
theorem countP_take_le {α : Type} (p : α → Bool) (l : List α) (j : Nat) : (l.take j).countP p ≤ j := Nat.le_trans List.countP_le_length (List.length_take_le _ _)
theorem count_any (f : Nat) (p : V → Bool) (hf : Ent f) (l : List V) (hp : PredB f p l) (A : Option Addr) (c : Nat) (w : World) (hR : Row w A l) (hlen : l.length ≤ 4194304) :
  Calls Tryz.prog 36 #[.slice A l.length c, .func (.func f) #[] #[]] w fun e w' => e = .returned (.int .i64 (l.countP p : Nat)) ∧ Below w.heap.size w w' := by
 have HP := Lib.hid hp
 have HR := Lib.hid hR
 have hlen' : (l.length : Int) ≤ 4194304 := by omega
 clear hp hR
 go_enter Tryz.func36, Tryz.ntmps36
 go_wp2_with fail
 go_loopw [5, 10] (fun t i wr => ∃ j : Nat, j ≤ l.length ∧ i = .int .i64 j ∧ t = .int .i64 ((l.take j).countP p : Nat) ∧ Hid (Below w.heap.size w wr))
  (fun _ i _ => l.length - (intOf i).toNat)
 case atStart => exact ⟨0, Nat.zero_le _, rfl, rfl, Lib.hid (Below.refl _ _)⟩
 case round =>
  obtain ⟨j, hj, rfl, rfl, hb⟩ := hrel
  by_cases hlt : j < l.length
  ·obtain ⟨g, o, rfl, hg, y, hy, hya⟩ := HR.out.at_ hlt
   obtain ⟨c0, c1, c2, c3, c4, c5⟩ := hy.below hg hb.out
   have HPj := Lib.hid (HP.out _ (List.getElem_mem hlt) y)
   have HI := Lib.hid fun w' (h : Below w.heap.size w w') => Is.below h _ _ hya
   have HSn := Lib.hid (countP_snoc p l j hlt)
   have hct := countP_take_le p l j
   obtain ⟨yk, ynm, yn, ys, yka, ykn, ykc, yla, yln, ylc⟩ := y
   dsimp only at c0 c1 c2 c3 c4 c5
   simp only [X.v] at HPj
   clear hy hya hg
   obtain ⟨b, hbv⟩ : ∃ b, p l[j] = b := ⟨_, rfl⟩
   rw [hbv] at HPj HSn
   clear hbv
   generalize l[j] = u at *
   generalize (l.take j).countP p = q at *
   go_wp2_with fail
   refine (HPj.out _ (HI.out _ (hb.out.alloc (by have := hb.out.size; omega) _))).mono ?_
   rintro e w1 ⟨rfl, hb1⟩
   have hb2 := Lib.hid ((hb.out.alloc (B := w.heap.size) (by have := hb.out.size; omega) (.cells #[.int .i64 yk, .string ynm, .int .i64 yn, .string ys, .slice yka ykn ykc, .slice yla yln ylc] 25)).trans (hb1.mono (by have := hb.out.size; simp; omega)))
   clear hb1 hb c0 c1 c2 c3 c4 c5
   cases b
   all_goals
    go_wp2_with fail
    go_roundw
    case rel => exact ⟨j + 1, by omega, by go_num, by rw [HSn.out]; simp, hb2⟩
    case measure => simp [intOf]; omega
  ·obtain rfl : j = l.length := by omega
   rw [List.take_length]
   go_wp2_with fail
   go_ret
   exact ⟨rfl, hb.out⟩
theorem all_count {α : Type} (p : α → Bool) (l : List α) : l.all p = decide (l.countP p = l.length) := by
 rw [Bool.eq_iff_iff, List.all_eq_true, decide_eq_true_eq, List.countP_eq_length]
theorem all_any (f : Nat) (p : V → Bool) (hf : Ent f) (l : List V) (hp : PredB f p l) (A : Option Addr) (c : Nat) (w : World) (hR : Row w A l) (hlen : l.length ≤ 4194304) :
  Calls Tryz.prog 26 #[.slice A l.length c, .func (.func f) #[] #[]] w fun e w' => e = .returned (.bool (l.all p)) ∧ Below w.heap.size w w' := by
 have HC := Lib.hid (count_any f p hf l hp A c w hR hlen)
 have HA := Lib.hid (all_count p l)
 have hle : l.countP p ≤ l.length := List.countP_le_length
 clear hp hR hf
 rw [HA.out]
 generalize l.countP p = q at *
 by_cases hq : q = l.length
 ·rw [decide_eq_true hq]
  subst hq
  go_enter Tryz.func26, Tryz.ntmps26
  go_wp2_with fail
  refine HC.out.mono ?_
  rintro e w1 ⟨rfl, hb⟩
  go_wp2_with fail
  go_ret
  exact ⟨rfl, hb⟩
 ·rw [decide_eq_false hq]
  have hqi : ((q : Int) == (l.length : Int)) = false := by rw [beq_eq_false_iff_ne]; omega
  clear HA hq
  generalize l.length = ln at *
  go_enter Tryz.func26, Tryz.ntmps26
  go_wp2_with fail
  refine HC.out.mono ?_
  rintro e w1 ⟨rfl, hb⟩
  go_wp2_with fail
  go_ret
  exact ⟨rfl, hb⟩
theorem are_len : ∀ (ps : List (V → Bool)) (l : List V), ¬ l.length = ps.length → are ps l = false
 | [], [], h => absurd rfl h
 | [], _ :: _, _ => rfl
 | _ :: _, [], _ => rfl
 | p :: ps, v :: l, h => by
  rw [are, are_len ps l (by simpa using h), Bool.and_false]
theorem are_step (ps : List (V → Bool)) (l : List V) (j : Nat) (h1 : j < ps.length) (h2 : j < l.length) : are (ps.drop j) (l.drop j) = (ps[j] l[j] && are (ps.drop (j + 1)) (l.drop (j + 1))) := by
 rw [List.drop_eq_getElem_cons h1, List.drop_eq_getElem_cons h2, are]
theorem are_any (fs : List (Nat × (V → Bool))) (l : List V) (hfs : ∀ q ∈ fs, Ent q.1 ∧ PredB q.1 q.2 l) (A : Option Addr) (c : Nat) (g n m : Nat) (w : World) (hn : n = fs.length) (hm : m = fs.length) (hg : g < w.heap.size) (hc : ∀ j (h : j < fs.length), w.cell? ⟨g, j, none⟩ = some (.func (.func fs[j].1) #[] #[])) (hR : Row w A l) (hlen : l.length ≤ 4194304) (hfl : fs.length ≤ 10) :
  Calls Tryz.prog 60 #[.slice A l.length c, .slice (some ⟨g, 0, none⟩) n m] w fun e w' => e = .returned (.bool (are (fs.map (·.2)) l)) ∧ Below w.heap.size w w' := by
 subst hn hm
 by_cases hl : l.length = fs.length
 ·have HF := Lib.hid hfs
  have HC := Lib.hid hc
  have HR := Lib.hid hR
  have HL := Lib.hid hl
  have hlen' : (fs.length : Int) ≤ 10 := by omega
  have HAl := Lib.hid (show are (fs.map (·.2)) l = are ((fs.map (·.2)).drop 0) (l.drop 0) from rfl)
  obtain ⟨r, hr⟩ : ∃ r, are (fs.map (·.2)) l = r := ⟨_, rfl⟩
  rw [hr] at HAl ⊢
  rw [hl]
  clear hfs hc hR hl hr
  go_enter Tryz.func60, Tryz.ntmps60
  go_wp2_with fail
  go_loopw [14] (fun i wr => ∃ j : Nat, j ≤ fs.length ∧ i = .int .i64 j ∧ Hid (r = are ((fs.map (·.2)).drop j) (l.drop j)) ∧ Hid (Below w.heap.size w wr))
   (fun i _ => fs.length - (intOf i).toNat)
  case atStart => exact ⟨0, Nat.zero_le _, rfl, HAl, Lib.hid (Below.refl _ _)⟩
  case round =>
   obtain ⟨j, hj, rfl, ha, hb⟩ := hrel
   by_cases hlt : j < fs.length
   ·have hlt2 : j < l.length := by rw [HL.out]; exact hlt
    obtain ⟨g2, o, rfl, hg2, y, hy, hya⟩ := HR.out.at_ hlt2
    obtain ⟨c0, c1, c2, c3, c4, c5⟩ := hy.below hg2 hb.out
    have cf := (hb.out.cell (p := ⟨g, j, none⟩) hg).trans (HC.out j hlt)
    obtain ⟨hent, hpb⟩ := HF.out _ (List.getElem_mem hlt)
    have HPj := Lib.hid (hpb _ (List.getElem_mem hlt2) y)
    have HI := Lib.hid fun w' (h : Below w.heap.size w w') => Is.below h _ _ hya
    have HSt := Lib.hid (are_step (fs.map (·.2)) l j (by simpa using hlt) hlt2)
    have hlj : (j : Int) < (fs.length : Int) := by omega
    obtain ⟨yk, ynm, yn, ys, yka, ykn, ykc, yla, yln, ylc⟩ := y
    dsimp only at c0 c1 c2 c3 c4 c5
    simp only [X.v] at HPj
    clear hy hya hg2 hpb
    obtain ⟨b, hbv⟩ : ∃ b, fs[j].2 l[j] = b := ⟨_, rfl⟩
    have HSt' : Hid (r = (b && are ((fs.map (·.2)).drop (j + 1)) (l.drop (j + 1)))) := by
     show _ = _
     rw [ha.out, HSt.out, List.getElem_map, hbv]
    rw [hbv] at HPj
    clear hbv ha HSt
    generalize l[j] = u at *
    generalize fs[j] = q at *
    obtain ⟨qf, qp⟩ := q
    dsimp only at hent HPj cf
    go_wp2_with fail
    refine (HPj.out _ (HI.out _ hb.out)).mono ?_
    rintro e w1 ⟨rfl, hb1⟩
    have hb2 := Lib.hid (hb.out.trans (hb1.mono hb.out.size))
    clear hb1 hb c0 c1 c2 c3 c4 c5 cf hent
    cases b with
    | true =>
     go_wp2_with fail
     go_roundw
     case rel => exact ⟨j + 1, by omega, by go_num, by rw [Bool.true_and] at HSt'; exact HSt', hb2⟩
     case measure => simp [intOf]; omega
    | false =>
     have hrf : Hid (r = false) := by rw [Bool.false_and] at HSt'; exact HSt'
     clear HSt' HAl
     go_wp2_with fail
     go_ret
     exact ⟨by rw [hrf.out]; rfl, hb2.out⟩
   ·obtain rfl : j = fs.length := by omega
    have hrt : Hid (r = true) := by
     show _ = _
     rw [ha.out, List.drop_of_length_le (by simp), List.drop_of_length_le (by rw [HL.out]; exact Nat.le_refl _)]
     rfl
    clear ha HAl
    go_wp2_with fail
    go_ret
    exact ⟨by rw [hrt.out]; rfl, hb.out⟩
 ·have HV := Lib.hid (are_len (fs.map (·.2)) l (by rw [List.length_map]; exact hl))
  have hl2 : ((l.length : Int) != (fs.length : Int)) = true := by rw [bne_iff_ne]; omega
  clear hR hc hfs hl
  generalize l.length = ln at *
  generalize fs.length = fl at *
  go_enter Tryz.func60, Tryz.ntmps60
  go_wp2_with fail
  go_ret
  exact ⟨by rw [HV.out]; rfl, Below.refl _ _⟩
theorem isName_any (s : ByteArray) (w : World) (hs : s.size ≤ 4194304) : Calls Tryz.prog 52 #[.string s] w fun e w' => e = .returned (.bool (isNm s)) ∧ w = w' := by
 have HI := Lib.hid fun w => isIdent_any s w (by omega)
 have HW := Lib.hid fun w => isWord_any s w
 have HV : Hid (isNm s = (isI (bl s) && !isW (bl s))) := Lib.hid rfl
 generalize isI (bl s) = P at *
 generalize isW (bl s) = Q at *
 cases P with
 | false =>
  clear HW
  go_enter Tryz.func52, Tryz.ntmps52
  go_wp2_with fail
  refine (HI.out _).mono ?_
  rintro e w' ⟨rfl, rfl⟩
  go_wp2_with fail
  go_ret
  exact ⟨by rw [HV.out]; rfl, rfl⟩
 | true =>
  cases Q
  all_goals
   go_enter Tryz.func52, Tryz.ntmps52
   go_wp2_with fail
   refine (HI.out _).mono ?_
   rintro e w' ⟨rfl, rfl⟩
   go_wp2_with fail
   refine (HW.out _).mono ?_
   rintro e w' ⟨rfl, rfl⟩
   go_wp2_with fail
   go_ret
   exact ⟨by rw [HV.out]; rfl, rfl⟩
theorem entName : Ent 52 := enters_of Tryz.func52 (by kernel_rfl) rfl
theorem countS_any (ks : List ByteArray) (A : Option Addr) (c : Nat) (w : World) (hR : Strs w A ks) (hlen : ks.length ≤ 4194304) (hk : ∀ k ∈ ks, k.size ≤ 4194304) :
  Calls Tryz.prog 106 #[.slice A ks.length c, .func (.func 52) #[] #[]] w fun e w' => e = .returned (.int .i64 (ks.countP isNm : Nat)) ∧ w = w' := by
 have HR := Lib.hid hR
 have HK := Lib.hid hk
 have hlen' : (ks.length : Int) ≤ 4194304 := by omega
 have hent := entName
 clear hR hk
 go_enter Tryz.func106, Tryz.ntmps106
 go_wp2_with fail
 go_loop [5, 10] (fun t i => ∃ j : Nat, j ≤ ks.length ∧ i = .int .i64 j ∧ t = .int .i64 ((ks.take j).countP isNm : Nat))
  (fun _ i => ks.length - (intOf i).toNat)
 case atStart => exact ⟨0, Nat.zero_le _, rfl, rfl⟩
 case round =>
  obtain ⟨j, hj, rfl, rfl⟩ := hrel
  by_cases hlt : j < ks.length
  ·obtain ⟨g, o, rfl, hg, hc⟩ := HR.out.at_ hlt
   have HN := Lib.hid fun w => isName_any ks[j] w (HK.out _ (List.getElem_mem hlt))
   have HSn := Lib.hid (countP_snoc isNm ks j hlt)
   have hct := countP_take_le isNm ks j
   obtain ⟨b, hbv⟩ : ∃ b, isNm ks[j] = b := ⟨_, rfl⟩
   rw [hbv] at HN HSn
   clear hbv
   generalize ks[j] = u at *
   generalize (ks.take j).countP isNm = q at *
   go_wp2_with fail
   refine (HN.out _).mono ?_
   rintro e w1 ⟨rfl, rfl⟩
   cases b
   all_goals
    go_wp2_with fail
    go_round
    case rel => exact ⟨j + 1, by omega, by go_num, by rw [HSn.out]; simp⟩
    case measure => simp [intOf]; omega
  ·obtain rfl : j = ks.length := by omega
   rw [List.take_length]
   go_wp2_with fail
   go_ret
   exact ⟨rfl, rfl⟩
theorem allS_any (ks : List ByteArray) (A : Option Addr) (c : Nat) (w : World) (hR : Strs w A ks) (hlen : ks.length ≤ 4194304) (hk : ∀ k ∈ ks, k.size ≤ 4194304) :
  Calls Tryz.prog 54 #[.slice A ks.length c, .func (.func 52) #[] #[]] w fun e w' => e = .returned (.bool (ks.all isNm)) ∧ w = w' := by
 have HC := Lib.hid (countS_any ks A c w hR hlen hk)
 have HA := Lib.hid (all_count isNm ks)
 have hle : ks.countP isNm ≤ ks.length := List.countP_le_length
 clear hR hk
 rw [HA.out]
 generalize ks.countP isNm = q at *
 by_cases hq : q = ks.length
 ·rw [decide_eq_true hq]
  subst hq
  go_enter Tryz.func54, Tryz.ntmps54
  go_wp2_with fail
  refine HC.out.mono ?_
  rintro e w1 ⟨rfl, rfl⟩
  go_wp2_with fail
  go_ret
  exact ⟨rfl, rfl⟩
 ·rw [decide_eq_false hq]
  have hqi : ((q : Int) == (ks.length : Int)) = false := by rw [beq_eq_false_iff_ne]; omega
  clear HA hq
  generalize ks.length = ln at *
  go_enter Tryz.func54, Tryz.ntmps54
  go_wp2_with fail
  refine HC.out.mono ?_
  rintro e w1 ⟨rfl, rfl⟩
  go_wp2_with fail
  go_ret
  exact ⟨rfl, rfl⟩
end Go.Proofs.YtllpgoaanbiodaaGreatDoor.R
