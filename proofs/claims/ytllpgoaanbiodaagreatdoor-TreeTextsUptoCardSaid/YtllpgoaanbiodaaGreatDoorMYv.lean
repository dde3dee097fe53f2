/-

-/
import Derived.Test.YtllpgoaanbiodaaGreatDoorMPi
import Derived.Test.YtllpgoaanbiodaaGreatDoorMYi
import Derived.Test.YtllpgoaanbiodaaGreatDoorMYj
import Derived.Test.YtllpgoaanbiodaaGreatDoorMYs
import Derived.Test.YtllpgoaanbiodaaGreatDoorMYq
import Derived.Test.YtllpgoaanbiodaaGreatDoorMYt
import Derived.Test.YtllpgoaanbiodaaGreatDoorMY
import Derived.Test.YtllpgoaanbiodaaGreatDoorMVv
set_option maxHeartbeats 2000000
set_option maxRecDepth 20000
namespace Go.Proofs.YtllpgoaanbiodaaGreatDoor.R
open Go.RowKit Go.Proofs.YtllpgoaanbiodaaGreatDoor Go.Proofs.YtllpgoaanbiodaaGreatDoor.T
theorem chk0 {v : V} (h : v.chk = 0) : v.k = 41 ∧ v.ok = true ∧ v.deep ≤ 64 := by
 unfold V.chk at h
 by_cases hc : v.k = 41 ∧ v.ok = true
 ·rw [if_pos hc] at h
  refine ⟨hc.1, hc.2, ?_⟩
  by_cases hd : 64 < v.deep
  ·rw [if_pos hd] at h; cases h
  ·omega
 ·rw [if_neg hc] at h
  cases h
theorem kids_st {v : V} (hk : v.k = 41) (hok : v.ok = true) : v.l.all isSt = true ∧ V.oks v.l = true := by
 obtain ⟨R, ho⟩ := Ps.ok_right hok
 refine ⟨(kids_41 hk).symm.trans R.kids, ?_⟩
 rw [oks_all]
 exact List.all_eq_true.2 ho
theorem join_snoc : ∀ (l : List Bs) (b : Bs), l ≠ [] → Lib.join (l ++ [b]) [32] = Lib.join l [32] ++ 32 :: b
 | [], _, h => absurd rfl h
 | [a], b, _ => by
  show Lib.join [a, b] [32] = _
  rw [Ps.join_two, Ps.join_one, Ps.join_one]
 | a :: c :: r, b, _ => by
  have ih := join_snoc (c :: r) b (by simp)
  rw [List.cons_append, List.cons_append, Ps.join_two, Ps.join_two]
  rw [List.cons_append] at ih
  rw [ih]
  simp
theorem join_app : ∀ (l m : List Bs), l ≠ [] → m ≠ [] → Lib.join (l ++ m) [32] = Lib.join l [32] ++ 32 :: Lib.join m [32]
 | [], _, h, _ => absurd rfl h
 | [a], m, _, hm => by
  cases m with
  | nil => exact absurd rfl hm
  | cons b r =>
   show Lib.join (a :: b :: r) [32] = _
   rw [Ps.join_two, Ps.join_one]
 | a :: c :: r, m, _, hm => by
  have ih := join_app (c :: r) m (by simp) hm
  rw [List.cons_append, List.cons_append, Ps.join_two, Ps.join_two]
  rw [List.cons_append] at ih
  rw [ih]
  simp
def V.tx (v : V) : ByteArray := if v.chk = 0 then (if 4096 < v.txt.length then ⟨#[]⟩ else ⟨v.txt.toArray⟩) else ⟨#[]⟩
def V.te (v : V) : Int := if v.chk = 0 then (if 4096 < v.txt.length then 2 else 0) else v.chk
theorem tres_eq (v : V) : v.tres = .tuple #[.string v.tx, .int .i64 v.te] := by
 unfold V.tres V.tx V.te
 by_cases h : v.chk = 0
 ·rw [if_pos h, if_pos h, if_pos h]
  by_cases h2 : 4096 < v.txt.length
  ·rw [if_pos h2, if_pos h2, if_pos h2]
  ·rw [if_neg h2, if_neg h2, if_neg h2]
 ·rw [if_neg h, if_neg h, if_neg h]
structure Say (v : V) : Prop where
 a : isE v = true → TellA v
 s : isSt v = true → TellS v
def SayB (v : V) : Prop := ∀ u : V, u.size < v.size → Fine u → Say u
theorem SayB.kid {v u : V} (h : SayB v) (hu : u ∈ v.l) : SayB u := fun x hx hf => h x (Nat.lt_trans hx (size_kid hu)) hf
theorem sa {v u : V} (hB : SayB v) (hf : Fine v) (hu : u ∈ v.l) (he : isE u = true) : TellA u := (hB u (size_kid hu) (hf.kid hu)).a he
theorem ss {v u : V} (hB : SayB v) (hf : Fine v) (hu : u ∈ v.l) (he : isSt u = true) : TellS u := (hB u (size_kid hu) (hf.kid hu)).s he
theorem fc_len {v : V} (hf : Fine v) (h : v.k = 10 ∨ v.k = 39) : (func v.nm v.ks (v.l.map V.o)).length ≤ 8796093000000 := by
 have h1 := raw_len hf false
 rw [o_raw] at h1
 rcases h with h | h
 ·rw [h] at h1; exact h1
 ·rw [h] at h1; exact h1
theorem fc_of {v : V} (hB : SayB v) (hf : Fine v) (h : v.k = 10 ∨ v.k = 39) : TellFc v := by
 refine func_of' v hf.2 (fc_len hf h) fun u hu => ss hB hf hu ?_
 have h1 := hf.kids
 rcases h with h | h
 ·rw [kids_10 h] at h1; exact all_mem h1 hu
 ·rw [kids_39 h] at h1; exact all_mem h1 hu
theorem grand_e {v : V} (hB : SayB v) (hf : Fine v) (h : v.k = 8 ∨ v.k = 22) : ∀ u ∈ v.l, ∀ z ∈ u.l, TellA z := fun u hu z hz => by
 have h1 := hf.kids
 have hfu := hf.kid hu
 have h2 := hfu.kids
 rcases h with h | h
 ·rw [kids_8 h] at h1
  rw [kids_9 (isK_k (all_mem h1 hu))] at h2
  obtain ⟨a, hl, ha⟩ := are1.1 h2
  have : z = a := by rw [hl] at hz; simpa using hz
  subst this
  exact sa (hB.kid hu) hfu hz ha
 ·rw [kids_22 h, Bool.and_eq_true] at h1
  rw [kids_23 (isK_k (all_mem h1.2 hu)), Bool.or_eq_true] at h2
  rcases h2 with h2 | h2
  ·rw [List.isEmpty_iff] at h2
   rw [h2] at hz
   cases hz
  ·obtain ⟨a, hl, ha⟩ := are1.1 h2
   have : z = a := by rw [hl] at hz; simpa using hz
   subst this
   exact sa (hB.kid hu) hfu hz ha
theorem vs_of {v : V} (hB : SayB v) (hf : Fine v) (h : v.k = 22) : TellVs v := vars_of v hf h (grand_e hB hf (.inr h))
theorem raw_all {v : V} (hB : SayB v) (hf : Fine v) (he : isE v = true) : TellR v := by
 have hkid := hf.kids
 rcases ke (isE_k he) with h | h | h | h | h | h | h | h | h | h | h | h | h | h | h | h | h | h | h | h
 ·exact raw_1 v h (leaf_1 v hf h)
 ·exact raw_2 v h (leaf_2 v hf h)
 ·exact raw_3 v h (leaf_3 v hf h)
 ·exact raw_4 v h (leaf_4 v hf h)
 ·exact raw_5 v h (leaf_5 v hf h)
 ·by_cases hn : v.n = 0
  ·exact raw_6 v h (leaf_6f v hf h hn)
  ·exact raw_6 v h (leaf_6t v hf h hn)
 ·rw [kids_7 h] at hkid
  exact raw_7 v hf h fun u hu => sa hB hf hu (all_mem hkid hu)
 ·exact raw_8 v h (props_of v hf h (grand_e hB hf (.inl h)))
 ·refine raw_10 v h fun no x w hx => ?_
  have e : v.o.raw no = func v.nm v.ks (v.l.map V.o) := by rw [o_raw, h]; rfl
  rw [e]
  exact fc_of hB hf (.inl h) x w hx
 ·rw [kids_11 h] at hkid
  obtain ⟨a, hl, ha⟩ := are1.1 hkid
  exact raw_11 v a hf h hl (sa hB hf (by rw [hl]; simp) ha)
 ·rw [kids_12 h] at hkid
  obtain ⟨a, c, hl, ha, hc⟩ := are2.1 hkid
  exact raw_12 v a c hf h hl (sa hB hf (by rw [hl]; simp) ha) (sa hB hf (by rw [hl]; simp) hc)
 ·rw [kids_13 h, Bool.and_eq_true] at hkid
  rcases hl : v.l with _ | ⟨a, r⟩
  ·rw [hl] at hkid; cases hkid.1
  ·exact raw_13 v a r hf h hl (sa hB hf (by rw [hl]; simp) (all_mem hkid.2 (by rw [hl]; simp))) (fun u hu => sa hB hf (by rw [hl]; simp [hu]) (all_mem hkid.2 (by rw [hl]; simp [hu])))
 ·rw [kids_14 h, Bool.and_eq_true] at hkid
  rcases hl : v.l with _ | ⟨a, r⟩
  ·rw [hl] at hkid; cases hkid.1
  ·exact raw_14 v a r hf h hl (sa hB hf (by rw [hl]; simp) (all_mem hkid.2 (by rw [hl]; simp))) (fun u hu => sa hB hf (by rw [hl]; simp [hu]) (all_mem hkid.2 (by rw [hl]; simp [hu])))
 ·rw [kids_15 h] at hkid
  obtain ⟨a, hl, ha⟩ := are1.1 hkid
  exact raw_15 v a hf h hl (sa hB hf (by rw [hl]; simp) ha)
 ·rw [kids_16 h] at hkid
  obtain ⟨a, hl, ha⟩ := are1.1 hkid
  by_cases hn : v.n = 1
  ·exact raw_16p v a hf h hl (sa hB hf (by rw [hl]; simp) (isTg_e ha)) hn
  ·exact raw_16n v a hf h hl (sa hB hf (by rw [hl]; simp) (isTg_e ha)) hn
 ·rw [kids_17 h] at hkid
  obtain ⟨a, c, hl, ha, hc⟩ := are2.1 hkid
  exact raw_17 v a c hf h hl (sa hB hf (by rw [hl]; simp) ha) (sa hB hf (by rw [hl]; simp) hc)
 ·rw [kids_18 h] at hkid
  obtain ⟨a, c, hl, ha, hc⟩ := are2.1 hkid
  exact raw_18 v a c hf h hl (sa hB hf (by rw [hl]; simp) ha) (sa hB hf (by rw [hl]; simp) hc)
 ·rw [kids_19 h] at hkid
  obtain ⟨a, c, e, hl, ha, hc, he⟩ := are3.1 hkid
  exact raw_19 v a c e hf h hl (sa hB hf (by rw [hl]; simp) ha) (sa hB hf (by rw [hl]; simp) hc) (sa hB hf (by rw [hl]; simp) he)
 ·rw [kids_20 h] at hkid
  obtain ⟨a, c, hl, ha, hc⟩ := are2.1 hkid
  exact raw_20 v a c hf h hl (sa hB hf (by rw [hl]; simp) (isTg_e ha)) (sa hB hf (by rw [hl]; simp) hc)
 ·rw [kids_21 h] at hkid
  obtain ⟨a, c, hl, ha, hc⟩ := are2.1 hkid
  exact raw_21 v a c hf h hl (sa hB hf (by rw [hl]; simp) ha) (sa hB hf (by rw [hl]; simp) hc)
theorem may_of {v u : V} (hB : SayB v) (hf : Fine v) (hu : u ∈ v.l) (h : isE u = true ∨ u.k = 42 ∨ u.k = 22) : TellM u := by
 intro no x w hx
 by_cases h1 : u.k = 42
 ·exact maybe_42 u h1 no x w hx
 ·by_cases h2 : u.k = 22
  ·exact maybe_22 u h2 (vs_of (hB.kid hu) (hf.kid hu) h2) no x w hx
  ·have he : isE u = true := by
    rcases h with h | h | h
    ·exact h
    ·exact absurd h h1
    ·exact absurd h h2
   exact maybe_at u ⟨h1, h2⟩ (sa hB hf hu he) no x w hx
theorem tg_at {u : V} (h : isTg u = true) : u.o.at 11 true = u.o.part true := by
 have hk : u.k = 3 ∨ u.k = 11 ∨ u.k = 12 := of_decide_eq_true h
 have hlv : 11 ≤ u.o.lvl := by
  rw [o_lvl]
  unfold lvlN
  rcases hk with hk | hk | hk
  ·rw [hk]
   show 11 ≤ 13
   omega
  ·rw [hk]
   show 11 ≤ (if 12 ≤ _ then 12 else 11)
   split <;> omega
  ·rw [hk]
   show 11 ≤ (if 12 ≤ _ then 12 else 11)
   split <;> omega
 unfold O.part O.at
 rw [o_k, if_neg (by omega), if_neg (by omega), if_neg (by omega), if_neg (by omega)]
theorem st_all {v : V} (hB : SayB v) (hf : Fine v) (hs : isSt v = true) : TellS v := by
 intro x w hx
 have hkid := hf.kids
 have hlen := hf.len
 rcases ks (.inl hs) with h | h | h | h | h | h | h | h | h | h | h | h | h | h | h | h | h | h
 ·exact rst7_22 v hf h (vs_of hB hf h) x w hx
 ·rw [kids_24 h] at hkid
  obtain ⟨a, hl, ha⟩ := are1.1 hkid
  have hu : a ∈ v.l := by rw [hl]; simp
  exact rst7_24 v a hf h hl (fun x w hx => bare_of a (hf.kid hu) ha (sa hB hf hu ha) x w hx) x w hx
 ·rw [kids_25 h] at hkid
  refine rst7_25 v h hf.2 ?_ (fun u hu => ss hB hf hu (isIn_st (all_mem hkid hu))) x w hx
  have h1 := st_len hf
  have e : v.o.st = block (v.l.map V.o) := by rw [o_st v, h]; rfl
  rw [e] at h1
  unfold block at h1
  simp only [List.length_cons, List.length_append] at h1
  omega
 ·rw [kids_26 h, Bool.or_eq_true] at hkid
  rcases hkid with hkid | hkid
  ·obtain ⟨a, c, hl, ha, hc⟩ := are2.1 hkid
   exact rst7_26a v a c hf h hl (sa hB hf (by rw [hl]; simp) ha) (ss hB hf (by rw [hl]; simp) (blk_st hc)) x w hx
  ·obtain ⟨a, c, e, hl, ha, hc, he⟩ := are3.1 hkid
   exact rst7_26b v a c e hf h hl (sa hB hf (by rw [hl]; simp) ha) (ss hB hf (by rw [hl]; simp) (blk_st hc)) (ss hB hf (by rw [hl]; simp) (blk_st he)) x w hx
 ·rw [kids_27 h] at hkid
  obtain ⟨a, c, hl, ha, hc⟩ := are2.1 hkid
  exact rst7_27 v a c hf h hl (sa hB hf (by rw [hl]; simp) ha) (ss hB hf (by rw [hl]; simp) (blk_st hc)) x w hx
 ·rw [kids_28 h] at hkid
  obtain ⟨a, c, hl, ha, hc⟩ := are2.1 hkid
  exact rst7_28 v a c hf h hl (ss hB hf (by rw [hl]; simp) (blk_st ha)) (sa hB hf (by rw [hl]; simp) hc) x w hx
 ·rw [kids_29 h] at hkid
  obtain ⟨a, c, e, d, hl, ha, hc, he, hd⟩ := are4.1 hkid
  exact rst7_29 v a c e d hf h hl (may_of hB hf (by rw [hl]; simp) (Bg_of ha)) (may_of hB hf (by rw [hl]; simp) ((EO_of hc).imp id .inl)) (may_of hB hf (by rw [hl]; simp) ((EO_of he).imp id .inl)) (ss hB hf (by rw [hl]; simp) (blk_st hd)) x w hx
 ·rw [kids_30 h] at hkid
  obtain ⟨a, c, d, hl, ha, hc, hd⟩ := are3.1 hkid
  have hu : a ∈ v.l := by rw [hl]; simp
  have hp := (Ps.taker_part ha (hf.kid hu).1).2.2
  by_cases hak : a.k = 22
  ·exact rst7_30v v a c d hf h hl (may_of hB hf hu (Tk_of ha)) (sa hB hf (by rw [hl]; simp) hc) (ss hB hf (by rw [hl]; simp) (blk_st hd)) hak hp.symm x w hx
  ·have htg : isTg a = true := by
    unfold isTk at ha
    rw [show isK 22 a = false from decide_eq_false hak, Bool.false_and, Bool.or_false] at ha
    exact ha
   exact rst7_30t v a c d hf h hl (may_of hB hf hu (Tk_of ha)) (sa hB hf hu (isTg_e htg)) (sa hB hf (by rw [hl]; simp) hc) (ss hB hf (by rw [hl]; simp) (blk_st hd)) hak ((tg_at htg).trans hp.symm) x w hx
 ·rw [kids_31 h, List.isEmpty_iff] at hkid
  exact rst7_31 v h (fun x w hx => rrs_31 v h hkid x w hx) x w hx
 ·rw [kids_32 h, List.isEmpty_iff] at hkid
  exact rst7_32 v h (fun x w hx => rrs_32 v h hkid x w hx) x w hx
 ·rw [kids_33 h, Bool.or_eq_true] at hkid
  refine rst7_33 v h (fun x w hx => rrs_33 v h hf ?_ ?_ x w hx) x w hx
  ·rcases hkid with hkid | hkid
   ·rw [List.isEmpty_iff] at hkid; rw [hkid]; simp
   ·obtain ⟨a, hl, ha⟩ := are1.1 hkid; rw [hl]; simp
  ·intro u hu
   rcases hkid with hkid | hkid
   ·rw [List.isEmpty_iff] at hkid; rw [hkid] at hu; cases hu
   ·obtain ⟨a, hl, ha⟩ := are1.1 hkid
    have : u = a := by rw [hl] at hu; simpa using hu
    subst this
    exact sa hB hf hu ha
 ·rw [kids_34 h] at hkid
  obtain ⟨a, hl, ha⟩ := are1.1 hkid
  refine rst7_34 v h (fun x w hx => rrs_34 v h hf (by rw [hl]; simp) (fun u hu => ?_) x w hx) x w hx
  have : u = a := by rw [hl] at hu; simpa using hu
  subst this
  exact sa hB hf hu ha
 ·rw [kids_35 h, Bool.and_eq_true] at hkid
  obtain ⟨a, c, e, hl, ha, hc, he⟩ := are3.1 hkid.1
  have hA := ss hB hf (u := a) (by rw [hl]; simp) (blk_st ha)
  have hk2 := hkid.2
  rw [hl] at hk2
  refine rst7_35 v h (fun x w hx => ?_) x w hx
  by_cases hck : c.k = 25
  ·have hC := ss hB hf (u := c) (by rw [hl]; simp) (blk_st (decide_eq_true hck))
   by_cases hek : e.k = 25
   ·exact rrs_35bc v a c e hf h hl hA hC (ss hB hf (by rw [hl]; simp) (blk_st (decide_eq_true hek))) hck hek x w hx
   ·exact rrs_35b v a c e hf h hl hA hC hck hek x w hx
  ·have hek : e.k = 25 := by
    simp only [Bool.or_eq_true] at hk2
    rcases hk2 with h2 | h2
    ·exact absurd (isK_k h2) hck
    ·exact isK_k h2
   exact rrs_35c v a c e hf h hl hA (ss hB hf (by rw [hl]; simp) (blk_st (decide_eq_true hek))) hck hek x w hx
 ·rw [kids_36 h] at hkid
  rcases hl : v.l with _ | ⟨a, r⟩
  ·rw [hl] at hkid; cases hkid
  ·rw [hl] at hkid
   simp only [Bool.and_eq_true] at hkid
   have hr37 : ∀ u ∈ r, u.k = 37 := fun u hu => isK_k (all_mem hkid.2.1 hu)
   refine rst7_36 v h (fun x w hx => rrs_36 v a r hf h hl hr37 (sa hB hf (by rw [hl]; simp) hkid.1) (fun u hu => ?_) x w hx) x w hx
   have hum : u ∈ v.l := by rw [hl]; simp [hu]
   have hfu := hf.kid hum
   have h2 := hfu.kids
   rw [kids_37 (hr37 u hu)] at h2
   rcases hul : u.l with _ | ⟨z, rr⟩
   ·rw [hul] at h2; cases h2
   ·rw [hul] at h2
    simp only [Bool.and_eq_true] at h2
    refine ⟨z, rr, hul, ?_, fun s hs => ss (hB.kid hum) hfu (by rw [hul]; simp [hs]) (isIn_st (all_mem h2.2 hs))⟩
    by_cases hz : z.k = 42
    ·exact .inl hz
    ·refine .inr ⟨hz, ?_⟩
     rcases EO_of h2.1 with he | he
     ·exact sa (hB.kid hum) hfu (by rw [hul]; simp) he
     ·exact absurd he hz
 ·exfalso
  have := of_decide_eq_true hs
  omega
 ·rw [kids_38 h] at hkid
  obtain ⟨a, hl, ha⟩ := are1.1 hkid
  exact rst7_38 v h (fun x w hx => rrs_38 v a hf h hl (ss hB hf (by rw [hl]; simp) (isIn_st ha)) x w hx) x w hx
 ·exact rst7_39 v h (fc_of hB hf (.inr h)) x w hx
 ·exact rst7_40 v h x w hx
theorem say_any : ∀ (n : Nat) (v : V), v.size ≤ n → Fine v → Say v
 | 0, v, h, _ => by have := size_pos v; omega
 | n + 1, v, h, hf => by
  have hB : SayB v := fun u hu hfu => say_any n u (by omega) hfu
  exact ⟨fun he => at_of v hf he (raw_all hB hf he), fun hs => st_all hB hf hs⟩
def pre (ts : Ts) (j : Nat) : ByteArray := ⟨(Lib.join ((ts.take j).map bl) [32]).toArray⟩
theorem pre_size (ts : Ts) (j : Nat) : (pre ts j).size = (Lib.join ((ts.take j).map bl) [32]).length := Ps.sz _
theorem ba_append (a : Bs) (s : ByteArray) : (⟨a.toArray⟩ : ByteArray) ++ s = ⟨(a ++ bl s).toArray⟩ := by
 have := mk_append a (bl s)
 rw [← this]
theorem pre_one (ts : Ts) (h : 0 < ts.length) : pre ts (0 + 1) = ⟨#[]⟩ ++ ts[0] := by
 rcases ts with _ | ⟨a, r⟩
 ·cases h
 ·show (⟨(Lib.join [bl a] [32]).toArray⟩ : ByteArray) = _
  rw [Ps.join_one]
  have := ba_append [] a
  rw [List.nil_append] at this
  exact this.symm
theorem pre_more (ts : Ts) (j : Nat) (h0 : ¬ j = 0) (h : j < ts.length) : pre ts (j + 1) = (pre ts j ++ ⟨#[32]⟩) ++ ts[j] := by
 unfold pre
 rw [snoc_get ts j h, List.map_append]
 show (⟨(Lib.join ((ts.take j).map bl ++ [bl ts[j]]) [32]).toArray⟩ : ByteArray) = _
 rw [join_snoc _ _ (by
  intro e
  have := congrArg List.length e
  rw [List.length_map, List.length_take, List.length_nil] at this
  omega), ba_append, ba_append]
 congr 2
 show _ = _ ++ [32] ++ _
 simp
theorem pre_le (ts : Ts) (j : Nat) : (pre ts j).size ≤ (Lib.join (ts.map bl) [32]).length := by
 rw [pre_size]
 conv => rhs; rw [← List.take_append_drop j ts, List.map_append]
 by_cases h1 : (ts.take j).map bl = []
 ·rw [h1]
  simp [Lib.join]
 ·by_cases h2 : (ts.drop j).map bl = []
  ·rw [h2, List.append_nil]
   omega
  ·rw [join_app _ _ h1 h2, List.length_append]
   omega
theorem refText_any (v : V) (x : X) (w : World) (hx : Is w v x) (hb : v.bulk ≤ 4194304) :
  Calls Tryz.prog 22 #[x.v] w fun e w' => e = .returned (.tuple #[.string v.tx, .int .i64 v.te]) ∧ Below w.heap.size w w' := by
 have HCK := Lib.hid fun w' (h2 : Below w.heap.size w w') => refCheck_any v x w' (Is.below h2 _ _ hx) hb
 obtain ⟨xka, xkc, xla, xlc, rfl, -, -, -, hrow⟩ := hx.open
 have HR := Lib.hid hrow
 obtain ⟨W0, hW0, HB0, HF⟩ := box_new w v.k v.nm v.n v.s xka v.ks.length xkc xla v.l.length xlc
 have HW0 := Lib.hid hW0
 simp only [X.v] at HCK ⊢
 by_cases hc : v.chk = 0
 rotate_left
 ·have HX : Hid (v.tx = ⟨#[]⟩) := by show _ = _; unfold V.tx; rw [if_neg hc]
  have HE : Hid (v.te = v.chk) := by show _ = _; unfold V.te; rw [if_neg hc]
  rw [HX.out, HE.out]
  have hcb : (v.chk == 0) = false := by rw [beq_eq_false_iff_ne]; exact hc
  have hcn : (v.chk != 0) = true := bne_iff_ne.2 hc
  clear hx hb hW0 hrow HX HE HR hc
  generalize v.chk = ch, v.k = k, v.nm = nm, v.n = n, v.s = s, v.ks.length = kn, v.l.length = ln at *
  go_enter Tryz.func22, Tryz.ntmps22
  go_wp2_with fail
  rw [HW0.out]
  clear HW0
  refine (HCK.out _ HB0.out).mono ?_
  rintro e w1 ⟨rfl, hb1⟩
  have HB1 := Lib.hid (HB0.out.trans (hb1.mono HB0.out.size))
  clear hb1
  go_wp2_with fail
  go_ret2
  exact ⟨rfl, HB1.out⟩
 obtain ⟨hk41, hok, -⟩ := chk0 hc
 have hf : Fine v := ⟨hok, hb⟩
 have hkst := kids_st hk41 hok
 have HS := Lib.hid fun w' (h2 : Below w.heap.size w w') => refStmtsT_of v.l xla xlc w' (RowB.below HR.out h2) (fun u hu => (say_any u.size u (Nat.le_refl _) (hf.kid hu)).s (all_mem hkst.1 hu)) hf.len.1 (by have := (Ps.toks_le hok).1; unfold V.toks at this; omega)
 have htl := Ps.toks_le hok
 have HX : Hid (v.tx = if 4096 < v.txt.length then ⟨#[]⟩ else ⟨v.txt.toArray⟩) := by show _ = _; unfold V.tx; rw [if_pos hc]
 have HE : Hid (v.te = if 4096 < v.txt.length then 2 else 0) := by show _ = _; unfold V.te; rw [if_pos hc]
 obtain ⟨ts, hts⟩ : ∃ ts, stmts (v.l.map V.o) = ts := ⟨_, rfl⟩
 have htt : v.toks = ts := hts
 have HTX : Hid (v.txt = Lib.join (ts.map bl) [32]) := by show _ = _; unfold V.txt; rw [htt]
 rw [hts] at HS
 rw [htt] at htl
 have hlen : ts.length ≤ 268435456 := by omega
 have hjl : v.txt.length ≤ 268435456 := by omega
 rw [HTX.out] at hjl HX HE
 rw [hc] at HCK
 obtain ⟨tx, htx⟩ : ∃ t, v.tx = t := ⟨_, rfl⟩
 obtain ⟨te, hte⟩ : ∃ t, v.te = t := ⟨_, rfl⟩
 rw [htx] at HX ⊢
 rw [hte] at HE ⊢
 have HJL := Lib.hid hjl
 have hlen2 : (ts.length : Int) ≤ 268435456 := by omega
 clear hx hb hW0 hrow HR hc hk41 hok hf hkst htl hts htt HTX htx hte hjl
 generalize v.k = k, v.nm = nm, v.n = n, v.s = s, v.ks.length = kn, v.l.length = ln at *
 go_enter Tryz.func22, Tryz.ntmps22
 go_wp2_with fail
 rw [HW0.out]
 clear HW0
 refine (HCK.out _ HB0.out).mono ?_
 rintro e w1 ⟨rfl, hb1⟩
 have HC1 := Lib.hid hb1
 have HB1 := Lib.hid (HB0.out.trans (hb1.mono HB0.out.size))
 obtain ⟨c0, c1, c2, c3, c4, c5⟩ := (HF.out _ hb1).six
 clear hb1
 go_wp2_with fail
 refine (HS.out _ HB1.out).mono ?_
 rintro e w2 ⟨v2, rfl, ho, hb2⟩
 obtain ⟨A, c, rfl, hcc, hst⟩ := ho.rd
 have HST := Lib.hid hst
 have HB2 := Lib.hid (HB1.out.trans (hb2.mono HB1.out.size))
 clear ho hb2 c0 c1 c2 c3 c4 c5 hst hcc
 go_wp2_with fail
 go_loopw [5, 6, 7, 17] (fun u _ _ i wr => ∃ (j : Nat) (sj : ByteArray), j ≤ ts.length ∧ i = .int .i64 j ∧ u = .string sj ∧ Hid (sj = pre ts j) ∧ Hid (sj.size ≤ 4096) ∧ Hid (wr = w2))
  (fun _ _ _ i _ => ts.length - (intOf i).toNat)
 case atStart => exact ⟨0, ⟨#[]⟩, Nat.zero_le _, rfl, rfl, Lib.hid rfl, Lib.hid (by decide), Lib.hid rfl⟩
 case round =>
  obtain ⟨j, sj, hj, rfl, rfl, hsj, hss, hwr⟩ := hrel
  obtain rfl := hwr.out
  clear hwr
  by_cases hlt : j < ts.length
  ·obtain ⟨g, o, rfl, hg, hcx⟩ := HST.out.at_ hlt
   have hpl := pre_le ts (j + 1)
   have hjl := HJL.out
   by_cases hj0 : j = 0
   ·have hp := pre_one ts (by omega)
    subst hj0
    have hsj0 : sj = ⟨#[]⟩ := hsj.out
    rw [Nat.add_zero] at hcx
    rw [hp] at hpl
    have hsz0 : sj.size = 0 := by rw [hsj0]; rfl
    rw [← hsj0] at hp hpl
    generalize ts[0] = t at *
    have htz : t.size ≤ 268435456 := by
     rw [ByteArray.size_append] at hpl
     omega
    have hadd : ∀ w', (Op.stringOp .add sj t).run Tryz.prog w' = .ok (.string (sj ++ t)) w' := fun w' => run_string_add_sum w' _ _ (by omega)
    obtain ⟨s1, hs1⟩ : ∃ s1, sj ++ t = s1 := ⟨_, rfl⟩
    rw [hs1] at hadd hp hpl
    have HPE := Lib.hid hp.symm
    clear hsj0 hsz0
    clear hp hs1 htz
    have HPL : Hid (4096 < s1.size → tx = ⟨#[]⟩ ∧ te = 2) := fun h => by
     have h2 : 4096 < (Lib.join (ts.map bl) [32]).length := by omega
     rw [HX.out, HE.out, if_pos h2, if_pos h2]
     exact ⟨rfl, rfl⟩
    clear hpl hjl
    by_cases h4 : 4096 < s1.size
    ·have h4i : (4096 : Int) < (s1.size : Int) := by omega
     have HTX := Lib.hid (HPL.out h4).1
     have HTE := Lib.hid (HPL.out h4).2
     clear HPL h4
     go_wp2_with fail
     go_ret2
     exact ⟨by rw [HTX.out, HTE.out]; rfl, HB2.out⟩
    ·have h4i : (s1.size : Int) ≤ 4096 := by omega
     have h4n : ¬ (4096 : Int) < (s1.size : Int) := by omega
     have HSS : Hid (s1.size ≤ 4096) := Lib.hid (by omega)
     clear HPL h4
     go_wp2_with fail
     go_roundw
     case rel => exact ⟨0 + 1, s1, by omega, by go_num, rfl, HPE, HSS, (by first | exact Lib.hid rfl | exact Lib.hid trivial)⟩
     case measure => simp [intOf]; omega
   ·have hp := pre_more ts j hj0 hlt
    rw [hp, ← hsj.out] at hpl
    rw [← hsj.out] at hp
    have hji : (0 : Int) < (j : Int) := by omega
    generalize ts[j] = t at *
    have hsz := hss.out
    have h1z : (sj ++ (⟨#[32]⟩ : ByteArray)).size = sj.size + 1 := by rw [ByteArray.size_append]; rfl
    have htz : t.size ≤ 268435456 := by
     rw [ByteArray.size_append] at hpl
     omega
    have hq1 : ∀ w', (Op.stringOp .add sj ⟨#[32]⟩).run Tryz.prog w' = .ok (.string (sj ++ ⟨#[32]⟩)) w' := fun w' => run_string_add_sum w' _ _ (by show sj.size + 1 ≤ _; omega)
    obtain ⟨sa, hsa⟩ : ∃ sa, sj ++ (⟨#[32]⟩ : ByteArray) = sa := ⟨_, rfl⟩
    rw [hsa] at hq1 hp hpl h1z
    have hq2 : ∀ w', (Op.stringOp .add sa t).run Tryz.prog w' = .ok (.string (sa ++ t)) w' := fun w' => run_string_add_sum w' _ _ (by omega)
    obtain ⟨s1, hs1⟩ : ∃ s1, sa ++ t = s1 := ⟨_, rfl⟩
    rw [hs1] at hq2 hp hpl
    have HPE := Lib.hid hp.symm
    clear hp hs1 hsa hsz h1z htz
    have HPL : Hid (4096 < s1.size → tx = ⟨#[]⟩ ∧ te = 2) := fun h => by
     have h2 : 4096 < (Lib.join (ts.map bl) [32]).length := by omega
     rw [HX.out, HE.out, if_pos h2, if_pos h2]
     exact ⟨rfl, rfl⟩
    clear hpl hjl
    by_cases h4 : 4096 < s1.size
    ·have h4i : (4096 : Int) < (s1.size : Int) := by omega
     have HTX := Lib.hid (HPL.out h4).1
     have HTE := Lib.hid (HPL.out h4).2
     clear HPL h4
     go_wp2_with fail
     go_ret2
     exact ⟨by rw [HTX.out, HTE.out]; rfl, HB2.out⟩
    ·have h4i : (s1.size : Int) ≤ 4096 := by omega
     have h4n : ¬ (4096 : Int) < (s1.size : Int) := by omega
     have HSS : Hid (s1.size ≤ 4096) := Lib.hid (by omega)
     clear HPL h4
     go_wp2_with fail
     go_roundw
     case rel => exact ⟨j + 1, s1, by omega, by go_num, rfl, HPE, HSS, (by first | exact Lib.hid rfl | exact Lib.hid trivial)⟩
     case measure => simp [intOf]; omega
  ·obtain rfl : j = ts.length := by omega
   have hfin : (pre ts ts.length) = ⟨(Lib.join (ts.map bl) [32]).toArray⟩ := by unfold pre; rw [List.take_length]
   have hfs : ¬ 4096 < (Lib.join (ts.map bl) [32]).length := by
    have h1 := hss.out
    rw [hsj.out, hfin, Ps.sz] at h1
    omega
   have HX2 : Hid (tx = sj) := by show _ = _; rw [HX.out, if_neg hfs, hsj.out, hfin]
   have HE2 : Hid (te = 0) := by show _ = _; rw [HE.out, if_neg hfs]
   clear hfin hfs
   go_wp2_with fail
   go_ret2
   exact ⟨by rw [HX2.out, HE2.out]; rfl, HB2.out⟩
theorem texts_law (v : V) (x : X) (w : World) (hx : Is w v x) (hb : v.bulk ≤ 1048576) (hT : Tab w) :
  Calls Tryz.prog 5 #[x.v] w fun e w' => e = .returned (.bool true) ∧ Below w.heap.size w w' := by
 have HLV := Lib.hid fun w' (h : Below w.heap.size w w') => live_any w' (hT.below h)
 have HTA := Lib.hid fun w' (h2 : Below w.heap.size w w') => text_any v x w' (Is.below h2 _ _ hx) (by omega) (hT.below h2)
 have HTR := Lib.hid fun w' (h2 : Below w.heap.size w w') => refText_any v x w' (Is.below h2 _ _ hx) (by omega)
 rw [tres_eq] at HTA
 obtain ⟨xka, xkc, xla, xlc, rfl, -, -, -, -⟩ := hx.open
 obtain ⟨W0, hW0, HB0, HF⟩ := box_new w v.k v.nm v.n v.s xka v.ks.length xkc xla v.l.length xlc
 have HW0 := Lib.hid hW0
 simp only [X.v] at HTA HTR ⊢
 clear hx hb hW0 hT
 generalize v.tx = tx, v.te = te at *
 go_enter Tryz.func5, Tryz.ntmps5
 go_wp2_with fail
 rw [HW0.out]
 clear HW0
 refine (HTA.out _ HB0.out).mono ?_
 rintro e w1 ⟨rfl, hb1⟩
 have HC1 := Lib.hid hb1
 have HB1 := Lib.hid (HB0.out.trans (hb1.mono HB0.out.size))
 obtain ⟨c0, c1, c2, c3, c4, c5⟩ := (HF.out _ hb1).six
 clear hb1
 go_wp2_with fail
 refine (HTR.out _ HB1.out).mono ?_
 rintro e w2 ⟨rfl, hb2⟩
 have HB2 := Lib.hid (HB1.out.trans (hb2.mono HB1.out.size))
 clear hb2 c0 c1 c2 c3 c4 c5
 go_wp2_with fail
 refine (HLV.out _ HB2.out).mono ?_
 rintro e w3 ⟨rfl, hb3⟩
 have HB3 := Lib.hid (HB2.out.trans (hb3.mono HB2.out.size))
 clear hb3
 go_wp2_with fail
 go_ret
 exact ⟨rfl, HB3.out⟩
end Go.Proofs.YtllpgoaanbiodaaGreatDoor.R
