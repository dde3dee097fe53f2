/-

-/
import Derived.Test.YtllpgoaanbiodaaGreatDoorMSx
import Derived.Test.YtllpgoaanbiodaaGreatDoorMKd
import Derived.Test.YtllpgoaanbiodaaGreatDoorMH
import Derived.Test.YtllpgoaanbiodaaGreatDoorMI
import Derived.Test.YtllpgoaanbiodaaGreatDoorMJ
namespace Go.Proofs.YtllpgoaanbiodaaGreatDoor.R
open Go.RowKit Go.Proofs.YtllpgoaanbiodaaGreatDoor Go.Proofs.YtllpgoaanbiodaaGreatDoor.T
def Below' (v : V) : Prop := ∀ u : V, u.size < v.size → Fine u → (isE u = true → WExpr u) ∧ (isSt u = true ∨ u.k = 37 → WStmt u)
theorem Below'.kid {v u : V} (h : Below' v) (hu : u ∈ v.l) : Below' u := fun x hx hf => h x (Nat.lt_trans hx (size_kid hu)) hf
theorem isK_k {m : Int} {v : V} (h : isK m v = true) : v.k = m := of_decide_eq_true h
theorem isIn_st {v : V} (h : isIn v = true) : isSt v = true := by unfold isIn at h; rw [Bool.and_eq_true] at h; exact h.1
theorem isTg_e {v : V} (h : isTg v = true) : isE v = true := by
 have : v.k = 3 ∨ v.k = 11 ∨ v.k = 12 := of_decide_eq_true h
 exact decide_eq_true (by omega)
theorem ex_of {v u : V} (hB : Below' v) (hf : Fine v) (hu : u ∈ v.l) (he : isE u = true) : WExpr u := (hB u (size_kid hu) (hf.kid hu)).1 he
theorem st_of {v u : V} (hB : Below' v) (hf : Fine v) (hu : u ∈ v.l) (he : isSt u = true ∨ u.k = 37) : WStmt u := (hB u (size_kid hu) (hf.kid hu)).2 he
theorem blk_st {u : V} (h : isK 25 u = true) : isSt u = true := by
 have := isK_k h
 exact decide_eq_true (by omega)
theorem all_mem {p : V → Bool} {l : List V} (h : l.all p = true) {u : V} (hu : u ∈ l) : p u = true := List.all_eq_true.1 h u hu
theorem nms_of {l : List ByteArray} (h : l.all isNm = true) : ∀ k ∈ l, ¬ k.size = 0 := fun k hk => isNm_ne (List.all_eq_true.1 h k hk)
theorem wdecl_of {d : V} (hB : Below' d) (hf : Fine d) (hk : d.k = 23) : WDecl d := by
 have h1 := hf.nm
 rw [nm_23 hk] at h1
 have h2 := hf.kids
 rw [kids_23 hk, Bool.or_eq_true] at h2
 refine ⟨hk, isNm_ne h1, ?_, fun c hc => ?_⟩
 ·rcases h2 with h2 | h2
  ·rw [List.isEmpty_iff] at h2; rw [h2]; simp
  ·obtain ⟨a, hl, _⟩ := are1.1 h2; rw [hl]; simp
 ·rcases h2 with h2 | h2
  ·rw [List.isEmpty_iff] at h2; rw [h2] at hc; cases hc
  ·obtain ⟨a, hl, ha⟩ := are1.1 h2
   have hc' := hc
   rw [hl, List.mem_singleton] at hc'
   subst hc'
   exact ex_of hB hf hc ha
theorem wprop_of {p : V} (hB : Below' p) (hf : Fine p) (hk : p.k = 9) : WProp p := by
 have h2 := hf.kids
 rw [kids_9 hk] at h2
 obtain ⟨a, hl, ha⟩ := are1.1 h2
 have h3 := hf.tx
 rw [tx_9 hk] at h3
 exact ⟨hk, a, hl, ex_of hB hf (by rw [hl]; simp) ha, of_decide_eq_true h3, hf.len.2.2.1⟩
theorem wpart_of {v u : V} (hB : Below' v) (hf : Fine v) (hu : u ∈ v.l) (h : isE u = true ∨ u.k = 42 ∨ u.k = 22) : WPart u := by
 by_cases h42 : u.k = 42
 ·exact .inl h42
 ·by_cases h22 : u.k = 22
  ·refine .inr (.inl ⟨h22, (hf.kid hu).len.1, fun d hd => ?_⟩)
   have h2 := (hf.kid hu).kids
   rw [kids_22 h22, Bool.and_eq_true] at h2
   exact wdecl_of ((hB.kid hu).kid hd) ((hf.kid hu).kid hd) (isK_k (all_mem h2.2 hd))
  ·have he : isE u = true := by
    rcases h with h | h | h
    ·exact h
    ·exact absurd h h42
    ·exact absurd h h22
   exact .inr (.inr ⟨h42, h22, ex_of hB hf hu he⟩)
theorem EO_of {u : V} (h : isEO u = true) : isE u = true ∨ u.k = 42 := by
 unfold isEO at h
 rw [Bool.or_eq_true] at h
 rcases h with h | h
 ·exact .inl h
 ·exact .inr (isK_k h)
theorem Bg_of {u : V} (h : isBg u = true) : isE u = true ∨ u.k = 42 ∨ u.k = 22 := by
 unfold isBg at h
 rw [Bool.or_eq_true] at h
 rcases h with h | h
 ·exact .inr (.inr (isK_k h))
 ·rcases EO_of h with h | h
  ·exact .inl h
  ·exact .inr (.inl h)
theorem Tk_of {u : V} (h : isTk u = true) : isE u = true ∨ u.k = 42 ∨ u.k = 22 := by
 unfold isTk at h
 rw [Bool.or_eq_true, Bool.and_eq_true] at h
 rcases h with h | h
 ·exact .inl (isTg_e h)
 ·exact .inr (.inr (isK_k h.1))
theorem ke {v : V} (h : 1 ≤ v.k ∧ v.k ≤ 21 ∧ ¬ v.k = 9) : v.k = 1 ∨ v.k = 2 ∨ v.k = 3 ∨ v.k = 4 ∨ v.k = 5 ∨ v.k = 6 ∨ v.k = 7 ∨ v.k = 8 ∨ v.k = 10 ∨ v.k = 11 ∨ v.k = 12 ∨ v.k = 13 ∨ v.k = 14 ∨ v.k = 15 ∨ v.k = 16 ∨ v.k = 17 ∨ v.k = 18 ∨ v.k = 19 ∨ v.k = 20 ∨ v.k = 21 := by omega
theorem func_of {v : V} (hB : Below' v) (hf : Fine v) (hk : v.k = 10 ∨ v.k = 39) : Writes 89 v fun _ => func v.nm v.ks (v.l.map V.o) := by
 have h2 := hf.kids
 have h3 := hf.ns
 have h2' : v.l.all isSt = true := by
  rcases hk with hk | hk
  ·rw [kids_10 hk] at h2; exact h2
  ·rw [kids_39 hk] at h2; exact h2
 have h3' : v.ks.all isNm = true := by
  rcases hk with hk | hk
  ·rw [ns_10 hk] at h3; exact h3
  ·rw [ns_39 hk] at h3; exact h3
 exact function_any v (nms_of h3') (fun u hu => st_of hB hf hu (.inl (all_mem h2' hu))) hf.len.2.1 hf.len.1
theorem bare_all {v : V} (hB : Below' v) (hf : Fine v) (he : isE v = true) : Writes 133 v fun b => v.o.raw b := by
 have hkid := hf.kids
 have hnm := hf.nm
 have hlen := hf.len
 rcases ke (isE_k he) with h | h | h | h | h | h | h | h | h | h | h | h | h | h | h | h | h | h | h | h
 ·have := hf.num; rw [num_1 h] at this
  have := of_decide_eq_true this
  exact bare_basic v (by omega) (basic_1 v h this.1 this.2)
 ·have := hf.tx; rw [tx_2 h] at this
  exact bare_basic v (by omega) (basic_2 v h hlen.2.2.1 (of_decide_eq_true this))
 ·rw [nm_3 h] at hnm
  exact bare_basic v (by omega) (basic_3 v h (isNm_ne hnm))
 ·exact bare_basic v (by omega) (basic_4 v h)
 ·exact bare_basic v (by omega) (basic_5 v h)
 ·have := hf.num; rw [num_6 h] at this
  rcases of_decide_eq_true this with hn | hn
  ·exact bare_basic v (by omega) (basic_6f v h hn)
  ·exact bare_basic v (by omega) (basic_6t v h hn)
 ·rw [kids_7 h] at hkid
  exact bare_basic v (by omega) (basic_7 v h (fun u hu => ex_of hB hf hu (all_mem hkid hu)) hlen.1)
 ·rw [kids_8 h] at hkid
  exact bare_basic v (by omega) (basic_8 v h (fun u hu => wprop_of (hB.kid hu) (hf.kid hu) (isK_k (all_mem hkid hu))) hlen.1)
 ·exact bare_basic v (by omega) (basic_10 v h (func_of hB hf (.inl h)))
 ·rw [kids_11 h] at hkid; rw [nm_11 h] at hnm
  obtain ⟨a, hl, ha⟩ := are1.1 hkid
  exact bare_11 v a h hl (ex_of hB hf (by rw [hl]; simp) ha) (isI_ne hnm)
 ·rw [kids_12 h] at hkid
  obtain ⟨a, c, hl, ha, hc⟩ := are2.1 hkid
  exact bare_12 v a c h hl (ex_of hB hf (by rw [hl]; simp) ha) (ex_of hB hf (by rw [hl]; simp) hc)
 ·rw [kids_13 h, Bool.and_eq_true] at hkid
  rcases hl : v.l with _ | ⟨a, r⟩
  ·rw [hl] at hkid; cases hkid.1
  ·exact bare_13 v a r h hl (ex_of hB hf (by rw [hl]; simp) (all_mem hkid.2 (by rw [hl]; simp))) (fun u hu => ex_of hB hf (by rw [hl]; simp [hu]) (all_mem hkid.2 (by rw [hl]; simp [hu]))) (by have := hlen.1; rw [hl] at this; simp at this; omega)
 ·rw [kids_14 h, Bool.and_eq_true] at hkid
  rcases hl : v.l with _ | ⟨a, r⟩
  ·rw [hl] at hkid; cases hkid.1
  ·exact bare_14 v a r h hl (ex_of hB hf (by rw [hl]; simp) (all_mem hkid.2 (by rw [hl]; simp))) (fun u hu => ex_of hB hf (by rw [hl]; simp [hu]) (all_mem hkid.2 (by rw [hl]; simp [hu]))) (by have := hlen.1; rw [hl] at this; simp at this; omega)
 ·rw [kids_15 h] at hkid; rw [nm_15 h] at hnm
  obtain ⟨a, hl, ha⟩ := are1.1 hkid
  exact bare_15 v a h hl (ex_of hB hf (by rw [hl]; simp) ha) (op_ne hnm)
 ·rw [kids_16 h] at hkid; rw [nm_16 h] at hnm
  obtain ⟨a, hl, ha⟩ := are1.1 hkid
  have := hf.num; rw [num_16 h] at this
  rcases of_decide_eq_true this with hn | hn
  ·exact bare_16 v h (update_n v a h hn hl (ex_of hB hf (by rw [hl]; simp) (isTg_e ha)) (op_ne hnm))
  ·exact bare_16 v h (update_p v a h hn hl (ex_of hB hf (by rw [hl]; simp) (isTg_e ha)) (op_ne hnm))
 ·rw [kids_17 h] at hkid; rw [nm_17 h] at hnm
  obtain ⟨a, c, hl, ha, hc⟩ := are2.1 hkid
  exact bare_17 v a c h hl (ex_of hB hf (by rw [hl]; simp) ha) (ex_of hB hf (by rw [hl]; simp) hc) (op_ne hnm) hf he
 ·rw [kids_18 h] at hkid; rw [nm_18 h] at hnm
  obtain ⟨a, c, hl, ha, hc⟩ := are2.1 hkid
  exact bare_18 v a c h hl (ex_of hB hf (by rw [hl]; simp) ha) (ex_of hB hf (by rw [hl]; simp) hc) (op_ne hnm) hf he
 ·rw [kids_19 h] at hkid
  obtain ⟨a, c, e, hl, ha, hc, he⟩ := are3.1 hkid
  exact bare_19 v a c e h hl (ex_of hB hf (by rw [hl]; simp) ha) (ex_of hB hf (by rw [hl]; simp) hc) (ex_of hB hf (by rw [hl]; simp) he)
 ·rw [kids_20 h] at hkid; rw [nm_20 h] at hnm
  obtain ⟨a, c, hl, ha, hc⟩ := are2.1 hkid
  exact bare_20 v a c h hl (ex_of hB hf (by rw [hl]; simp) (isTg_e ha)) (ex_of hB hf (by rw [hl]; simp) hc) (op_ne hnm)
 ·rw [kids_21 h] at hkid
  obtain ⟨a, c, hl, ha, hc⟩ := are2.1 hkid
  exact bare_21 v a c h hl (ex_of hB hf (by rw [hl]; simp) ha) (ex_of hB hf (by rw [hl]; simp) hc)
theorem ks {v : V} (h : isSt v = true ∨ v.k = 37) : v.k = 22 ∨ v.k = 24 ∨ v.k = 25 ∨ v.k = 26 ∨ v.k = 27 ∨ v.k = 28 ∨ v.k = 29 ∨ v.k = 30 ∨ v.k = 31 ∨ v.k = 32 ∨ v.k = 33 ∨ v.k = 34 ∨ v.k = 35 ∨ v.k = 36 ∨ v.k = 37 ∨ v.k = 38 ∨ v.k = 39 ∨ v.k = 40 := by
 rcases h with h | h
 ·have : 22 ≤ v.k ∧ v.k ≤ 40 ∧ ¬ v.k = 23 ∧ ¬ v.k = 37 := of_decide_eq_true h
  omega
 ·omega
theorem stmt_all {v : V} (hB : Below' v) (hf : Fine v) (hs : isSt v = true ∨ v.k = 37) : WStmt v := by
 have hkid := hf.kids
 have hnm := hf.nm
 have hlen := hf.len
 rcases ks hs with h | h | h | h | h | h | h | h | h | h | h | h | h | h | h | h | h | h
 ·rw [kids_22 h, Bool.and_eq_true] at hkid
  exact stmt_22 v h (fun d hd => wdecl_of (hB.kid hd) (hf.kid hd) (isK_k (all_mem hkid.2 hd))) hlen.1
 ·rw [kids_24 h] at hkid
  obtain ⟨a, hl, ha⟩ := are1.1 hkid
  exact stmt_24 v a h hl (ex_of hB hf (by rw [hl]; simp) ha) ha
 ·rw [kids_25 h] at hkid
  exact stmt_25 v h (fun u hu => st_of hB hf hu (.inl (isIn_st (all_mem hkid hu)))) hlen.1
 ·rw [kids_26 h, Bool.or_eq_true] at hkid
  rcases hkid with hkid | hkid
  ·obtain ⟨a, c, hl, ha, hc⟩ := are2.1 hkid
   exact stmt_26a v a c h hl (ex_of hB hf (by rw [hl]; simp) ha) (st_of hB hf (by rw [hl]; simp) (.inl (blk_st hc)))
  ·obtain ⟨a, c, e, hl, ha, hc, he⟩ := are3.1 hkid
   exact stmt_26b v a c e h hl (ex_of hB hf (by rw [hl]; simp) ha) (st_of hB hf (by rw [hl]; simp) (.inl (blk_st hc))) (st_of hB hf (by rw [hl]; simp) (.inl (blk_st he)))
 ·rw [kids_27 h] at hkid
  obtain ⟨a, c, hl, ha, hc⟩ := are2.1 hkid
  exact stmt_27 v a c h hl (ex_of hB hf (by rw [hl]; simp) ha) (st_of hB hf (by rw [hl]; simp) (.inl (blk_st hc)))
 ·rw [kids_28 h] at hkid
  obtain ⟨a, c, hl, ha, hc⟩ := are2.1 hkid
  exact stmt_28 v a c h hl (st_of hB hf (by rw [hl]; simp) (.inl (blk_st ha))) (ex_of hB hf (by rw [hl]; simp) hc)
 ·rw [kids_29 h] at hkid
  obtain ⟨a, c, e, d, hl, ha, hc, he, hd⟩ := are4.1 hkid
  exact stmt_29 v a c e d h hl (wpart_of hB hf (by rw [hl]; simp) (Bg_of ha)) (wpart_of hB hf (by rw [hl]; simp) ((EO_of hc).imp id .inl)) (wpart_of hB hf (by rw [hl]; simp) ((EO_of he).imp id .inl)) (st_of hB hf (by rw [hl]; simp) (.inl (blk_st hd)))
 ·rw [kids_30 h] at hkid
  obtain ⟨a, c, d, hl, ha, hc, hd⟩ := are3.1 hkid
  exact stmt_30 v a c d h hl (wpart_of hB hf (by rw [hl]; simp) (Tk_of ha)) (ex_of hB hf (by rw [hl]; simp) hc) (st_of hB hf (by rw [hl]; simp) (.inl (blk_st hd)))
 ·rw [kids_31 h, List.isEmpty_iff] at hkid
  exact stmt_31 v h hkid
 ·rw [kids_32 h, List.isEmpty_iff] at hkid
  exact stmt_32 v h hkid
 ·rw [kids_33 h, Bool.or_eq_true] at hkid
  rcases hkid with hkid | hkid
  ·rw [List.isEmpty_iff] at hkid
   exact stmt_33 v h (by rw [hkid]; simp) (by rw [hkid]; simp)
  ·obtain ⟨a, hl, ha⟩ := are1.1 hkid
   exact stmt_33 v h (by rw [hl]; simp) (fun c hc => ex_of hB hf hc (by rw [hl, List.mem_singleton] at hc; rw [hc]; exact ha))
 ·rw [kids_34 h] at hkid
  obtain ⟨a, hl, ha⟩ := are1.1 hkid
  exact stmt_34 v h (by rw [hl]; simp) (fun c hc => ex_of hB hf hc (by rw [hl, List.mem_singleton] at hc; rw [hc]; exact ha))
 ·rw [kids_35 h, Bool.and_eq_true] at hkid
  obtain ⟨a, c, e, hl, ha, hc, he⟩ := are3.1 hkid.1
  rw [nm_35 h] at hnm
  refine stmt_35 v a c e h hl (st_of hB hf (by rw [hl]; simp) (.inl (blk_st ha))) (fun hk => ⟨st_of hB hf (by rw [hl]; simp) (.inl (blk_st (decide_eq_true hk))), ?_⟩) (fun hk => st_of hB hf (by rw [hl]; simp) (.inl (blk_st (decide_eq_true hk))))
  have : ctch v = true := by
   unfold ctch
   rw [hl]
   exact decide_eq_true hk
  rw [this, if_pos rfl] at hnm
  exact isNm_ne hnm
 ·rw [kids_36 h] at hkid
  rcases hl : v.l with _ | ⟨a, r⟩
  ·rw [hl] at hkid; cases hkid
  ·rw [hl] at hkid
   simp only [Bool.and_eq_true] at hkid
   exact stmt_36 v a r h hl (ex_of hB hf (by rw [hl]; simp) hkid.1) (fun u hu => st_of hB hf (by rw [hl]; simp [hu]) (.inr (isK_k (all_mem hkid.2.1 hu)))) (by have := hlen.1; rw [hl] at this; simp at this; omega)
 ·rw [kids_37 h] at hkid
  rcases hl : v.l with _ | ⟨a, r⟩
  ·rw [hl] at hkid; cases hkid
  ·rw [hl] at hkid
   simp only [Bool.and_eq_true] at hkid
   refine stmt_37 v a r h hl ?_ (fun u hu => st_of hB hf (by rw [hl]; simp [hu]) (.inl (isIn_st (all_mem hkid.2 hu)))) (by have := hlen.1; rw [hl] at this; simp at this; omega)
   rcases EO_of hkid.1 with ha | ha
   ·exact .inr (ex_of hB hf (by rw [hl]; simp) ha)
   ·exact .inl ha
 ·rw [kids_38 h] at hkid; rw [nm_38 h] at hnm
  obtain ⟨a, hl, ha⟩ := are1.1 hkid
  exact stmt_38 v a h hl (st_of hB hf (by rw [hl]; simp) (.inl (isIn_st ha))) (isNm_ne hnm)
 ·exact stmt_39 v h (func_of hB hf (.inr h))
 ·rw [kids_40 h, List.isEmpty_iff] at hkid
  exact stmt_40 v h hkid
theorem writes_all : ∀ (n : Nat) (v : V), v.size ≤ n → Fine v → (isE v = true → WExpr v) ∧ (isSt v = true ∨ v.k = 37 → WStmt v)
 | 0, v, h, _ => by have := size_pos v; omega
 | n + 1, v, h, hf => by
  have hB : Below' v := fun u hu hfu => writes_all n u (by omega) hfu
  exact ⟨fun he => expr_of v hf he (bare_all hB hf he), fun hs => stmt_all hB hf hs⟩
theorem wstmt {v : V} (hf : Fine v) (h : isSt v = true) : WStmt v := (writes_all v.size v (Nat.le_refl _) hf).2 (.inl h)
end Go.Proofs.YtllpgoaanbiodaaGreatDoor.R
