/-

-/
import Derived.Test.YtllpgoaanbiodaaGreatDoorMO
import Derived.Test.YtllpgoaanbiodaaGreatDoorMTC
import Derived.Test.YtllpgoaanbiodaaGreatDoorMKd
import Derived.Test.YtllpgoaanbiodaaGreatDoorMWk
namespace Go.Proofs.YtllpgoaanbiodaaGreatDoor.R.Ps
open Go.RowKit Go.Proofs.YtllpgoaanbiodaaGreatDoor Go.Proofs.YtllpgoaanbiodaaGreatDoor.T Go.Proofs.YtllpgoaanbiodaaGreatDoor.R
abbrev tI (s : Bs) : Tok := ⟨1, s, 0⟩
def nd (k : Int) (l : List V) : V := .mk k ⟨#[]⟩ 0 ⟨#[]⟩ [] l
def nam (k : Int) (s : Bs) (l : List V) : V := .mk k ⟨s.toArray⟩ 0 ⟨#[]⟩ [] l
def tkb (l : Bs) : Tok := match T.one l with
 | some x => x.1
 | none => ⟨0, [], 0⟩
abbrev tk (s : ByteArray) : Tok := tkb (bl s)
theorem tk_good {p : Tk} {l : Bs} (h : T.Good p l) (hk : ¬ p.k = 3) {k : Nat} (e : p.k = k) : tkb l = ⟨k, p.t, 0⟩ := by
 obtain ⟨_, _, t, h1, h2, h3 | h3⟩ := h
 ·exact absurd h3.1 hk
 ·obtain ⟨_, h4, h5⟩ := h3
  unfold tkb
  rw [h1]
  obtain ⟨tk, tt, tn⟩ := t
  simp only at h2 h4 h5 ⊢
  subst h4 h5
  have : tk = k := by omega
  rw [this]
theorem tk_name {l : Bs} (h : (isI l && !isW l) = true) : tkb l = tI l := by
 rw [Bool.and_eq_true, Bool.not_eq_true'] at h
 exact tk_good (p := ⟨1, l, 0, 0, false⟩) (good_name rfl h.1 h.2) (show ¬ (1 : Int) = 3 by decide) rfl
theorem ba_eta (s : ByteArray) : (⟨(bl s).toArray⟩ : ByteArray) = s := by cases s; simp [bl]
theorem ba_nil {s : ByteArray} (h : s.size = 0) : s = ⟨#[]⟩ := by
 rw [<- ba_eta s, List.eq_nil_of_length_eq_zero (show (bl s).length = 0 by rw [size_list]; exact h)]
structure Rt (v : V) : Prop where
 nm : nmOk (ctch v) v = true
 num : numOk v = true
 tx : txOk v = true
 ns : nsOk v = true
 kids : kids v = true
theorem rt {v : V} (h : right v = true) : Rt v := by
 unfold right fields at h
 simp only [Bool.and_eq_true] at h
 obtain ⟨⟨h1, h2, h3, h4⟩, h5⟩ := h
 exact ⟨h1, h2, h3, h4, h5⟩
theorem Rt.n0 {v : V} (h : Rt v) (hk : ¬ (v.k = 1 ∨ v.k = 6 ∨ v.k = 16)) : v.n = 0 := by
 have := h.num
 unfold numOk at this
 rw [if_neg (by omega), if_neg (by omega)] at this
 exact of_decide_eq_true this
theorem Rt.s0 {v : V} (h : Rt v) (hk : ¬ (v.k = 2 ∨ v.k = 9)) : v.s = ⟨#[]⟩ := by
 have := h.tx
 unfold txOk at this
 rw [if_neg hk] at this
 exact ba_nil (of_decide_eq_true this)
theorem Rt.ks0 {v : V} (h : Rt v) (hk : ¬ (v.k = 10 ∨ v.k = 39)) : v.ks = [] := by
 have := h.ns
 unfold nsOk at this
 rw [if_neg hk] at this
 simpa using this
theorem v_eta (v : V) : v = .mk v.k v.nm v.n v.s v.ks v.l := by cases v; rfl
theorem Rt.nam {v : V} (h : Rt v) {k : Int} (hk : v.k = k) (h1 : ¬ (k = 1 ∨ k = 6 ∨ k = 16)) (h2 : ¬ (k = 2 ∨ k = 9)) (h3 : ¬ (k = 10 ∨ k = 39)) : v = nam k (bl v.nm) v.l := by
 conv => lhs; rw [v_eta v, h.n0 (by rw [hk]; exact h1), h.s0 (by rw [hk]; exact h2), h.ks0 (by rw [hk]; exact h3), hk]
 unfold Ps.nam
 rw [ba_eta]
theorem Rt.nd {v : V} (h : Rt v) {k : Int} (hk : v.k = k) (h0 : v.nm.size = 0) (h1 : ¬ (k = 1 ∨ k = 6 ∨ k = 16)) (h2 : ¬ (k = 2 ∨ k = 9)) (h3 : ¬ (k = 10 ∨ k = 39)) : v = nd k v.l := by
 conv => lhs; rw [v_eta v, h.n0 (by rw [hk]; exact h1), h.s0 (by rw [hk]; exact h2), h.ks0 (by rw [hk]; exact h3), hk, ba_nil h0]
 rfl
theorem ok_right {v : V} (h : v.ok = true) : Rt v ∧ ∀ u ∈ v.l, u.ok = true := by
 rw [ok_eq, Bool.and_eq_true, oks_all, List.all_eq_true] at h
 exact ⟨rt h.1, h.2⟩
theorem opl_le (s : Bs) : opl s ≤ 8 := by
 unfold opl
 repeat' split
 all_goals omega
theorem ne_kids {l : List V} {b : Bool} {p : V → Bool} (h : b = (!l.isEmpty && l.all p)) (hb : b = true) : ∃ a r, l = a :: r ∧ p a = true ∧ ∀ u ∈ r, p u = true := by
 rw [h, Bool.and_eq_true] at hb
 cases l with
 | nil => exact absurd hb.1 (by decide)
 | cons a r =>
  have := List.all_eq_true.1 hb.2
  exact ⟨a, r, rfl, this a (by simp), fun u hu => this u (by simp [hu])⟩
theorem isTg_E {v : V} (h : isTg v = true) : isE v = true := by
 have := of_decide_eq_true h
 exact decide_eq_true (by omega)
theorem isE_k {v : V} (h : isE v = true) : v.k = 1 ∨ v.k = 2 ∨ v.k = 3 ∨ v.k = 4 ∨ v.k = 5 ∨ v.k = 6 ∨ v.k = 7 ∨ v.k = 8 ∨ v.k = 10 ∨ v.k = 11 ∨ v.k = 12 ∨ v.k = 13 ∨ v.k = 14 ∨ v.k = 15 ∨ v.k = 16 ∨ v.k = 17 ∨ v.k = 18 ∨ v.k = 19 ∨ v.k = 20 ∨ v.k = 21 := by
 have := of_decide_eq_true h
 omega
theorem flat_at {u : V} (h : 11 ≤ u.o.lvl → u.o.raw true = u.o.raw false) (m : Nat) (hm : 11 ≤ m) : u.o.at m true = u.o.at m false := by
 have hl : u.k = 17 → u.o.lvl ≤ 8 := fun hk => by
  rw [o_lvl, hk]
  exact opl_le _
 unfold O.at
 rw [o_k, o_nm]
 by_cases h1 : u.o.lvl < m
 ·rw [if_pos (.inl h1), if_pos (.inl h1)]
 ·rw [if_neg (fun hc => ?_), if_neg (fun hc => ?_)]
  ·exact h (by omega)
  ·rcases hc with hc | hc
   ·exact h1 hc
   ·cases hc.1
  ·rcases hc with hc | hc
   ·exact h1 hc
   ·have := hl hc.2.1
    omega
theorem flat_raw : ∀ v : V, v.ok = true → isE v = true → 10 ≤ v.o.lvl → v.o.raw true = v.o.raw false := by
 refine V.ind fun k nm n s ks l ih => ?_
 generalize hv : V.mk k nm n s ks l = v
 have hvl : v.l = l := by rw [<- hv]; rfl
 rw [<- hvl] at ih
 clear hv hvl
 intro hok he hl
 obtain ⟨R, ho⟩ := ok_right hok
 have first : ∀ a ∈ v.l, isE a = true → ∀ m, 11 ≤ m → a.o.at m true = a.o.at m false := fun a ha hea m hm => flat_at (fun h => ih a ha (ho a ha) hea (by omega)) m hm
 rcases isE_k he with h | h | h | h | h | h | h | h | h | h | h | h | h | h | h | h | h | h | h | h
 all_goals rw [o_raw, o_raw, h]
 ·rfl
 ·rfl
 ·rfl
 ·rfl
 ·rfl
 ·rfl
 ·rfl
 ·rfl
 ·rfl
 ·obtain ⟨a, e, ha⟩ := are1.1 ((kids_11 h).symm.trans R.kids)
  have := first a (by rw [e]; simp) ha 11 (Nat.le_refl _)
  rw [e]
  show a.o.at 11 true ++ _ = a.o.at 11 false ++ _
  rw [this]
 ·obtain ⟨a, b, e, ha, _⟩ := are2.1 ((kids_12 h).symm.trans R.kids)
  have := first a (by rw [e]; simp) ha 11 (Nat.le_refl _)
  rw [e]
  show a.o.at 11 true ++ _ = a.o.at 11 false ++ _
  rw [this]
 ·obtain ⟨a, r, e, ha, _⟩ := ne_kids (kids_13 h) R.kids
  have := first a (by rw [e]; simp) ha 11 (Nat.le_refl _)
  rw [e]
  show a.o.at 11 true ++ _ = a.o.at 11 false ++ _
  rw [this]
 ·obtain ⟨a, r, e, ha, _⟩ := ne_kids (kids_14 h) R.kids
  have := first a (by rw [e]; simp) ha 12 (by omega)
  rw [e]
  show _ :: (a.o.at 12 true ++ _) = _ :: (a.o.at 12 false ++ _)
  rw [this]
 ·have : v.o.lvl = 9 := by rw [o_lvl, h]; rfl
  omega
 ·obtain ⟨a, e, ha⟩ := are1.1 ((kids_16 h).symm.trans R.kids)
  have := first a (by rw [e]; simp) (isTg_E ha) 11 (Nat.le_refl _)
  rw [e]
  show (if v.n = 1 then v.nm :: a.o.at 11 true else a.o.at 11 true ++ [v.nm]) = (if v.n = 1 then v.nm :: a.o.at 11 false else a.o.at 11 false ++ [v.nm])
  rw [this]
 ·have : v.o.lvl = opl (bl v.nm) := by rw [o_lvl, h]; rfl
  have := opl_le (bl v.nm)
  omega
 ·have : v.o.lvl = opl (bl v.nm) := by rw [o_lvl, h]; rfl
  have := opl_le (bl v.nm)
  omega
 ·have : v.o.lvl = 2 := by rw [o_lvl, h]; rfl
  omega
 ·have : v.o.lvl = 1 := by rw [o_lvl, h]; rfl
  omega
 ·have : v.o.lvl = 0 := by rw [o_lvl, h]; rfl
  omega
theorem k_of {m : Int} {v : V} (h : isK m v = true) : v.k = m := of_decide_eq_true h
theorem tg_lvl {v : V} (h : isTg v = true) : 11 ≤ v.o.lvl := by
 have := of_decide_eq_true h
 rw [o_lvl]
 rcases this with h | h | h
 ·rw [h]; show 11 ≤ 13; omega
 ·rw [h]; show 11 ≤ if 12 ≤ _ then 12 else 11; split <;> omega
 ·rw [h]; show 11 ≤ if 12 ≤ _ then 12 else 11; split <;> omega
theorem decl_shape {d : V} (hok : d.ok = true) (hk : d.k = 23) : d = nam 23 (bl d.nm) d.l ∧ tk d.nm = tI (bl d.nm) ∧ (d.l = [] ∨ ∃ u, d.l = [u] ∧ isE u = true) ∧ ∀ no, d.o.raw no = d.nm :: (match d.l.map V.o with | [] => [] | o :: _ => ⟨#[61]⟩ :: o.at 1 no) := by
 obtain ⟨R, _⟩ := ok_right hok
 refine ⟨R.nam hk (by decide) (by decide) (by decide), tk_name ((nm_23 hk).symm.trans R.nm), ?_, fun no => by rw [o_raw, hk]; rfl⟩
 have := (kids_23 hk).symm.trans R.kids
 rw [Bool.or_eq_true] at this
 rcases this with h | h
 ·exact .inl (by simpa using h)
 ·exact .inr (are1.1 h)
theorem vars_shape {v : V} (hok : v.ok = true) (hk : v.k = 22) : v = nd 22 v.l ∧ (∃ a r, v.l = a :: r ∧ ∀ u ∈ a :: r, u.k = 23) ∧ ∀ no, v.o.raw no = ⟨#[118, 97, 114]⟩ :: commas (v.l.map fun d => d.o.raw no) := by
 obtain ⟨R, _⟩ := ok_right hok
 obtain ⟨a, r, hl, ha, hr⟩ := ne_kids (kids_22 hk) R.kids
 refine ⟨R.nd hk (of_decide_eq_true ((nm_22 hk).symm.trans R.nm)) (by decide) (by decide) (by decide), ⟨a, r, hl, fun u hu => ?_⟩, fun no => ?_⟩
 ·rcases List.mem_cons.1 hu with rfl | hu
  ·exact k_of ha
  ·exact k_of (hr u hu)
 ·rw [o_raw, hk]
  show _ :: commas ((v.l.map V.o).map fun o => o.raw no) = _
  rw [List.map_map]
  rfl
theorem taker_part {u : V} (h : isTk u = true) (hok : u.ok = true) : (isE u = true ∨ u.k = 42 ∨ u.k = 22) ∧ ¬ u.k = 42 ∧ u.o.part false = u.o.part true := by
 unfold isTk at h
 rw [Bool.or_eq_true, Bool.and_eq_true] at h
 rcases h with h | ⟨h, h2⟩
 ·have hk := of_decide_eq_true h
  have hl := tg_lvl h
  have hr := flat_raw u hok (isTg_E h) (by omega)
  refine ⟨.inl (isTg_E h), by omega, ?_⟩
  unfold O.part O.at
  rw [o_k, o_nm, hr, if_neg (by omega), if_neg (by omega), if_neg (by omega), if_neg (by omega)]
  rw [if_neg (by omega), if_neg (by omega)]
 ·have hk := k_of h
  refine ⟨.inr (.inr hk), by omega, ?_⟩
  obtain ⟨_, ⟨a, r, hl, h23⟩, hr⟩ := vars_shape hok hk
  rw [hl] at h2
  rcases r with _ | ⟨b, r⟩
  ·have h2 : a.l = [] := by simpa using h2
   have ha := (ok_right hok).2 a (by rw [hl]; simp)
   obtain ⟨_, _, _, hd⟩ := decl_shape ha (h23 a (by simp))
   rw [h2] at hd
   have e : ∀ no, u.o.part no = u.o.raw no := fun no => by
    unfold O.part
    rw [o_k, if_neg (by omega), if_pos hk]
   rw [e, e, hr, hr, hl]
   simp only [List.map_cons, List.map_nil, commas, hd]
  ·cases h2
def tl : Ts → Nat
 | [] => 0
 | s :: r => s.size + 1 + tl r
theorem tl_cons (s : ByteArray) (r : Ts) : tl (s :: r) = s.size + 1 + tl r := rfl
theorem tl_nil : tl [] = 0 := rfl
theorem tl_app (a b : Ts) : tl (a ++ b) = tl a + tl b := by
 induction a with
 | nil => simp [tl]
 | cons x r ih => rw [List.cons_append, tl_cons, tl_cons, ih]; omega
theorem tl_len (l : Ts) : l.length ≤ tl l := by
 induction l with
 | nil => exact Nat.le_refl _
 | cons x r ih => rw [List.length_cons, tl_cons]; omega
theorem tl_brack (a b : ByteArray) (t : Ts) : tl (brack a b t) = a.size + b.size + 2 + tl t := by
 unfold brack
 rw [tl_cons, tl_app, tl_cons, tl_nil]
 omega
theorem join_one (a : Bs) : Lib.join [a] [32] = a := by simp [Lib.join]
theorem join_two (a b : Bs) (r : List Bs) : Lib.join (a :: b :: r) [32] = a ++ 32 :: Lib.join (b :: r) [32] := by simp [Lib.join]
theorem tl_join : ∀ l : Ts, (Lib.join (l.map bl) [32]).length ≤ tl l
 | [] => Nat.le_refl _
 | [a] => by
  have : (bl a).length = a.size := size_list a
  rw [List.map_cons, List.map_nil, join_one, tl_cons, tl_nil]
  omega
 | a :: b :: r => by
  have ih := tl_join (b :: r)
  have : (bl a).length = a.size := size_list a
  rw [List.map_cons] at ih
  rw [tl_cons, List.map_cons, List.map_cons, join_two, List.length_append, List.length_cons]
  omega
structure Le (o : O) (c : Nat) : Prop where
 raw : ∀ no, tl (o.raw no) + 8 ≤ c
 st : tl o.st + 8 ≤ c
theorem Le.at_ {o : O} {c : Nat} (h : Le o c) (m : Nat) (no : Bool) : tl (o.at m no) + 4 ≤ c := by
 unfold O.at
 split
 ·have := h.raw false
  show tl (brack ⟨#[40]⟩ ⟨#[41]⟩ (o.raw false)) + 4 ≤ c
  rw [tl_brack]
  show 1 + 1 + 2 + tl (o.raw false) + 4 ≤ c
  omega
 ·have := h.raw no
  omega
theorem Le.part {o : O} {c : Nat} (h : Le o c) (no : Bool) : tl (o.part no) + 4 ≤ c := by
 unfold O.part
 split
 ·have := h.raw no
  rw [tl_nil]
  omega
 split
 ·have := h.raw no
  omega
 ·exact h.at_ 0 no
theorem le_default : Le default 8 := ⟨fun _ => Nat.le_refl _, Nat.le_refl _⟩
def gb (l : List V) (i : Nat) : Nat := if h : i < l.length then 64 * l[i].bulk else 8
theorem gb4 (l : List V) : gb l 0 + gb l 1 + gb l 2 + gb l 3 ≤ 64 * V.bulks l + 32 := by
 rcases l with _ | ⟨a, _ | ⟨b, _ | ⟨c, _ | ⟨d, r⟩⟩⟩⟩ <;> simp [gb, V.bulks] <;> omega
section
variable {l : List V} (H : ∀ u ∈ l, Le u.o (64 * u.bulk))
include H
theorem gb_le (i : Nat) : Le ((l.map V.o).getD i default) (gb l i) := by
 unfold gb
 by_cases h : i < l.length
 ·rw [dif_pos h]
  have : (l.map V.o).getD i default = l[i].o := by simp [List.getD, h]
  rw [this]
  exact H _ (List.getElem_mem h)
 ·rw [dif_neg h]
  have : (l.map V.o).getD i default = default := by simp [List.getD, Nat.not_lt.1 h]
  rw [this]
  exact le_default
theorem row_le {f : O → Ts} (hf : ∀ o c, Le o c → tl (f o) + 4 ≤ c) : tl (commas ((l.map V.o).map f)) ≤ 64 * V.bulks l := by
 induction l with
 | nil => exact Nat.zero_le _
 | cons a r ih =>
  have h1 := hf _ _ (H a (by simp))
  have h2 := ih fun u hu => H u (by simp [hu])
  have e : V.bulks (a :: r) = a.bulk + V.bulks r := rfl
  rw [e]
  cases r with
  | nil =>
   show tl (f a.o) ≤ _
   omega
  | cons b r =>
   show tl (f a.o ++ ⟨#[44]⟩ :: commas (((b :: r).map V.o).map f)) ≤ _
   rw [tl_app, tl_cons]
   show tl (f a.o) + (1 + 1 + _) ≤ _
   omega
theorem tail_le {f : O → Ts} (hf : ∀ o c, Le o c → tl (f o) + 4 ≤ c) : gb l 0 + tl (commas ((l.map V.o).tail.map f)) ≤ 64 * V.bulks l + 8 := by
 cases l with
 | nil => exact Nat.le_refl _
 | cons a r =>
  have := row_le (l := r) (fun u hu => H u (by simp [hu])) hf
  show 64 * a.bulk + tl (commas ((r.map V.o).map f)) ≤ 64 * (a.bulk + V.bulks r) + 8
  omega
theorem stmts_le : tl (stmts (l.map V.o)) ≤ 64 * V.bulks l := by
 induction l with
 | nil => exact Nat.zero_le _
 | cons a r ih =>
  have h1 := (H a (by simp)).st
  have h2 := ih fun u hu => H u (by simp [hu])
  show tl (a.o.st ++ stmts (r.map V.o)) ≤ 64 * (a.bulk + V.bulks r)
  rw [tl_app]
  omega
theorem stail_le : gb l 0 + tl (stmts (l.map V.o).tail) ≤ 64 * V.bulks l + 8 := by
 cases l with
 | nil => exact Nat.le_refl _
 | cons a r =>
  have := stmts_le (l := r) (fun u hu => H u (by simp [hu]))
  show 64 * a.bulk + tl (stmts (r.map V.o)) ≤ 64 * (a.bulk + V.bulks r) + 8
  omega
end
theorem names_le : ∀ ks : List ByteArray, tl (commas (ks.map fun k => [k])) ≤ 3 * keysBulk ks
 | [] => Nat.zero_le _
 | [a] => by
  simp only [List.map_cons, List.map_nil, commas, tl_cons, tl_nil, keysBulk]
  omega
 | a :: b :: r => by
  have ih := names_le (b :: r)
  have e : keysBulk (a :: b :: r) = a.size + 1 + keysBulk (b :: r) := rfl
  rw [e]
  show tl ([a] ++ ⟨#[44]⟩ :: commas ((b :: r).map fun k => [k])) ≤ _
  rw [tl_app, tl_cons, tl_cons, tl_nil]
  show a.size + 1 + 0 + (1 + 1 + _) ≤ _
  omega
theorem some_le (s : ByteArray) : tl (some1 s) ≤ s.size + 1 := by
 unfold some1
 split
 ·exact Nat.zero_le _
 ·exact Nat.le_refl _
theorem quo_le (s : ByteArray) : (quo s).size ≤ 2 + 6 * s.size := by
 have h := quote_length (us (bl s))
 have h2 : (us (bl s)).length ≤ (bl s).length := by
  have : ∀ l : Bs, (us l).length ≤ l.length := by
   intro l
   induction l using us.induct with
   | case1 a b r ih => simp only [us, List.length_cons]; omega
   | case2 l _ => simp [us]
  exact this _
 have h3 : (bl s).length = s.size := size_list s
 have e : (quo s).size = (quote (us (bl s))).length := by
  show (quote (us (bl s))).toArray.size = _
  simp
 omega
theorem dec_le {n : Int} (h0 : 0 ≤ n) (h1 : n ≤ 9007199254740991) : (dec n).size ≤ 21 := by
 have h := dec_len n.toNat (by omega)
 have e : bl (dec n) = Lib.decDigits n.toNat := by
  have : Lib.itoa n = Lib.decDigits n.toNat := by
   unfold Lib.itoa
   rw [if_neg (by omega)]
  simp [dec, bl, this]
 have h3 : (bl (dec n)).length = (dec n).size := size_list _
 rw [e] at h3
 omega
theorem sz (l : List UInt8) : (⟨l.toArray⟩ : ByteArray).size = l.length := by show l.toArray.size = _; simp
theorem tl_ite {c : Prop} [Decidable c] {a b : Ts} {m : Nat} (h1 : c → tl a + 8 ≤ m) (h2 : ¬ c → tl b + 8 ≤ m) : tl (if c then a else b) + 8 ≤ m := by
 by_cases h : c
 ·rw [if_pos h]
  exact h1 h
 ·rw [if_neg h]
  exact h2 h
theorem func_le {nm : ByteArray} {ks : List ByteArray} {l : List V} (H : ∀ u ∈ l, Le u.o (64 * u.bulk)) : tl (func nm ks (l.map V.o)) ≤ 18 + nm.size + 3 * keysBulk ks + 64 * V.bulks l := by
 have h1 := some_le nm
 have h2 := names_le ks
 have h3 := stmts_le H
 have h4 := tl_brack ⟨#[40]⟩ ⟨#[41]⟩ (commas (ks.map fun k => [k]))
 have h5 : tl (block (l.map V.o)) = 4 + tl (stmts (l.map V.o)) := tl_brack ⟨#[123]⟩ ⟨#[125]⟩ (stmts (l.map V.o))
 unfold func
 rw [tl_cons, tl_app, tl_app, h4, h5, sz, sz, sz]
 simp only [List.length_cons, List.length_nil]
 omega
theorem raw_le {v : V} (R : Rt v) (H : ∀ u ∈ v.l, Le u.o (64 * u.bulk)) (no : Bool) : tl (rawN v.k v.nm v.n v.s v.ks (v.l.map V.o) no) + 8 ≤ 64 * v.bulk := by
 have hb : v.bulk = 1 + v.nm.size + v.s.size + keysBulk v.ks + V.bulks v.l := by cases v; rfl
 have g := gb4 v.l
 have A := fun i m b => (gb_le H i).at_ m b
 have a1 := A 0 1 false
 have a2 := A 0 11 no
 have a3 := A 1 0 false
 have a4 := A 0 12 no
 have a5 := A 0 9 no
 have a6 := A 0 (opl (bl v.nm)) no
 have a7 := A 1 (opl (bl v.nm) + 1) no
 have a8 := A 0 3 no
 have a9 := A 1 1 false
 have a10 := A 2 1 no
 have a11 := A 1 1 no
 have a12 := A 0 0 no
 have r1 := row_le H (f := fun o => o.at 1 false) fun o c h => h.at_ 1 false
 have r2 := row_le H (f := fun o => o.raw false) fun o c h => by have := h.raw false; omega
 have r3 := row_le H (f := fun o => o.raw no) fun o c h => by have := h.raw no; omega
 have r4 := tail_le H (f := fun o => o.at 1 false) fun o c h => h.at_ 1 false
 have hf := func_le (nm := v.nm) (ks := v.ks) H
 have hq := quo_le v.s
 have hd : v.k = 1 → (dec v.n).size ≤ 21 := fun h => by
  have := of_decide_eq_true ((num_1 h).symm.trans R.num)
  exact dec_le this.1 this.2
 have h6 : ((if v.n = 0 then ⟨#[102, 97, 108, 115, 101]⟩ else ⟨#[116, 114, 117, 101]⟩ : ByteArray)).size ≤ 5 := by
  split
  ·exact Nat.le_refl _
  ·exact Nat.le_succ _
 by_cases h23 : v.k = 23
 ·have a13 := A 0 1 no
  rw [hb, h23]
  cases hl : v.l with
  | nil =>
   show tl [v.nm] + 8 ≤ _
   rw [tl_cons, tl_nil]
   omega
  | cons a r =>
   rw [hl] at a13 g
   have ha : tl (a.o.at 1 no) + 4 ≤ gb (a :: r) 0 := a13
   show tl (v.nm :: ⟨#[61]⟩ :: a.o.at 1 no) + 8 ≤ _
   rw [tl_cons, tl_cons, sz [61]]
   simp only [List.length_cons, List.length_nil]
   omega
 rw [hb]
 clear hb
 unfold rawN
 refine tl_ite (fun h => ?_) (fun _ => ?_)
 ·have := hd h
  rw [tl_cons, tl_nil]
  omega
 clear hd
 repeat' (refine tl_ite (fun _ => ?_) (fun _ => ?_))
 all_goals try simp only [tl_app, tl_cons, tl_nil, sz, List.length_cons, List.length_nil]
 all_goals omega
theorem bare_le (t : Ts) : tl (bareT t) ≤ tl t + 4 := by
 unfold bareT
 split
 ·have := tl_brack ⟨#[40]⟩ ⟨#[41]⟩ t
  rw [this, sz, sz]
  simp only [List.length_cons, List.length_nil]
  omega
 ·omega
theorem head_le (w : ByteArray) (o : O) : tl (headT w o) = w.size + 5 + tl (o.at 0 false) := by
 unfold headT
 rw [tl_cons, tl_brack, sz [40], sz [41]]
 simp only [List.length_cons, List.length_nil]
 omega
theorem block_le (l : List O) : tl (block l) = 4 + tl (stmts l) := tl_brack ⟨#[123]⟩ ⟨#[125]⟩ (stmts l)
theorem st_le {v : V} (R : Rt v) (H : ∀ u ∈ v.l, Le u.o (64 * u.bulk)) : tl (stN v.k v.nm v.n v.s v.ks (v.l.map V.o)) + 8 ≤ 64 * v.bulk := by
 have hb : v.bulk = 1 + v.nm.size + v.s.size + keysBulk v.ks + V.bulks v.l := by cases v; rfl
 have g := gb4 v.l
 have A := fun i => (gb_le H i).at_ 0 false
 have S := fun i => (gb_le H i).st
 have P := fun i b => (gb_le H i).part b
 have a0 := A 0
 have a1 := A 1
 have s0 := S 0
 have s1 := S 1
 have s2 := S 2
 have s3 := S 3
 have p0 := P 0 true
 have p1 := P 0 false
 have p2 := P 1 false
 have p3 := P 2 false
 have hb0 := bare_le (((v.l.map V.o).getD 0 default).at 0 false)
 have r1 := row_le H (f := fun o => o.raw false) fun o c h => by have := h.raw false; omega
 have t1 := stmts_le H
 have t2 := stail_le H
 have hf := func_le (nm := v.nm) (ks := v.ks) H
 have hn := some_le v.nm
 have h22 : v.k = 22 → tl (rawN v.k v.nm v.n v.s v.ks (v.l.map V.o) false) ≤ 4 + 64 * V.bulks v.l := fun h => by
  rw [h]
  show tl (⟨#[118, 97, 114]⟩ :: commas ((v.l.map V.o).map fun o => o.raw false)) ≤ _
  rw [tl_cons, sz]
  simp only [List.length_cons, List.length_nil]
  omega
 have hv : tl (valT (v.l.map V.o)) ≤ gb v.l 0 := by
  cases hl : v.l with
  | nil => exact Nat.zero_le _
  | cons a r =>
   rw [hl] at a0
   show tl (a.o.at 0 false) ≤ _
   have : tl (a.o.at 0 false) + 4 ≤ gb (a :: r) 0 := a0
   omega
 rw [hb]
 clear hb
 unfold stN
 refine tl_ite (fun h => ?_) (fun _ => ?_)
 ·have := h22 h
  rw [tl_app, tl_cons, tl_nil, sz]
  simp only [List.length_cons, List.length_nil]
  omega
 clear h22
 have hi : ∀ {c : Prop} [Decidable c] {t : Ts}, tl (if c then t else []) ≤ tl t := fun {c} _ {t} => by
  by_cases h : c
  ·rw [if_pos h]
   exact Nat.le_refl _
  ·rw [if_neg h]
   exact Nat.zero_le _
 have i1 := hi (c := 2 < (v.l.map V.o).length) (t := ⟨#[101, 108, 115, 101]⟩ :: ((v.l.map V.o).getD 2 default).st)
 have i2 := hi (c := ((v.l.map V.o).getD 1 default).k = 25) (t := ⟨#[99, 97, 116, 99, 104]⟩ :: (brack ⟨#[40]⟩ ⟨#[41]⟩ [v.nm] ++ ((v.l.map V.o).getD 1 default).st))
 have i3 := hi (c := ((v.l.map V.o).getD 2 default).k = 25) (t := ⟨#[102, 105, 110, 97, 108, 108, 121]⟩ :: ((v.l.map V.o).getD 2 default).st)
 have i4 : tl (if ((v.l.map V.o).getD 0 default).k = 42 then [⟨#[100, 101, 102, 97, 117, 108, 116]⟩, ⟨#[58]⟩] else brack ⟨#[99, 97, 115, 101]⟩ ⟨#[58]⟩ (((v.l.map V.o).getD 0 default).at 0 false)) ≤ 10 + gb v.l 0 := by
  split
  ·rw [tl_cons, tl_cons, tl_nil, sz, sz]
   simp only [List.length_cons, List.length_nil]
   omega
  ·rw [tl_brack, sz, sz]
   simp only [List.length_cons, List.length_nil]
   omega
 simp only [tl_cons, tl_app, sz, List.length_cons, List.length_nil, tl_nil] at i1 i2 i3
 repeat' (refine tl_ite (fun _ => ?_) (fun _ => ?_))
 all_goals try simp only [tl_app, tl_cons, tl_nil, sz, head_le, block_le, List.length_cons, List.length_nil]
 all_goals omega
theorem le_all : ∀ v : V, v.ok = true → Le v.o (64 * v.bulk) := by
 refine V.ind fun k nm n s ks l ih => ?_
 generalize hv : V.mk k nm n s ks l = v
 have hvl : v.l = l := by rw [<- hv]; rfl
 rw [<- hvl] at ih
 clear hv hvl
 intro hok
 obtain ⟨R, ho⟩ := ok_right hok
 have H : ∀ u ∈ v.l, Le u.o (64 * u.bulk) := fun u hu => ih u hu (ho u hu)
 refine ⟨fun no => ?_, ?_⟩
 ·rw [o_raw]
  exact raw_le R H no
 ·rw [o_st]
  exact st_le R H
theorem toks_le {v : V} (h : v.ok = true) : v.toks.length ≤ 64 * v.bulk ∧ v.txt.length ≤ 64 * v.bulk := by
 have h1 := stmts_le fun u hu => le_all u ((ok_right h).2 u hu)
 have hb := bulk_ge v
 have h2 := tl_len v.toks
 have h3 := tl_join v.toks
 have h4 : tl v.toks ≤ 64 * V.bulks v.l := h1
 unfold V.txt
 omega
end Go.Proofs.YtllpgoaanbiodaaGreatDoor.R.Ps
