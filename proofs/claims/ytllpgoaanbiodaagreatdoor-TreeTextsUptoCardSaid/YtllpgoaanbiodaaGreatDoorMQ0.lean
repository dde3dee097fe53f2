/-

-/
import Derived.Test.YtllpgoaanbiodaaGreatDoorMF
import Derived.Deep.RegionLaw
import Derived.Deep.RegionHeld3
import Derived.Laws.ResultCell
set_option maxHeartbeats 2000000
set_option maxRecDepth 8000
namespace Go.Proofs.YtllpgoaanbiodaaGreatDoor.R
open Go.RowKit Go.Proofs.YtllpgoaanbiodaaGreatDoor Go.Proofs.YtllpgoaanbiodaaGreatDoor.T
theorem toList_nil (s : ByteArray) : s.toList = [] ↔ s.size = 0 := by
 rw [ByteArray.toList_eq]
 constructor
 ·intro h
  rw [← size_list, h]; rfl
 ·intro h
  apply List.eq_nil_of_length_eq_zero
  rw [size_list, h]
theorem str_some {s : ByteArray} (h : ¬ s.size = 0) : s.toList.isEmpty = false ∧ ¬ s.toList = [] := by
 have h2 : ¬ s.toList = [] := fun e => h ((toList_nil s).1 e)
 exact ⟨by rw [Bool.eq_false_iff]; intro e; exact h2 (List.isEmpty_iff.1 e), h2⟩
def full (xs : Ts) : Ts := xs.filter fun s => decide (¬ s.size = 0)
theorem full_snoc_yes (xs : Ts) (j : Nat) (h : j < xs.length) (h0 : ¬ xs[j].size = 0) : full (xs.take (j + 1)) = full (xs.take j) ++ [xs[j]] := by
 unfold full
 rw [snoc_get _ _ h, List.filter_append, List.filter_cons_of_pos (by rw [decide_eq_true_eq]; exact h0)]
 rfl
theorem full_snoc_no (xs : Ts) (j : Nat) (h : j < xs.length) (h0 : xs[j].size = 0) : full (xs.take (j + 1)) = full (xs.take j) := by
 unfold full
 rw [snoc_get _ _ h, List.filter_append, List.filter_cons_of_neg (by rw [decide_eq_true_eq]; exact fun e => e h0)]
 exact List.append_nil _
theorem full_le (xs : Ts) : (full xs).length ≤ xs.length := List.length_filter_le _ _
theorem app_one {w : World} {ops : Array Oper} {rest : List Oper} {o : Oper} {a : Act} {Q : Exit → Act → World → Prop} (hgd : o.guard = none) (sl x : Operand)
  (ho : o.op = .call { callee := .builtin .append, args := #[sl, x], argTypes := #[22, 22] })
  (F : Nat → Prop) (hF : ∀ k, F k → k < w.heap.size) (B : Nat) (T : Ts) (b : Bool) (v : Value) (h0 : Wr w F B T b v) (hs : a.eval sl = v) (s : ByteArray) (g m : Nat) (arr : Array Value) (hx : a.eval x = .slice (some ⟨g, 0, none⟩) m m) (hm : m = 1) (hg : g = w.heap.size) (harr : arr = #[.string s]) (hlim : T.length ≤ 8796093022200)
  (h : ∀ g' cap w', w'.cell? ⟨B, 0, none⟩ = some v → w'.frozen? ⟨B, 0, none⟩ = false → Wr (w'.setCell ⟨B, 0, none⟩ (.slice (some ⟨g', 0, none⟩) (T.length + 1) cap)) F B (T ++ [s]) b (.slice (some ⟨g', 0, none⟩) (T.length + 1) cap) → Fr F w (w'.setCell ⟨B, 0, none⟩ (.slice (some ⟨g', 0, none⟩) (T.length + 1) cap)) → wpList Tryz.prog ops Q rest (a.put o.dst (.slice (some ⟨g', 0, none⟩) (T.length + 1) cap)) w') : wpList Tryz.prog ops Q (o :: rest) a (w.alloc (.cells arr 9)) := by
 obtain ⟨i0, hi, hz0, hz1, hz2⟩ := info_parts infoStr
 subst hg
 subst hm
 subst harr
 have h1 := h0.below (below_alloc w (.cells #[.string s] 9))
 refine wpList_append_lies _ hgd sl x 22 ho 0 9 i0 _ 1 16 Tryz.underlying22 hi hz0 hz1 hz2 rfl (by decide) v T.length (vals T) hs h1.own ⟨w.heap.size, 0, none⟩ 1 1 [.string s] hx rfl ?_ ?_ (by decide) (by unfold maxLen; omega) (by omega) (Nat.zero_le _) (w.heap.size + 1) (by simp) ?_
 ·intro j u hj
  rw [add_lit, World.cell?_alloc_at _ _ _ _ rfl]
  simpa using hj
 ·intro u hu
  simp only [List.mem_cons, List.not_mem_nil, or_false] at hu
  rw [hu]; rfl
 ·intro g' cap w' hown hgrow hat hlt
  have hB : some B ≠ v.ownBlock := fun e => (h1.away B e.symm).1 rfl
  have hsz := hgrow.size
  simp at hsz
  have hbl := hgrow.block B h1.lt hB
  have hc := (World.cell?_of_block hbl).trans h1.c0
  have hf := (World.frozen?_of_block hbl).trans h1.f0
  have hgB : g' ≠ B ∧ ¬ F g' := by
   rcases hat with hat | hat
   ·exact h1.away g' hat
   ·subst hat
    exact ⟨fun e => by have := h0.lt; omega, fun hk => by have := hF _ hk; omega⟩
  refine h g' cap w' hc hf ⟨World.cell?_setCell_same _ _ _ hc, ?_, by simp [hf], ?_, by simpa [World.setCell] using Nat.lt_of_lt_of_le h0.lt (by omega), h0.nF, ?_, fun k hk => ?_⟩ ?_
  ·rw [World.cell?_setCell_other _ _ _ _ (by simp)]
   exact (World.cell?_of_block hbl).trans h1.c1
  ·rw [World.frozen?_setCell]
   exact (World.frozen?_of_block hbl).trans h1.f1
  ·refine own_push (w := w') ?_ fun k hk => Below.heap_setCell _ _ _ _ ?_
   ·rw [List.length_append, vals, List.map_append]
    exact hown
   ·have : g' = k := by simpa [Value.ownBlock] using hk
    subst this
    exact hgB.1
  ·have : g' = k := by simpa [Value.ownBlock] using hk
   subst this
   exact hgB
  ·exact (((Fr.refl F w).alloc hF _).grown hF hgrow fun k hk => (h1.away k hk).2).setCell h0.nF _
theorem add_any (F : Nat → Prop) (B : Nat) (T : Ts) (b : Bool) (v : Value) (g : Nat) (xs : Ts) (w : World) (hF : ∀ k, F k → k < w.heap.size) (h : Wr w F B T b v) (hg : F g) (hc : ∀ j (h : j < xs.length), w.cell? ⟨g, j, none⟩ = some (.string xs[j]))
  (hlim : T.length + xs.length ≤ 8796093022200) :
  Calls Tryz.prog 81 #[.pointer (some ⟨B, 0, none⟩), .slice (some ⟨g, 0, none⟩) xs.length xs.length] w (Adds w F B (T ++ full xs) b) := by
 have HC := Lib.hid hc
 have HF := Lib.hid hF
 have HW := Lib.hid h
 clear hc hF h
 go_enter Tryz.func81, Tryz.ntmps81
 go_wp2_with fail
 go_loopw [8] (fun i wr => ∃ (j : Nat) (v' : Value), j ≤ xs.length ∧ i = .int .i64 j ∧ Hid (Wr wr F B (T ++ full (xs.take j)) b v') ∧ Fr F w wr)
  (fun i _ => xs.length - (intOf i).toNat)
 case atStart => exact ⟨0, v, Nat.zero_le _, rfl, by rw [show T ++ full (xs.take 0) = T by simp [full]]; exact HW, Fr.refl _ _⟩
 case round =>
  obtain ⟨j, v', hj, rfl, hw, hfr⟩ := hrel
  by_cases hlt : j < xs.length
  ·have hcx := (hfr.cell (p := ⟨g, j, none⟩) hg).trans (HC.out j hlt)
   by_cases h0 : xs[j].size = 0
   ·have HS := Lib.hid (full_snoc_no xs j hlt h0)
    have he := (toList_nil xs[j]).2 h0
    generalize xs[j] = y at *
    clear h0
    go_wp2_with fail
    go_roundw
    case rel => exact ⟨j + 1, v', by omega, by go_num, by rw [HS.out]; exact hw, hfr⟩
    case measure => simp [intOf]; omega
   ·have HS := Lib.hid (full_snoc_yes xs j hlt h0)
    obtain ⟨he1, he2⟩ := str_some h0
    have hll := full_le (xs.take j)
    have hlj : (T ++ full (xs.take j)).length ≤ 8796093022200 := by
     rw [List.length_take] at hll
     rw [List.length_append]
     omega
    generalize xs[j] = y at *
    generalize full (xs.take j) = fj at *
    have hc0 := hw.out.c0
    clear h0 hll
    go_wp2_with (at_builtin; refine app_one rfl (.tmp 18) (.tmp 20) (by rfl) F (fun k hk => Nat.lt_of_lt_of_le (HF.out k hk) hfr.size) B _ b _ hw.out (by rfl) y _ 1 _ (by rfl) rfl ?g1 rfl hlj ?_)
    case g1 => simp
    intro g2 cap2 w2 hc2 hf2 hW2 hF2
    have HR := Lib.hid hW2
    have hfr2 := hfr.trans hF2
    clear hW2 hc0 hcx hF2 hfr hw
    go_wp2_with fail
    go_roundw
    case rel => exact ⟨j + 1, _, by omega, by go_num, by rw [HS.out]; exact HR, hfr2⟩
    case measure => simp [intOf]; omega
  ·obtain rfl : j = xs.length := by omega
   rw [List.take_length] at hw
   go_wp2_with fail
   go_end0
   exact ⟨rfl, ⟨v', hw.out⟩, hfr⟩
theorem add_new (F : Nat → Prop) (B : Nat) (T : Ts) (b : Bool) (v : Value) (xs : Ts) (arr : Array Value) (g n : Nat) (w : World) (hF : ∀ k, F k → k < w.heap.size) (h : Wr w F B T b v) (hlim : T.length + xs.length ≤ 8796093022200) (hg : g = w.heap.size) (hn : n = xs.length) (harr : arr = (vals xs).toArray) (out : Ts) (hout : T ++ full xs = out) :
  Calls Tryz.prog 81 #[.pointer (some ⟨B, 0, none⟩), .slice (some ⟨g, 0, none⟩) n n] (w.alloc (.cells arr 9)) (Adds w F B out b) := by
 subst hg hn harr hout
 have hb := below_alloc w (.cells (vals xs).toArray 9)
 refine (add_any (fun k => F k ∨ k = w.heap.size) B T b v w.heap.size xs _ (fun k hk => ?_) (h.more hb fun k hk => ?_) (.inr rfl) (fun j hj => ?_) hlim).mono fun e w' ⟨h1, ⟨v', h2⟩, h3⟩ => ⟨h1, ⟨v', h2.less fun k hk => .inl hk⟩, ?_⟩
 ·rcases hk with hk | rfl
  ·exact Nat.lt_of_lt_of_le (hF k hk) hb.size
  ·simp
 ·rcases hk with hk | rfl
  ·exact .inl hk
  ·exact .inr (Nat.le_refl _)
 ·rw [World.cell?_alloc_at _ _ _ _ rfl]
  simp [vals, hj]
 ·exact ((Fr.refl F w).alloc hF _).trans (h3.mono fun k hk => .inl hk)
theorem full_one {s : ByteArray} (h : ¬ s.size = 0) : full [s] = [s] := full_snoc_yes [s] 0 (by simp) h
theorem full_two {s t : ByteArray} (h : ¬ s.size = 0) : full [s, t] = s :: some1 t := by
 unfold full some1
 rw [List.filter_cons_of_pos (by rw [decide_eq_true_eq]; exact h)]
 by_cases ht : t.size = 0
 ·rw [List.filter_cons_of_neg (by rw [decide_eq_true_eq]; exact fun e => e ht), if_pos ht]; rfl
 ·rw [List.filter_cons_of_pos (by rw [decide_eq_true_eq]; exact ht), if_neg ht]; rfl
theorem some1_of {s : ByteArray} (h : ¬ s.size = 0) : some1 s = [s] := if_neg h
theorem add_one (F : Nat → Prop) (B : Nat) (T : Ts) (b : Bool) (v : Value) (s : ByteArray) (g : Nat) (w : World) (hF : ∀ k, F k → k < w.heap.size) (h : Wr w F B T b v) (hlim : T.length ≤ 8796093022000) (hs : ¬ s.size = 0) (hg : g = w.heap.size) :
  Calls Tryz.prog 81 #[.pointer (some ⟨B, 0, none⟩), .slice (some ⟨g, 0, none⟩) 1 1] (w.alloc (.cells #[.string s] 9)) (Adds w F B (T ++ [s]) b) :=
 add_new F B T b v [s] _ g 1 w hF h (by simp; omega) hg rfl rfl _ (by rw [full_one hs])
theorem add_two (F : Nat → Prop) (B : Nat) (T : Ts) (b : Bool) (v : Value) (s t : ByteArray) (g : Nat) (w : World) (hF : ∀ k, F k → k < w.heap.size) (h : Wr w F B T b v) (hlim : T.length ≤ 8796093022000) (hs : ¬ s.size = 0) (hg : g = w.heap.size) :
  Calls Tryz.prog 81 #[.pointer (some ⟨B, 0, none⟩), .slice (some ⟨g, 0, none⟩) 2 2] (w.alloc (.cells #[.string s, .string t] 9)) (Adds w F B (T ++ (s :: some1 t)) b) :=
 add_new F B T b v [s, t] _ g 2 w hF h (by simp; omega) hg rfl rfl _ (by rw [full_two hs])
abbrev Ent (f : Nat) : Prop := ∀ (args : Array Value) (w : World), (callFunc f args).run Tryz.prog w = .ok (.enter f args) w
def AddsF (w : World) (F : Nat → Prop) (B : Nat) (T : Ts) (e : Ending) (w' : World) : Prop := e = .returned (.tuple #[]) ∧ (∃ b v, Wr w' F B T b v) ∧ Fr F w w'
theorem Adds.free {w : World} {F : Nat → Prop} {B : Nat} {T : Ts} {b : Bool} {e : Ending} {w' : World} (h : Adds w F B T b e w') : AddsF w F B T e w' := by
 obtain ⟨h1, ⟨v, h2⟩, h3⟩ := h
 exact ⟨h1, ⟨b, v, h2⟩, h3⟩
theorem enclose_any (F : Nat → Prop) (B : Nat) (T : Ts) (b : Bool) (v : Value) (l r : ByteArray) (f : Nat) (caps : Array Value) (out : Ts) (w : World) (hF : ∀ k, F k → k < w.heap.size) (h : Wr w F B T b v) (hlim : T.length + out.length ≤ 8796093020000) (hl : ¬ l.size = 0) (hr : ¬ r.size = 0) (hf : Ent f)
  (hc : ∀ w1 v1, Wr w1 F B (T ++ [l]) false v1 → Fr F w w1 → Calls Tryz.prog f caps w1 (AddsF w1 F B (T ++ [l] ++ out))) :
  Calls Tryz.prog 117 #[.pointer (some ⟨B, 0, none⟩), .string l, .string r, .func (.func f) #[] caps] w (Adds w F B (T ++ brack l r out) b) := by
 have HF := Lib.hid hF
 have HC := Lib.hid hc
 have HL := Lib.hid hl
 have HR := Lib.hid hr
 have hc1 := h.c1
 have hf1 := h.f1
 have H1 := Lib.hid (h.flag false)
 have HFr := Lib.hid ((Fr.refl F w).setCell (p := ⟨B, 1, none⟩) h.nF (.bool false))
 clear hF hc hl hr h
 go_enter Tryz.func117, Tryz.ntmps117
 go_wp2_with fail
 refine (add_one F B T false v l _ _ (fun k hk => Nat.lt_of_lt_of_le (HF.out k hk) HFr.out.size) H1.out (by omega) HL.out (by simp)).mono ?_
 rintro e w1 ⟨rfl, ⟨v1, hw1⟩, hfr1⟩
 have HW1 := Lib.hid hw1
 have HF1 := Lib.hid (HFr.out.trans hfr1)
 clear hw1 hf1 hc1 hfr1
 go_wp2_with fail
 refine (HC.out w1 v1 HW1.out HF1.out).mono ?_
 rintro e w2 ⟨rfl, ⟨b2, v2, hw2⟩, hfr2⟩
 have hlen : (T ++ [l] ++ out).length ≤ 8796093022000 := by
  simp only [List.length_append, List.length_cons, List.length_nil]
  omega
 have HF2 := Lib.hid (HF1.out.trans hfr2)
 have HW2 := Lib.hid hw2
 clear hw2 hfr2
 go_wp2_with fail
 refine (add_one F B _ b2 v2 r _ _ (fun k hk => Nat.lt_of_lt_of_le (HF.out k hk) HF2.out.size) HW2.out hlen HR.out (by simp)).mono ?_
 rintro e w3 ⟨rfl, ⟨v3, hw3⟩, hfr3⟩
 have hc3 := hw3.c1
 have hf3 := hw3.f1
 have HW3 := Lib.hid (hw3.flag b)
 have HF3 := Lib.hid ((HF2.out.trans hfr3).setCell (p := ⟨B, 1, none⟩) hw3.nF (.bool b))
 have HE : Hid (T ++ [l] ++ out ++ [r] = T ++ brack l r out) := by simp [Hid, brack]
 clear hw3 hfr3
 go_wp2_with fail
 go_end0
 exact ⟨rfl, ⟨v3, by rw [← HE.out]; exact HW3.out⟩, HF3.out⟩
theorem commas_snoc (l : List Ts) (t : Ts) : commas (l ++ [t]) = if l = [] then t else commas l ++ ⟨#[44]⟩ :: t := by
 induction l with
 | nil => rfl
 | cons a r ih =>
  rw [if_neg (by simp)]
  cases r with
  | nil => rfl
  | cons b r =>
   rw [List.cons_append, List.cons_append, commas, ← List.cons_append, ih, if_neg (by simp), commas]
   simp
theorem commas_take (l : List Ts) (j : Nat) (h : j < l.length) : commas (l.take (j + 1)) = if j = 0 then l[j] else commas (l.take j) ++ ⟨#[44]⟩ :: l[j] := by
 rw [snoc_get _ _ h, commas_snoc]
 by_cases h0 : j = 0
 ·subst h0; rfl
 ·rw [if_neg h0, if_neg]
  intro e
  have := congrArg List.length e
  rw [List.length_take, List.length_nil] at this
  omega
def lens : List Ts → Nat
 | [] => 0
 | t :: r => t.length + 1 + lens r
theorem lens_append (a b : List Ts) : lens (a ++ b) = lens a + lens b := by
 induction a with
 | nil => simp [lens]
 | cons x r ih => simp only [List.cons_append, lens, ih]; omega
theorem lens_take (l : List Ts) (j : Nat) : lens (l.take j) ≤ lens l := by
 conv => rhs; rw [← List.take_append_drop j l, lens_append]
 omega
theorem lens_get (l : List Ts) (j : Nat) (h : j < l.length) : lens (l.take j) + l[j].length + 1 ≤ lens l := by
 have := lens_take l (j + 1)
 rw [snoc_get _ _ h, lens_append] at this
 simp only [lens] at this
 omega
theorem commas_lt : ∀ l : List Ts, l ≠ [] → (commas l).length + 1 ≤ lens l
 | [], h => absurd rfl h
 | [a], _ => by simp [commas, lens]
 | a :: b :: r, _ => by
  have := commas_lt (b :: r) (by simp)
  rw [commas, lens, List.length_append, List.length_cons]
  omega
theorem commas_le (l : List Ts) : (commas l).length ≤ lens l := by
 induction l with
 | nil => simp [commas]
 | cons a r ih =>
  cases r with
  | nil => simp [commas, lens]
  | cons b r =>
   rw [commas, lens, List.length_append, List.length_cons]
   omega
theorem commas_any (F : Nat → Prop) (B : Nat) (T : Ts) (b : Bool) (v : Value) (l : List Ts) (n : Nat) (f : Nat) (caps : List Value) (w : World) (hF : ∀ k, F k → k < w.heap.size) (h : Wr w F B T b v) (hlim : T.length + lens l ≤ 8796093020001) (hn : n = l.length) (hf : Ent f)
  (hc : ∀ j (hj : j < l.length) T1 w1 v1, T1.length + l[j].length ≤ 8796093020000 → Wr w1 F B T1 b v1 → Fr F w w1 → Calls Tryz.prog f (.int .i64 (j : Nat) :: caps).toArray w1 (Adds w1 F B (T1 ++ l[j]) b)) :
  Calls Tryz.prog 113 #[.pointer (some ⟨B, 0, none⟩), .int .i64 (n : Nat), .func (.func f) #[] caps.toArray] w (Adds w F B (T ++ commas l) b) := by
 subst hn
 have HF := Lib.hid hF
 have HC := Lib.hid hc
 have HW := Lib.hid h
 have hn1 : (l.length : Int) ≤ 8796093020001 := by
  have h1 : ∀ l : List Ts, l.length ≤ lens l := fun l => by
   induction l with
   | nil => simp
   | cons x r ih => simp only [List.length_cons, lens]; omega
  have := h1 l
  omega
 clear hF hc h
 go_enter Tryz.func113, Tryz.ntmps113
 go_wp2_with fail
 go_loopw [8] (fun i wr => ∃ (j : Nat) (v' : Value), j ≤ l.length ∧ i = .int .i64 j ∧ Hid (Wr wr F B (T ++ commas (l.take j)) b v') ∧ Fr F w wr)
  (fun i _ => l.length - (intOf i).toNat)
 case atStart => exact ⟨0, v, Nat.zero_le _, rfl, by rw [show T ++ commas (l.take 0) = T by simp [commas]]; exact HW, Fr.refl _ _⟩
 case round =>
  obtain ⟨j, v', hj, rfl, hw, hfr⟩ := hrel
  by_cases hlt : j < l.length
  ·have hlg := lens_get l j hlt
   have hcl := commas_le (l.take j)
   have HS := Lib.hid (commas_take l j hlt)
   have HCj := Lib.hid fun T1 w1 v1 => HC.out j hlt T1 w1 v1
   generalize l[j] = t at *
   generalize hcj : commas (l.take j) = cj at *
   by_cases h0 : j = 0
   ·subst h0
    have hcj0 : cj = [] := by rw [← hcj]; rfl
    subst hcj0
    have hw' : Hid (Wr wr F B T b v') := by have := hw.out; rw [List.append_nil] at this; exact this
    rw [if_pos rfl] at HS
    clear hw hcj
    go_wp2_with fail
    refine (HCj.out T wr v' (by omega) hw'.out hfr).mono ?_
    rintro e w1 ⟨rfl, ⟨v1, hw1⟩, hfr1⟩
    have HW1 := Lib.hid hw1
    have HF1 := Lib.hid (hfr.trans hfr1)
    clear hw1 hfr1 hfr hw'
    go_wp2_with fail
    go_roundw
    case rel => exact ⟨1, v1, by omega, by go_num, by rw [HS.out]; exact HW1, HF1.out⟩
    case measure => simp [intOf]; omega
   ·have h0' : 0 < j := by omega
    have hcl := commas_lt (l.take j) (by intro e; have := congrArg List.length e; rw [List.length_take, List.length_nil] at this; omega)
    rw [hcj] at hcl
    have hll : (T ++ cj).length ≤ 8796093022000 := by
     rw [List.length_append]
     omega
    rw [if_neg h0] at HS
    clear hcj h0
    go_wp2_with fail
    refine (add_one F B _ b v' ⟨#[44]⟩ _ _ (fun k hk => Nat.lt_of_lt_of_le (HF.out k hk) hfr.size) hw.out hll (by decide) (by simp)).mono ?_
    rintro e w1 ⟨rfl, ⟨v1, hw1⟩, hfr1⟩
    have HW1 := Lib.hid hw1
    have HF1 := Lib.hid (hfr.trans hfr1)
    clear hw1 hfr1 hfr hw
    go_wp2_with fail
    refine (HCj.out _ w1 v1 ?g1 HW1.out HF1.out).mono ?_
    case g1 =>
     simp only [List.length_append, List.length_cons, List.length_nil]
     omega
    rintro e w2 ⟨rfl, ⟨v2, hw2⟩, hfr2⟩
    have HW2 := Lib.hid hw2
    have HF2 := Lib.hid (HF1.out.trans hfr2)
    clear hw2 hfr2
    go_wp2_with fail
    go_roundw
    case rel => exact ⟨j + 1, v2, by omega, by go_num, by rw [HS.out]; simpa using HW2, HF2.out⟩
    case measure => simp [intOf]; omega
  ·obtain rfl : j = l.length := by omega
   rw [List.take_length] at hw
   go_wp2_with fail
   go_end0
   exact ⟨rfl, ⟨v', hw.out⟩, hfr⟩
theorem noBoth {b : Bool} {p : Prop} (h1 : b = true) (h2 : b = false) : p := by rw [h1] at h2; cases h2
theorem hitO {s : ByteArray} {l : Bs} {n : Nat} (h : (s.toList == l) = true) (hl : opl l = n) : (opl (bl s) : Int) = n := by
 rw [show bl s = s.toList from (Lib.toList_data s).symm, eq_of_beq h, hl]
theorem neO {s : ByteArray} {l : Bs} (h : (s.toList == l) = false) : ¬ bl s = l := fun e => by
 rw [show s.toList = bl s from Lib.toList_data s, e] at h
 simp at h
theorem opLevel_any (s : ByteArray) (w : World) :
  Calls Tryz.prog 107 #[.string s] w fun e w' => e = .returned (.int .i64 (opl (bl s) : Nat)) ∧ w = w' := by
 go_enter Tryz.func107, Tryz.ntmps107
 go_wp2
 all_goals first
  | (exfalso; exact noBoth (by assumption) (by assumption))
  | (go_ret; exact ⟨ret_int (hitO (by assumption) (by decide +kernel)).symm, rfl⟩)
  | (go_ret; exact ⟨ret_int (by unfold opl; rw [if_neg (neO (by assumption)), if_neg (neO (by assumption)), if_neg, if_neg, if_neg, if_neg]; rfl; all_goals (rintro h; (repeat (rcases h with h | h; exact neO (by assumption) h)); exact neO (by assumption) h)), rfl⟩)
def Fine (v : V) : Prop := v.ok = true ∧ v.bulk ≤ 4194304
theorem Fine.kid {v u : V} (h : Fine v) (hu : u ∈ v.l) : Fine u := by
 refine ⟨?_, ?_⟩
 ·have h1 := h.1
  rw [ok_eq, oks_all, Bool.and_eq_true, List.all_eq_true] at h1
  exact h1.2 u hu
 ·have h2 := h.2
  have := bulk_le_of_mem hu
  cases v
  simp only [V.bulk, V.l] at *
  omega
theorem Fine.right {v : V} (h : Fine v) : right v = true := by
 have h1 := h.1
 rw [ok_eq, Bool.and_eq_true] at h1
 exact h1.1
theorem Fine.fields {v : V} (h : Fine v) : fields (ctch v) v = true := by
 have := h.right
 unfold R.right at this
 rw [Bool.and_eq_true] at this
 exact this.1
theorem Fine.kids {v : V} (h : Fine v) : kids v = true := by
 have := h.right
 unfold R.right at this
 rw [Bool.and_eq_true] at this
 exact this.2
theorem Fine.nm {v : V} (h : Fine v) : nmOk (ctch v) v = true := by
 have := h.fields; unfold R.fields at this; rw [Bool.and_eq_true] at this; exact this.1
theorem Fine.num {v : V} (h : Fine v) : numOk v = true := by
 have := h.fields; unfold R.fields at this; rw [Bool.and_eq_true, Bool.and_eq_true] at this; exact this.2.1
theorem Fine.tx {v : V} (h : Fine v) : txOk v = true := by
 have := h.fields; unfold R.fields at this; rw [Bool.and_eq_true, Bool.and_eq_true, Bool.and_eq_true] at this; exact this.2.2.1
theorem Fine.ns {v : V} (h : Fine v) : nsOk v = true := by
 have := h.fields; unfold R.fields at this; rw [Bool.and_eq_true, Bool.and_eq_true, Bool.and_eq_true] at this; exact this.2.2.2
theorem Fine.len {v : V} (h : Fine v) : v.l.length ≤ 4194304 ∧ v.ks.length ≤ 4194304 ∧ v.s.size ≤ 4194304 ∧ v.nm.size ≤ 4194304 := by
 have h2 := h.2
 have h3 := length_le_bulks v.l
 have h4 := length_le_keysBulk v.ks
 refine ⟨?_, ?_, ?_, ?_⟩
 all_goals (cases v; simp only [V.bulk, V.l, V.ks, V.s, V.nm] at *; omega)
theorem lvl_basic (x : X) (w : World) (h0 : ¬ x.k = 21 ∧ ¬ x.k = 20 ∧ ¬ x.k = 19 ∧ ¬ x.k = 17 ∧ ¬ x.k = 18 ∧ ¬ x.k = 15 ∧ ¬ x.k = 16 ∧ ¬ x.k = 13 ∧ ¬ x.k = 11 ∧ ¬ x.k = 12 ∧ ¬ x.k = 14) :
  Calls Tryz.prog 131 #[x.v] w fun e w' => e = .returned (.int .i64 13) ∧ Below w.heap.size w w' := by
 obtain ⟨k, nm, n, s, ka, kn, kc, la, ln, lc⟩ := x
 simp only [X.v] at *
 have hbe : ∀ m : Int, ¬ k = m → (k == m) = false := fun m hm => by rw [beq_eq_false_iff_ne]; exact hm
 have b21 := hbe 21 (by omega)
 have b20 := hbe 20 (by omega)
 have b19 := hbe 19 (by omega)
 have b17 := hbe 17 (by omega)
 have b18 := hbe 18 (by omega)
 have b15 := hbe 15 (by omega)
 have b16 := hbe 16 (by omega)
 have b13 := hbe 13 (by omega)
 have b11 := hbe 11 (by omega)
 have b12 := hbe 12 (by omega)
 have b14 := hbe 14 (by omega)
 clear hbe h0
 go_enter Tryz.func131, Tryz.ntmps131
 go_wp2_with fail
 go_ret
 exact ⟨rfl, below_alloc w _⟩
theorem lvl_21 (x : X) (w : World) (h0 : x.k = 21) :
  Calls Tryz.prog 131 #[x.v] w fun e w' => e = .returned (.int .i64 0) ∧ Below w.heap.size w w' := by
 obtain ⟨k, nm, n, s, ka, kn, kc, la, ln, lc⟩ := x
 simp only [X.v] at *
 subst h0
 go_enter Tryz.func131, Tryz.ntmps131
 go_wp2_with fail
 go_ret
 exact ⟨rfl, below_alloc w _⟩
theorem lvl_20 (x : X) (w : World) (h0 : x.k = 20) :
  Calls Tryz.prog 131 #[x.v] w fun e w' => e = .returned (.int .i64 1) ∧ Below w.heap.size w w' := by
 obtain ⟨k, nm, n, s, ka, kn, kc, la, ln, lc⟩ := x
 simp only [X.v] at *
 subst h0
 go_enter Tryz.func131, Tryz.ntmps131
 go_wp2_with fail
 go_ret
 exact ⟨rfl, below_alloc w _⟩
theorem lvl_19 (x : X) (w : World) (h0 : x.k = 19) :
  Calls Tryz.prog 131 #[x.v] w fun e w' => e = .returned (.int .i64 2) ∧ Below w.heap.size w w' := by
 obtain ⟨k, nm, n, s, ka, kn, kc, la, ln, lc⟩ := x
 simp only [X.v] at *
 subst h0
 go_enter Tryz.func131, Tryz.ntmps131
 go_wp2_with fail
 go_ret
 exact ⟨rfl, below_alloc w _⟩
theorem lvl_15 (x : X) (w : World) (h0 : x.k = 15) :
  Calls Tryz.prog 131 #[x.v] w fun e w' => e = .returned (.int .i64 9) ∧ Below w.heap.size w w' := by
 obtain ⟨k, nm, n, s, ka, kn, kc, la, ln, lc⟩ := x
 simp only [X.v] at *
 subst h0
 go_enter Tryz.func131, Tryz.ntmps131
 go_wp2_with fail
 go_ret
 exact ⟨rfl, below_alloc w _⟩
theorem lvl_13 (x : X) (w : World) (h0 : x.k = 13) :
  Calls Tryz.prog 131 #[x.v] w fun e w' => e = .returned (.int .i64 11) ∧ Below w.heap.size w w' := by
 obtain ⟨k, nm, n, s, ka, kn, kc, la, ln, lc⟩ := x
 simp only [X.v] at *
 subst h0
 go_enter Tryz.func131, Tryz.ntmps131
 go_wp2_with fail
 go_ret
 exact ⟨rfl, below_alloc w _⟩
theorem lvl_14 (x : X) (w : World) (h0 : x.k = 14) :
  Calls Tryz.prog 131 #[x.v] w fun e w' => e = .returned (.int .i64 12) ∧ Below w.heap.size w w' := by
 obtain ⟨k, nm, n, s, ka, kn, kc, la, ln, lc⟩ := x
 simp only [X.v] at *
 subst h0
 go_enter Tryz.func131, Tryz.ntmps131
 go_wp2_with fail
 go_ret
 exact ⟨rfl, below_alloc w _⟩
theorem lvl_16p (x : X) (w : World) (h0 : x.k = 16) (h1 : x.n = 1) :
  Calls Tryz.prog 131 #[x.v] w fun e w' => e = .returned (.int .i64 9) ∧ Below w.heap.size w w' := by
 obtain ⟨k, nm, n, s, ka, kn, kc, la, ln, lc⟩ := x
 simp only [X.v] at *
 subst h0 h1
 go_enter Tryz.func131, Tryz.ntmps131
 go_wp2_with fail
 go_ret
 exact ⟨rfl, below_alloc w _⟩
theorem lvl_16n (x : X) (w : World) (h0 : x.k = 16) (h1 : ¬ x.n = 1) :
  Calls Tryz.prog 131 #[x.v] w fun e w' => e = .returned (.int .i64 10) ∧ Below w.heap.size w w' := by
 obtain ⟨k, nm, n, s, ka, kn, kc, la, ln, lc⟩ := x
 simp only [X.v] at *
 subst h0
 have hb : (n == 1) = false := by rw [beq_eq_false_iff_ne]; exact h1
 clear h1
 go_enter Tryz.func131, Tryz.ntmps131
 go_wp2_with fail
 go_ret
 exact ⟨rfl, below_alloc w _⟩
theorem lvl_17 (x : X) (w : World) (h0 : x.k = 17) :
  Calls Tryz.prog 131 #[x.v] w fun e w' => e = .returned (.int .i64 (opl (bl x.nm) : Nat)) ∧ Below w.heap.size w w' := by
 have HO := Lib.hid fun w => opLevel_any x.nm w
 obtain ⟨k, nm, n, s, ka, kn, kc, la, ln, lc⟩ := x
 simp only [X.v] at *
 subst h0
 go_enter Tryz.func131, Tryz.ntmps131
 go_wp2_with fail
 refine (HO.out _).mono ?_
 rintro e w' ⟨rfl, rfl⟩
 go_wp2_with fail
 go_ret
 exact ⟨rfl, below_alloc w _⟩
theorem lvl_18 (x : X) (w : World) (h0 : x.k = 18) :
  Calls Tryz.prog 131 #[x.v] w fun e w' => e = .returned (.int .i64 (opl (bl x.nm) : Nat)) ∧ Below w.heap.size w w' := by
 have HO := Lib.hid fun w => opLevel_any x.nm w
 obtain ⟨k, nm, n, s, ka, kn, kc, la, ln, lc⟩ := x
 simp only [X.v] at *
 subst h0
 go_enter Tryz.func131, Tryz.ntmps131
 go_wp2_with fail
 refine (HO.out _).mono ?_
 rintro e w' ⟨rfl, rfl⟩
 go_wp2_with fail
 go_ret
 exact ⟨rfl, below_alloc w _⟩
theorem lvl_11 (x y : X) (g o : Nat) (L : Nat) (w : World) (h0 : x.k = 11) (hl : 0 < x.ln) (hlc : x.ln ≤ x.lc) (hA : x.la = some ⟨g, o, none⟩) (hg : g < w.heap.size) (hy : At w g o y)
  (hc : ∀ w', Below w.heap.size w w' → Calls Tryz.prog 131 #[y.v] w' fun e w'' => e = .returned (.int .i64 (L : Nat)) ∧ Below w'.heap.size w' w'') (hL : L ≤ 13) :
  Calls Tryz.prog 131 #[x.v] w fun e w' => e = .returned (.int .i64 ((if 12 ≤ L then 12 else 11 : Nat) : Int)) ∧ Below w.heap.size w w' := by
 obtain ⟨k, nm, n, s, ka, kn, kc, la, ln, lc⟩ := x
 have hy' := hy.below hg (below_alloc w (.cells #[.int .i64 k, .string nm, .int .i64 n, .string s, .slice ka kn kc, .slice la ln lc] 25))
 obtain ⟨c0, c1, c2, c3, c4, c5⟩ := hy'
 obtain ⟨yk, ynm, yn, ys, yka, ykn, ykc, yla, yln, ylc⟩ := y
 simp only [X.v] at *
 subst h0 hA
 have HC := Lib.hid hc
 have hl' : (0 : Int) < (ln : Int) := by omega
 clear hc hy
 by_cases h12 : 12 ≤ L
 all_goals
  first | rw [if_pos h12] | rw [if_neg h12]
  go_enter Tryz.func131, Tryz.ntmps131
  go_wp2_with fail
  refine (HC.out _ (below_alloc w _)).mono ?_
  rintro e w' ⟨rfl, hb⟩
  have hb2 := (below_alloc w (.cells #[.int .i64 11, .string nm, .int .i64 n, .string s, .slice ka kn kc, .slice (some ⟨g, o, none⟩) ln lc] 25)).trans (hb.mono (by simp))
  clear hb c0 c1 c2 c3 c4 c5
  go_wp2_with fail
  go_ret
  exact ⟨rfl, hb2⟩
theorem lvl_12 (x y : X) (g o : Nat) (L : Nat) (w : World) (h0 : x.k = 12) (hl : 0 < x.ln) (hlc : x.ln ≤ x.lc) (hA : x.la = some ⟨g, o, none⟩) (hg : g < w.heap.size) (hy : At w g o y)
  (hc : ∀ w', Below w.heap.size w w' → Calls Tryz.prog 131 #[y.v] w' fun e w'' => e = .returned (.int .i64 (L : Nat)) ∧ Below w'.heap.size w' w'') (hL : L ≤ 13) :
  Calls Tryz.prog 131 #[x.v] w fun e w' => e = .returned (.int .i64 ((if 12 ≤ L then 12 else 11 : Nat) : Int)) ∧ Below w.heap.size w w' := by
 obtain ⟨k, nm, n, s, ka, kn, kc, la, ln, lc⟩ := x
 have hy' := hy.below hg (below_alloc w (.cells #[.int .i64 k, .string nm, .int .i64 n, .string s, .slice ka kn kc, .slice la ln lc] 25))
 obtain ⟨c0, c1, c2, c3, c4, c5⟩ := hy'
 obtain ⟨yk, ynm, yn, ys, yka, ykn, ykc, yla, yln, ylc⟩ := y
 simp only [X.v] at *
 subst h0 hA
 have HC := Lib.hid hc
 have hl' : (0 : Int) < (ln : Int) := by omega
 clear hc hy
 by_cases h12 : 12 ≤ L
 all_goals
  first | rw [if_pos h12] | rw [if_neg h12]
  go_enter Tryz.func131, Tryz.ntmps131
  go_wp2_with fail
  refine (HC.out _ (below_alloc w _)).mono ?_
  rintro e w' ⟨rfl, hb⟩
  have hb2 := (below_alloc w (.cells #[.int .i64 12, .string nm, .int .i64 n, .string s, .slice ka kn kc, .slice (some ⟨g, o, none⟩) ln lc] 25)).trans (hb.mono (by simp))
  clear hb c0 c1 c2 c3 c4 c5
  go_wp2_with fail
  go_ret
  exact ⟨rfl, hb2⟩
theorem k_ways {k : Int} (h : 1 ≤ k ∧ k ≤ 21 ∧ ¬ k = 9) : (¬ k = 21 ∧ ¬ k = 20 ∧ ¬ k = 19 ∧ ¬ k = 17 ∧ ¬ k = 18 ∧ ¬ k = 15 ∧ ¬ k = 16 ∧ ¬ k = 13 ∧ ¬ k = 11 ∧ ¬ k = 12 ∧ ¬ k = 14) ∨ k = 21 ∨ k = 20 ∨ k = 19 ∨ k = 17 ∨ k = 18 ∨ k = 15 ∨ k = 16 ∨ k = 13 ∨ k = 11 ∨ k = 12 ∨ k = 14 := by omega
theorem isE_k {v : V} (h : isE v = true) : 1 ≤ v.k ∧ v.k ≤ 21 ∧ ¬ v.k = 9 := of_decide_eq_true h
theorem opl_le (s : Bs) : opl s ≤ 8 := by
 unfold opl
 repeat' split
 all_goals omega
theorem lvl_le : ∀ v : V, v.o.lvl ≤ 13 := by
 intro v
 rw [o_lvl]
 have := opl_le (bl v.nm)
 unfold lvlN
 repeat' split
 all_goals omega
theorem level_any : ∀ (v : V) (x : X) (w : World), Fine v → isE v = true → Is w v x →
  Calls Tryz.prog 131 #[x.v] w fun e w' => e = .returned (.int .i64 (v.o.lvl : Nat)) ∧ Below w.heap.size w w' := by
 refine V.ind fun k nm n s ks l ih => ?_
 intro x w hf he h
 have hk := isE_k he
 have hxo := h.open
 obtain ⟨ka, kc, la, lc, rfl, h1, h2, h3, h4⟩ := hxo
 have hkid := hf.kids
 have hsub := fun u (hu : u ∈ l) => hf.kid (v := .mk k nm n s ks l) hu
 rw [o_lvl]
 simp only [V.k, V.nm, V.n, V.s, V.ks, V.l] at *
 rcases k_ways hk with h0 | h0 | h0 | h0 | h0 | h0 | h0 | h0 | h0 | h0 | h0 | h0
 ·unfold lvlN
  rw [if_neg h0.1, if_neg h0.2.1, if_neg h0.2.2.1, if_neg (by omega), if_neg (by omega), if_neg (by omega), if_neg (by omega), if_neg (by omega), if_neg (by omega)]
  exact lvl_basic _ w h0
 all_goals subst h0
 ·exact lvl_21 _ w rfl
 ·exact lvl_20 _ w rfl
 ·exact lvl_19 _ w rfl
 ·exact lvl_17 _ w rfl
 ·exact lvl_18 _ w rfl
 ·exact lvl_15 _ w rfl
 ·unfold lvlN
  rw [if_neg (by omega), if_neg (by omega), if_neg (by omega), if_neg (by omega), if_neg (by omega), if_pos rfl]
  by_cases hn : n = 1
  ·rw [if_pos hn]; exact lvl_16p _ w rfl hn
  ·rw [if_neg hn]; exact lvl_16n _ w rfl hn
 ·exact lvl_13 _ w rfl
 all_goals try exact lvl_14 _ w rfl
 ·unfold kids at hkid
  rw [if_neg (by simp [V.k]), if_neg (by simp [V.k]), if_neg (by simp [V.k]), if_neg (by simp [V.k]), if_pos (by simp [V.k])] at hkid
  obtain ⟨a, hl, ha⟩ := are1.1 hkid
  simp only [V.l] at hl
  subst hl
  obtain ⟨g, o, rfl, hg, y, hy, hv⟩ := h4.at_ (i := 0) (by simp)
  exact lvl_11 _ y g o _ w rfl (by simp) h2 rfl hg (by simpa using hy) (fun w' hb => ih a (by simp) y w' (hsub a (by simp)) ha (Is.below hb _ _ hv)) (lvl_le a)
 ·unfold kids at hkid
  rw [if_neg (by simp [V.k]), if_neg (by simp [V.k]), if_neg (by simp [V.k]), if_neg (by simp [V.k]), if_neg (by simp [V.k]), if_pos (by simp [V.k])] at hkid
  obtain ⟨a, b, hl, ha, hb⟩ := are2.1 hkid
  simp only [V.l] at hl
  subst hl
  obtain ⟨g, o, rfl, hg, y, hy, hv⟩ := h4.at_ (i := 0) (by simp)
  exact lvl_12 _ y g o _ w rfl (by simp) h2 rfl hg (by simpa using hy) (fun w' hb => ih a (by simp) y w' (hsub a (by simp)) ha (Is.below hb _ _ hv)) (lvl_le a)
theorem RowB.cons {w : World} {n0 : Nat} {A : Option Addr} {a : V} {r : List V} (h : RowB w n0 A (a :: r)) : ∃ g o y, A = some ⟨g, o, none⟩ ∧ g < n0 ∧ At w g o y ∧ IsB w n0 a y ∧ RowB w n0 (some ⟨g, o + 6, none⟩) r := by
 rcases h with h | ⟨g, o, rfl, h1, h2⟩
 ·cases h
 ·simp only [IsAllB] at h2
  obtain ⟨⟨y, hy, hya⟩, h3⟩ := h2
  exact ⟨g, o, y, rfl, h1, hy, hya, .inr ⟨g, o + 6, rfl, h1, h3⟩⟩
end Go.Proofs.YtllpgoaanbiodaaGreatDoor.R
