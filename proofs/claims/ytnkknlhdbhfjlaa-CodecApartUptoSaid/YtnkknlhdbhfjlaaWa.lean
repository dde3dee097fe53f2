/-
  The reference's write where there is nothing within, by contract.
-/
import Derived.Test.YtnkknlhdbhfjlaaEd
namespace Go.Proofs.Ytnkknlhdbhfjlaa
open Go.RowKit

/-- new rows of bytes: away from all that was there -/
theorem gives_own {w w' : World} {v : Value} {l : Bs} (h : w'.ownsRow w.heap.size 5 1 v l.length (l.map bv)) : Own w' (· < w.heap.size) v l :=
  ⟨O.own_lower h (Nat.zero_le _), fun k hk hlt => by have := (h.lt k hk).1; omega⟩
theorem own_lit (w : World) (F : Nat → Prop) (hF : ∀ k, F k → k < w.heap.size) (c : UInt8) (n : Int) (hn : n = (c.toNat : Int)) : Own (w.alloc (.cells #[.int .u8 n] 5)) F (.slice (some ⟨w.heap.size, 0, none⟩) 1 1) [c] := by
  subst hn
  refine ⟨World.ownsRow_lit (base := 0) (e := 5) (size := 1) w #[.int .u8 (c.toNat : Int)] 1 (Nat.zero_le _) (by unfold maxLen; omega) rfl, fun k hk hf => ?_⟩
  have : w.heap.size = k := by simpa [Value.ownBlock] using hk
  have := hF k hf
  omega
theorem own_store {w : World} {F : Nat → Prop} {v : Value} {c : UInt8} {l : Bs} (h : Own w F v (c :: l)) : ∃ g cap, v = .slice (some ⟨g, 0, none⟩) (l.length + 1) cap ∧ (∃ u, w.cell? ⟨g, 0, none⟩ = some u) ∧ w.frozen? ⟨g, 0, none⟩ = false ∧ ¬ F g ∧
    ∀ d : UInt8, Own (w.setCell ⟨g, 0, none⟩ (.int .u8 (d.toNat : Int))) F v (d :: l) := by
  obtain ⟨h1, h2⟩ := h
  obtain ⟨g, cap, rfl, _, hlt⟩ := h1.form (by simp)
  refine ⟨g, cap, rfl, ⟨_, by rw [h1.cellAt 0 (by simp)]; rfl⟩, h1.frozenAt 0, h2 g rfl, fun d => ⟨?_, h2⟩⟩
  have h3 := (h1.stored 0 (.int .u8 (d.toNat : Int))).1
  exact h3
/-- the reference's write, at one value -/
def AtW (v : V) : Prop := ∀ (x : X) (w : World), Is w v x → v.may = true → v.bulk ≤ 4194304 → Calls Try.prog 20 #[x.v] w (App w (· < w.heap.size) v.enc)
theorem below_lt {w w' : World} (h : Below w.heap.size w w') : Fr (· < w.heap.size) w w' := Fr.of h fun _ h => h

set_option maxRecDepth 100000 in
set_option maxHeartbeats 1000000 in
theorem aw_word (v : V) (x : X) (w : World) (hx : Is w v x) (hk : v.k = 0 ∨ v.k = 1) : Calls Try.prog 20 #[x.v] w (App w (· < w.heap.size) v.enc) := by
  obtain ⟨ka, kc, la, lc, rfl, h1, h2, h3, h4⟩ := hx.open
  have HT0 : Hid (v.k = 0 → v.enc = [0]) := fun h => enc0 h
  have HT1 : Hid (v.k = 1 → v.enc = [1]) := fun h => enc1 h
  simp only [X.v]
  clear hx h1 h2 h3 h4
  generalize v.n = n at *
  generalize v.s = s at *
  generalize v.ks.length = kn at *
  generalize v.l.length = ln at *
  rcases hk with hk | hk
  · rw [HT0.out hk, hk]
    clear HT0 HT1 hk
    go_enter Try.func20, Try.ntmps20
    go_wp2_with fail
    go_ret
    refine ⟨_, rfl, ?_, below_lt (below2 w _ _)⟩
    have := own_lit (w.alloc (.cells #[.int .i64 0, .int .i64 n, .string s, .slice ka kn kc, .slice la ln lc] 25)) (· < w.heap.size) (fun k hk => by simp; omega) 0 0 rfl
    simpa using this
  · rw [HT1.out hk, hk]
    clear HT0 HT1 hk
    go_enter Try.func20, Try.ntmps20
    go_wp2_with fail
    go_ret
    refine ⟨_, rfl, ?_, below_lt (below2 w _ _)⟩
    have := own_lit (w.alloc (.cells #[.int .i64 1, .int .i64 n, .string s, .slice ka kn kc, .slice la ln lc] 25)) (· < w.heap.size) (fun k hk => by simp; omega) 1 1 rfl
    simpa using this

set_option maxRecDepth 100000 in
set_option maxHeartbeats 1000000 in
theorem aw_bool (v : V) (x : X) (w : World) (hx : Is w v x) (hk : v.k = 2) (hn : v.n = 0 ∨ v.n = 1) : Calls Try.prog 20 #[x.v] w (App w (· < w.heap.size) v.enc) := by
  obtain ⟨ka, kc, la, lc, rfl, h1, h2, h3, h4⟩ := hx.open
  have HT := Lib.hid (enc2 hk)
  simp only [X.v]
  rw [hk, HT.out]
  clear hx h1 h2 h3 h4 hk HT
  generalize v.s = s at *
  generalize v.ks.length = kn at *
  generalize v.l.length = ln at *
  rcases hn with hn | hn
  · rw [hn]
    clear hn
    go_enter Try.func20, Try.ntmps20
    go_wp2_with fail
    go_ret
    refine ⟨_, rfl, ?_, below_lt (below2 w _ _)⟩
    have := own_lit (w.alloc (.cells #[.int .i64 2, .int .i64 0, .string s, .slice ka kn kc, .slice la ln lc] 25)) (· < w.heap.size) (fun k hk => by simp; omega) 2 2 rfl
    simpa using this
  · rw [hn]
    clear hn
    go_enter Try.func20, Try.ntmps20
    go_wp2_with fail
    go_ret
    refine ⟨_, rfl, ?_, below_lt (below2 w _ _)⟩
    have := own_lit (w.alloc (.cells #[.int .i64 2, .int .i64 1, .string s, .slice ka kn kc, .slice la ln lc] 25)) (· < w.heap.size) (fun k hk => by simp; omega) 3 3 rfl
    simpa using this
theorem heap_old {w : World} {o : Obj} {k : Nat} (h : k < w.heap.size) : (w.alloc o).heap[k]? = w.heap[k]? := Below.heap_alloc _ _ _ h

set_option maxRecDepth 100000 in
set_option maxHeartbeats 1000000 in
theorem aw_num (v : V) (x : X) (w : World) (hx : Is w v x) (hk : v.k = 3) (hn : -9007199254740991 ≤ v.n ∧ v.n ≤ 9007199254740991) : Calls Try.prog 20 #[x.v] w (App w (· < w.heap.size) v.enc) := by
  obtain ⟨ka, kc, la, lc, rfl, h1, h2, h3, h4⟩ := hx.open
  by_cases h : v.n < 0
  · obtain ⟨m, hm⟩ : ∃ m : Nat, m = (-1 - v.n).toNat := ⟨_, rfl⟩
    have hmn : (m : Int) = -1 - v.n := by omega
    have e1 : IntKind.i64.wrap (-1 - v.n) = (m : Int) := by rw [hmn]; exact IntWalk.i64_in _ (by omega)
    have e2 : IntKind.u64.wrap (m : Int) = (m : Int) := O.wrap_pos (by omega) (by omega)
    have HT := Lib.hid fun w => O.refNum_any m w (by rw [O.lim_nine]; omega)
    have hlen := O.num_length m
    have HE : Hid (v.enc = [5] ++ O.num m) := by show _ = _; rw [enc3n hk h, hm]; rfl
    simp only [X.v]
    rw [hk, HE.out]
    clear hx h1 h2 h3 h4 hk HE hmn hm hn
    generalize O.num m = t at *
    generalize v.n = n at *
    generalize v.s = s at *
    generalize v.ks.length = kn at *
    generalize v.l.length = ln at *
    obtain ⟨w0, hw0⟩ : ∃ w0, w0 = w.alloc (.cells #[.int .i64 3, .int .i64 n, .string s, .slice ka kn kc, .slice la ln lc] 25) := ⟨_, rfl⟩
    have HO : Hid (Own (w0.alloc (.cells #[.int .u8 5] 5)) (· < w.heap.size) (.slice (some ⟨w.heap.size + 1, 0, none⟩) 1 1) [5]) := by
      have := own_lit w0 (· < w.heap.size) (fun k hk => by subst hw0; simp; omega) 5 5 rfl
      subst hw0
      exact Lib.hid (by simpa using this)
    have HB : Hid (Below w.heap.size w (w0.alloc (.cells #[.int .u8 5] 5))) := by subst hw0; exact below2 w _ _
    subst hw0
    go_enter Try.func20, Try.ntmps20
    go_wp2_with fail
    refine (HT.out _).mono ?_
    rintro e w2 ⟨v2, rfl, h2, hb⟩
    obtain ⟨A, c, rfl, hB⟩ := gives_byt h2
    have ho := HO.out.below hb
    have hb2 := HB.out.trans (hb.mono HB.out.size)
    have HB2 := Lib.hid hb2
    clear h2 HT hb
    go_wp2_with (refine app_row rfl _ _ (by rfl) (· < w.heap.size) (fun k hk => Nat.lt_of_lt_of_le hk HB2.out.size) _ [5] (by rfl) ho A _ c t (by rfl) rfl hB (by simp; omega) ?_; intro v' w' h1 h2)
    go_ret
    exact ⟨_, rfl, h1, (below_lt HB2.out).trans h2⟩
  · obtain ⟨m, hm⟩ : ∃ m : Nat, v.n = (m : Int) := ⟨v.n.toNat, by omega⟩
    have e0 : ¬ (m : Int) < 0 := by omega
    have e2 : IntKind.u64.wrap (m : Int) = (m : Int) := O.wrap_pos (by omega) (by omega)
    have HT := Lib.hid fun w => O.refNum_any m w (by rw [O.lim_nine]; omega)
    have hlen := O.num_length m
    have HE : Hid (v.enc = [4] ++ O.num m) := by show _ = _; rw [enc3p hk h, hm]; rfl
    simp only [X.v]
    rw [hk, HE.out, hm]
    clear hx h1 h2 h3 h4 hk HE hm hn h
    generalize O.num m = t at *
    generalize v.s = s at *
    generalize v.ks.length = kn at *
    generalize v.l.length = ln at *
    obtain ⟨w0, hw0⟩ : ∃ w0, w0 = w.alloc (.cells #[.int .i64 3, .int .i64 m, .string s, .slice ka kn kc, .slice la ln lc] 25) := ⟨_, rfl⟩
    have HO : Hid (Own (w0.alloc (.cells #[.int .u8 4] 5)) (· < w.heap.size) (.slice (some ⟨w.heap.size + 1, 0, none⟩) 1 1) [4]) := by
      have := own_lit w0 (· < w.heap.size) (fun k hk => by subst hw0; simp; omega) 4 4 rfl
      subst hw0
      exact Lib.hid (by simpa using this)
    have HB : Hid (Below w.heap.size w (w0.alloc (.cells #[.int .u8 4] 5))) := by subst hw0; exact below2 w _ _
    subst hw0
    go_enter Try.func20, Try.ntmps20
    go_wp2_with fail
    refine (HT.out _).mono ?_
    rintro e w2 ⟨v2, rfl, h2, hb⟩
    obtain ⟨A, c, rfl, hB⟩ := gives_byt h2
    have ho := HO.out.below hb
    have hb2 := HB.out.trans (hb.mono HB.out.size)
    have HB2 := Lib.hid hb2
    clear h2 HT hb
    go_wp2_with (refine app_row rfl _ _ (by rfl) (· < w.heap.size) (fun k hk => Nat.lt_of_lt_of_le hk HB2.out.size) _ [4] (by rfl) ho A _ c t (by rfl) rfl hB (by simp; omega) ?_; intro v' w' h1 h2)
    go_ret
    exact ⟨_, rfl, h1, (below_lt HB2.out).trans h2⟩

set_option maxRecDepth 100000 in
set_option maxHeartbeats 1000000 in
theorem aw_text (v : V) (x : X) (w : World) (hx : Is w v x) (hk : v.k = 4) (hs : v.s.size ≤ 4194304) : Calls Try.prog 20 #[x.v] w (App w (· < w.heap.size) v.enc) := by
  obtain ⟨ka, kc, la, lc, rfl, h1, h2, h3, h4⟩ := hx.open
  have HT := Lib.hid fun w => O.refText_any v.s w (by omega)
  have hlen := text_length v.s
  have HE : Hid (v.enc = [6] ++ O.text v.s.data.toList) := by show _ = _; rw [enc4 hk]; rfl
  simp only [X.v]
  rw [hk, HE.out]
  clear hx h1 h2 h3 h4 hk HE
  generalize O.text v.s.data.toList = t at *
  generalize v.n = n at *
  generalize v.s = s at *
  generalize v.ks.length = kn at *
  generalize v.l.length = ln at *
  obtain ⟨w0, hw0⟩ : ∃ w0, w0 = w.alloc (.cells #[.int .i64 4, .int .i64 n, .string s, .slice ka kn kc, .slice la ln lc] 25) := ⟨_, rfl⟩
  have HO : Hid (Own (w0.alloc (.cells #[.int .u8 6] 5)) (· < w.heap.size) (.slice (some ⟨w.heap.size + 1, 0, none⟩) 1 1) [6]) := by
    have := own_lit w0 (· < w.heap.size) (fun k hk => by subst hw0; simp; omega) 6 6 rfl
    subst hw0
    exact Lib.hid (by simpa using this)
  have HB : Hid (Below w.heap.size w (w0.alloc (.cells #[.int .u8 6] 5))) := by subst hw0; exact below2 w _ _
  subst hw0
  go_enter Try.func20, Try.ntmps20
  go_wp2_with fail
  refine (HT.out _).mono ?_
  rintro e w2 ⟨v2, rfl, h2, hb⟩
  obtain ⟨A, c, rfl, hB⟩ := gives_byt h2
  have ho := HO.out.below hb
  have hb2 := HB.out.trans (hb.mono HB.out.size)
  have HB2 := Lib.hid hb2
  clear h2 HT hb
  go_wp2_with (refine app_row rfl _ _ (by rfl) (· < w.heap.size) (fun k hk => Nat.lt_of_lt_of_le hk HB2.out.size) _ [6] (by rfl) ho A _ c t (by rfl) rfl hB (by simp; omega) ?_; intro v' w' h1 h2)
  go_ret
  exact ⟨_, rfl, h1, (below_lt HB2.out).trans h2⟩
end Go.Proofs.Ytnkknlhdbhfjlaa
