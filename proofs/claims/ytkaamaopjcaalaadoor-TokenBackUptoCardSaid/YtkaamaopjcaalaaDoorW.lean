/-
  The law Fresh.
-/
import Derived.Test.YtkaamaopjcaalaaDoorV
namespace Go.Proofs.YtkaamaopjcaalaaDoor.T
open Go.RowKit Go.Proofs.YtkaamaopjcaalaaDoor

theorem cutl_fresh (l : Bs) : cutl (10 :: l) 0 = ff (shR 1 (cutl l 0)) := by
  rw [cutl_blank (by rfl), if_pos (by rfl), ← cutl_shift 1 l.length l 0 (Nat.le_refl _)]
/-- the i-th token moved, the first one fresh -/
def frT (i : Nat) (t : Tk) : Tk := ⟨t.k, t.t, t.n, t.a + 1, t.f || decide (i = 0)⟩
/-- the first j ones turned -/
def turn : Nat → Nat → List Tk → List Tk
  | _, _, [] => []
  | _, 0, l => l
  | i, j + 1, t :: r => frT i t :: turn (i + 1) j r
theorem turn_length : ∀ (j i : Nat) (l : List Tk), (turn i j l).length = l.length
  | 0, _, [] => rfl
  | 0, _, _ :: _ => rfl
  | _ + 1, _, [] => rfl
  | j + 1, i, t :: r => by
    show (turn (i + 1) j r).length + 1 = _
    rw [turn_length j (i + 1) r]
    rfl
theorem turn_zero (i : Nat) : ∀ l, turn i 0 l = l
  | [] => rfl
  | _ :: _ => rfl
theorem turn_get : ∀ (j i : Nat) (l : List Tk) (k : Nat) (h : k < (turn i j l).length) (h2 : k < l.length), (turn i j l)[k] = if k < j then frT (i + k) l[k] else l[k]
  | 0, i, l, k, h, h2 => by
    rw [if_neg (by omega)]
    simp only [turn_zero]
  | j + 1, i, [], k, h, h2 => by simp at h2
  | j + 1, i, t :: r, 0, h, h2 => by
    rw [if_pos (by omega)]
    rfl
  | j + 1, i, t :: r, k + 1, h, h2 => by
    have := turn_get j (i + 1) r k (by rw [turn_length]; simpa using h2) (by simpa using h2)
    show (turn (i + 1) j r)[k]'_ = _
    rw [this, show i + 1 + k = i + (k + 1) by omega]
    by_cases hk : k < j
    · rw [if_pos hk, if_pos (by omega)]; rfl
    · rw [if_neg hk, if_neg (by omega)]; rfl
theorem turn_done {l : List Tk} : .inr (turn 0 l.length l) = ff (shR 1 (.inr l)) := by
  cases l with
  | nil => rfl
  | cons t r =>
    show Sum.inr _ = Sum.inr _
    congr 1
    apply List.ext_getElem
    · rw [turn_length]; simp
    · intro k h1 h2
      rw [turn_get _ _ _ _ h1 (by simpa using h2), if_pos (by simpa using h2)]
      cases k with
      | zero => simp [frT, Tk.sh]
      | succ k => simp [frT, Tk.sh]
theorem turn_step {l : List Tk} {j : Nat} (h : j < l.length) : turn 0 (j + 1) l = (turn 0 j l).set j (frT j l[j]) := by
  apply List.ext_getElem
  · rw [List.length_set, turn_length, turn_length]
  · intro k h1 h2
    have hk : k < l.length := by rw [turn_length] at h1; exact h1
    rw [turn_get _ _ _ _ h1 hk]
    by_cases e : k = j
    · subst e
      rw [if_pos (by omega), List.getElem_set_self]
      simp
    · rw [List.getElem_set_ne (by omega), turn_get _ _ _ _ (by rw [turn_length]; exact hk) hk]
      by_cases h3 : k < j
      · rw [if_pos (by omega), if_pos h3]
      · rw [if_neg (by omega), if_neg h3]
theorem turn_at {l : List Tk} {j : Nat} (h : j < l.length) : (turn 0 j l)[j]? = some l[j] := by
  rw [List.getElem?_eq_getElem (by rw [turn_length]; exact h), turn_get _ _ _ _ _ h, if_neg (by omega)]
theorem flat_set_a : ∀ (l : List Tk) (j : Nat) (t : Tk) (a : Int), l[j]? = some t → flat (l.set j ⟨t.k, t.t, t.n, a, t.f⟩) = (flat l).set (j * 5 + 3) (.int .i64 a)
  | [], j, t, a, h => by simp at h
  | p :: r, 0, t, a, h => by
    injection h with h
    subst h
    rfl
  | p :: r, j + 1, t, a, h => by
    have := flat_set_a r j t a (by simpa using h)
    rw [List.set_cons_succ, show (j + 1) * 5 + 3 = j * 5 + 3 + 5 by omega]
    simp only [flat, this, List.set_cons_succ]
theorem flat_set_f : ∀ (l : List Tk) (j : Nat) (t : Tk) (f : Bool), l[j]? = some t → flat (l.set j ⟨t.k, t.t, t.n, t.a, f⟩) = (flat l).set (j * 5 + 4) (.bool f)
  | [], j, t, f, h => by simp at h
  | p :: r, 0, t, f, h => by
    injection h with h
    subst h
    rfl
  | p :: r, j + 1, t, f, h => by
    have := flat_set_f r j t f (by simpa using h)
    rw [List.set_cons_succ, show (j + 1) * 5 + 4 = j * 5 + 4 + 5 by omega]
    simp only [flat, this, List.set_cons_succ]
/-- block g begins with these tokens, and may be written -/
def Blk (w : World) (g : Nat) (ts : List Tk) : Prop := ∃ cur, w.heap[g]? = some (.cells cur 30 (0, 0)) ∧ ts.length * 5 ≤ cur.size ∧ cur.toList.take (ts.length * 5) = flat ts
theorem Blk.of_own {w : World} {B : Nat} {A : Option Addr} {c : Nat} {ts : List Tk} (h : OwnT w B (.slice A ts.length c) ts) (h0 : 0 < ts.length) : ∃ g, A = some ⟨g, 0, none⟩ ∧ B ≤ g ∧ Blk w g ts := by
  rcases h.2 with ⟨h1, h2⟩ | ⟨g, cap, cur, h1, hb, hg, hc, _, hs, ht⟩
  · omega
  · injection h1 with h1 _ _
    exact ⟨g, h1, hb, cur, hg, by rw [hs]; exact Nat.mul_le_mul_right _ hc, ht⟩
theorem Blk.lt {w : World} {g : Nat} {ts : List Tk} (h : Blk w g ts) : g < w.heap.size := by
  obtain ⟨cur, hg, _⟩ := h
  exact (Array.getElem?_eq_some_iff.1 hg).1
theorem Blk.below {w w' : World} {g B : Nat} {ts : List Tk} (h : Blk w g ts) (hg : g < B) (hb : Below B w w') : Blk w' g ts := by
  obtain ⟨cur, h1, h2⟩ := h
  exact ⟨cur, (hb.block g hg).trans h1, h2⟩
theorem Blk.cell {w : World} {g : Nat} {ts : List Tk} (h : Blk w g ts) {i : Nat} {u : Value} (hu : (flat ts)[i]? = some u) : w.cell? ⟨g, i, none⟩ = some u := by
  obtain ⟨cur, h1, h2, h3⟩ := h
  rw [cell_of_row _ _ _ _ _ _ h1]
  have hi : i < ts.length * 5 := by
    have := (List.getElem?_eq_some_iff.1 hu).1
    rw [flat_length] at this
    exact this
  rw [← h3, List.getElem?_take, if_pos hi] at hu
  simpa using hu
theorem Blk.frozen {w : World} {g : Nat} {ts : List Tk} (h : Blk w g ts) (o : Nat) : w.frozen? ⟨g, o, none⟩ = false := by
  obtain ⟨cur, h1, _⟩ := h
  simp [World.frozen?, h1]
theorem Blk.set {w : World} {g : Nat} {ts ts' : List Tk} (h : Blk w g ts) {i : Nat} {u : Value} (hl : ts'.length = ts.length) (hf : flat ts' = (flat ts).set i u) : Blk (w.setCell ⟨g, i, none⟩ u) g ts' := by
  obtain ⟨cur, h1, h2, h3⟩ := h
  refine ⟨cur.setIfInBounds i u, hp_row_set h1 u, by rw [hl]; simpa using h2, ?_⟩
  rw [hl, hf, ← h3, ← List.take_set]
  simp
theorem Blk.row {w : World} {g : Nat} {ts : List Tk} (h : Blk w g ts) : Row w (some ⟨g, 0, none⟩) ts := by
  refine .inr ⟨g, 0, rfl, h.lt, fun j hj => ?_⟩
  obtain ⟨h0, h1, h2, h3, h4⟩ := flat_at ts j hj
  rw [Nat.zero_add]
  exact ⟨h.cell h0, h.cell h1, h.cell h2, h.cell h3, h.cell h4⟩
theorem nl_list (s : ByteArray) : ((⟨#[10]⟩ : ByteArray) ++ s).data.toList = 10 :: s.data.toList := by
  rw [ByteArray.data_append]
  simp
theorem Rise.bounds : ∀ {ts : List Tk} {z lo : Nat}, Rise z lo ts → ∀ t ∈ ts, 0 ≤ t.a ∧ t.a ≤ z
  | [], _, _, h, t, ht => by cases ht
  | x :: r, z, lo, h, t, ht => by
    obtain ⟨h1, h2, h3⟩ := h
    rcases List.mem_cons.1 ht with rfl | ht
    · exact ⟨by omega, h2⟩
    · rcases h3 with ⟨rfl, _⟩ | ⟨_, _, p, _, h6⟩
      · cases ht
      · exact Rise.bounds h6 t ht
theorem blk_step {w : World} {g : Nat} {ts : List Tk} {j : Nat} (h : Blk w g (turn 0 j ts)) (hj : j < ts.length) (a : Int) (f : Bool) (ha : a = ts[j].a + 1) (hf : f = (ts[j].f || decide (j = 0))) :
    Blk ((w.setCell ⟨g, j * 5 + 3, none⟩ (.int .i64 a)).setCell ⟨g, j * 5 + 4, none⟩ (.bool f)) g (turn 0 (j + 1) ts) := by
  have h1 := h.set (ts' := (turn 0 j ts).set j ⟨ts[j].k, ts[j].t, ts[j].n, a, ts[j].f⟩) (by simp) (flat_set_a _ _ _ a (turn_at hj))
  have hj2 : j < (turn 0 j ts).length := by rw [turn_length]; exact hj
  have h2 := h1.set (ts' := ((turn 0 j ts).set j ⟨ts[j].k, ts[j].t, ts[j].n, a, ts[j].f⟩).set j ⟨ts[j].k, ts[j].t, ts[j].n, a, f⟩) (by simp) (flat_set_f _ _ ⟨ts[j].k, ts[j].t, ts[j].n, a, ts[j].f⟩ f (by rw [List.getElem?_set_self hj2]))
  rw [List.set_set] at h2
  have e : turn 0 (j + 1) ts = (turn 0 j ts).set j ⟨ts[j].k, ts[j].t, ts[j].n, a, f⟩ := by
    rw [turn_step hj, ha, hf]
    rfl
  rw [e]
  exact h2
set_option maxRecDepth 8000 in
set_option maxHeartbeats 2000000 in
theorem fresh_law (s : ByteArray) (w : World) (hV : Vars w) :
    Calls Tryd.prog 6 #[.string s] w (Yes w) := by
  have HL := Lib.hid (live_any w hV)
  have HVw := Lib.hid fun w' (hb : Below w.heap.size w w') => hV.below hb
  clear hV
  by_cases hs : s.size ≤ 4095
  · have hsi : (s.size : Int) ≤ 4095 := by omega
    have hn := nl_list s
    have hnz : ((⟨#[10]⟩ : ByteArray) ++ s).size ≤ 4096 := by rw [← size_list, hn, List.length_cons, size_list]; omega
    have hf := cutl_fresh s.data.toList
    rw [← hn] at hf
    cases hc : cutl s.data.toList 0 with
    | inl p =>
      rw [hc] at hf
      have hp := ((cutl_rise s.data.toList.length s.data.toList 0 (Nat.le_refl _)).1 p hc).2
      rw [size_list] at hp
      have HC := cut_inl s (by omega) hc
      have HD := cut_inl _ hnz (p := p + 1) hf
      have HS := Lib.hid fun w => same_any none none [] [] 0 0 w (.inl rfl) (.inl rfl) (by decide)
      rw [same_yes rfl] at HS
      clear hc hf hn hnz
      go_enter Tryd.func6, Tryd.ntmps6
      go_wp2_with fail
      refine HL.out.mono ?_
      rintro e w1 ⟨rfl, hb1⟩
      have HB1 := Lib.hid hb1
      clear hb1
      go_wp2_with fail
      refine (HC.out _ (HVw.out _ HB1.out)).mono ?_
      rintro e w2 ⟨rfl, hb2⟩
      have HB2 := Lib.hid (HB1.out.trans (hb2.mono HB1.out.size))
      clear hb2
      go_wp2_with fail
      refine (HD.out _ (HVw.out _ HB2.out)).mono ?_
      rintro e w3 ⟨rfl, hb3⟩
      have HB3 := Lib.hid (HB2.out.trans (hb3.mono HB2.out.size))
      clear hb3
      go_wp2_with fail
      go_loopw [51] (fun vi wr => vi = .int .i64 0 ∧ w3 = wr) (fun _ _ => 0)
      case atStart => exact ⟨rfl, rfl⟩
      case round =>
        obtain ⟨rfl, rfl⟩ := hrel
        go_wp2_with fail
        refine (HS.out _).mono ?_
        rintro e w4 ⟨rfl, hb4⟩
        have HB4 := Lib.hid (HB3.out.trans (hb4.mono HB3.out.size))
        clear hb4
        go_wp2_with fail
        go_ret
        exact ⟨rfl, HB4.out⟩
    | inr ts =>
      rw [hc, ← turn_done] at hf
      have hl := cutl_len s.data.toList.length s.data.toList 0 ts (Nat.le_refl _) hc
      rw [size_list] at hl
      have hpos := List.length_pos_iff.2 ((cutl_rise s.data.toList.length s.data.toList 0 (Nat.le_refl _)).2 ts hc).ne
      have HC := cut_inr s (by omega) hc
      have HD := cut_inr _ hnz hf
      have HBd := Lib.hid (((cutl_rise s.data.toList.length s.data.toList 0 (Nat.le_refl _)).2 ts hc).bounds)
      rw [size_list] at HBd
      have hlen := turn_length ts.length 0 ts
      rw [hlen] at HD
      clear hc hf hn hnz
      go_enter Tryd.func6, Tryd.ntmps6
      go_wp2_with fail
      refine HL.out.mono ?_
      rintro e w1 ⟨rfl, hb1⟩
      have HB1 := Lib.hid hb1
      clear hb1
      go_wp2_with fail
      refine (HC.out _ (HVw.out _ HB1.out)).mono ?_
      rintro e w2 ⟨hb2, A, c, rfl, hlc, hR, hO⟩
      obtain ⟨g, rfl, hg1, hB⟩ := Blk.of_own hO hpos
      have HB2 := Lib.hid (HB1.out.trans (hb2.mono HB1.out.size))
      have HBk := Lib.hid hB
      have hgl := hB.lt
      have HG : Hid (w.heap.size ≤ g) := Lib.hid (Nat.le_trans HB1.out.size hg1)
      clear hb2 hR hO hB hg1
      go_wp2_with fail
      refine (HD.out _ (HVw.out _ HB2.out)).mono ?_
      rintro e w3 ⟨hb3, A2, c2, rfl, hlc2, hR2, hO2⟩
      have HB3 := Lib.hid (HB2.out.trans (hb3.mono HB2.out.size))
      have HBk3 := Lib.hid (HBk.out.below hgl hb3)
      have HO2 : Hid (OwnT w3 w2.heap.size (.slice A2 (turn 0 ts.length ts).length c2) (turn 0 ts.length ts)) := Lib.hid (by rw [hlen]; exact hO2)
      clear hb3 hR2 hO2 HBk
      go_wp2_with fail
      go_loopw [51] (fun vi wr => ∃ j : Nat, j ≤ ts.length ∧ vi = .int .i64 j ∧ Hid (Blk wr g (turn 0 j ts)) ∧ Hid (OwnT wr w2.heap.size (.slice A2 (turn 0 ts.length ts).length c2) (turn 0 ts.length ts)) ∧ Below w.heap.size w wr)
        (fun vi _ => ts.length - (intOf vi).toNat)
      case atStart => exact ⟨0, Nat.zero_le _, rfl, Lib.hid (by rw [turn_zero]; exact HBk3.out), HO2, HB3.out⟩
      case round =>
        obtain ⟨j, hj, rfl, hK, hO2, hbw⟩ := hrel
        by_cases hlt : j < ts.length
        · have hf5 := flat_at (turn 0 j ts) j (by rw [turn_length]; exact hlt)
          have het : (turn 0 j ts)[j]'(by rw [turn_length]; exact hlt) = ts[j] := by
            have := turn_at hlt
            rw [List.getElem?_eq_getElem (by rw [turn_length]; exact hlt)] at this
            exact Option.some.inj this
          rw [het] at hf5
          have hc3 := hK.out.cell hf5.2.2.2.1
          have hc4 := hK.out.cell hf5.2.2.2.2
          have hfz := hK.out.frozen
          have ff3 := hfz (j * 5 + 3)
          have ff4 := hfz (j * 5 + 4)
          have hbd := HBd.out ts[j] (List.getElem_mem hlt)
          have HNx := Lib.hid (blk_step hK.out hlt)
          have hOs : ∀ a f, OwnT ((wr.setCell ⟨g, j * 5 + 3, none⟩ (.int .i64 a)).setCell ⟨g, j * 5 + 4, none⟩ (.bool f)) w2.heap.size (.slice A2 (turn 0 ts.length ts).length c2) (turn 0 ts.length ts) := fun a f => ownsRow_setCell_below (ownsRow_setCell_below hO2.out hgl _) hgl _
          have HOs := Lib.hid hOs
          have hBs : ∀ a f, Below w.heap.size w ((wr.setCell ⟨g, j * 5 + 3, none⟩ (.int .i64 a)).setCell ⟨g, j * 5 + 4, none⟩ (.bool f)) := fun a f => (hbw.setCell (p := ⟨g, j * 5 + 3, none⟩) HG.out _).setCell (p := ⟨g, j * 5 + 4, none⟩) HG.out _
          have HBs := Lib.hid hBs
          generalize ts[j] = t at *
          obtain ⟨tk, tt, tn, ta, tf⟩ := t
          simp only at *
          obtain ⟨hb0, hbz⟩ := hbd
          have hc4' : (wr.setCell ⟨g, j * 5 + 3, none⟩ (.int .i64 (ta + 1))).cell? ⟨g, j * 5 + 4, none⟩ = some (.bool tf) := by
            rw [World.cell?_setCell_other _ _ _ _ (by simp)]
            exact hc4
          clear hf5 het hfz hOs hBs hK hO2
          cases tf with
          | true =>
            have HN2 := Lib.hid (HNx.out (ta + 1) true rfl rfl)
            go_wp2_with fail
            exact ⟨⟨j + 1, hlt, by go_num, HN2, Lib.hid (HOs.out _ _), HBs.out _ _⟩, by simp [intOf]; omega⟩
          | false =>
            cases hj0 : ((j : Int) == 0) with
            | true =>
              have HN2 := Lib.hid (HNx.out (ta + 1) true rfl (by rw [Bool.false_or, eq_comm, decide_eq_true_iff]; rw [beq_iff_eq] at hj0; omega))
              clear HNx
              go_wp2_with fail
              exact ⟨⟨j + 1, hlt, by go_num, HN2, Lib.hid (HOs.out _ _), HBs.out _ _⟩, by simp [intOf]; omega⟩
            | false =>
              have HN2 := Lib.hid (HNx.out (ta + 1) false rfl (by rw [Bool.false_or, eq_comm, decide_eq_false_iff_not]; rw [beq_eq_false_iff_ne] at hj0; omega))
              clear HNx
              go_wp2_with fail
              exact ⟨⟨j + 1, hlt, by go_num, HN2, Lib.hid (HOs.out _ _), HBs.out _ _⟩, by simp [intOf]; omega⟩
        · obtain rfl : j = ts.length := by omega
          have hRA := hK.out.row
          obtain ⟨A', c', hA', _, hRB⟩ := hO2.out.open
          injection hA' with e1 e2 e3
          subst e1 e3
          have hS := same_any _ _ _ _ c c2 wr hRA hRB (by rw [hlen]; omega)
          rw [same_yes rfl, hlen] at hS
          have HS := Lib.hid hS
          clear hRA hRB hS hK hO2 e2
          go_wp2_with fail
          refine HS.out.mono ?_
          rintro e w4 ⟨rfl, hb4⟩
          have HB4 := Lib.hid (hbw.trans (hb4.mono hbw.size))
          clear hb4
          go_wp2_with fail
          go_ret
          exact ⟨rfl, HB4.out⟩
  · have hsi : 4095 < (s.size : Int) := by omega
    clear hs
    go_enter Tryd.func6, Tryd.ntmps6
    go_wp2_with fail
    refine HL.out.mono ?_
    rintro e w1 ⟨rfl, hb1⟩
    go_wp2_with fail
    go_ret
    exact ⟨rfl, hb1⟩
end Go.Proofs.YtkaamaopjcaalaaDoor.T
