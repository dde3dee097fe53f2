/-
  The reference's number, text, by contract.
-/
import Derived.Test.YtkanpdhlpobfoaaDoorI
namespace Go.Proofs.YtkanpdhlpobfoaaDoor
open Go.RowKit
open K (Pt)

theorem hp_new {w : World} {o : Obj} {n : Nat} (h : n = w.heap.size) : (w.alloc o).heap[n]? = some o := by
  subst h
  show (w.heap.push o)[w.heap.size]? = some o
  simp
theorem hp_row_set {w : World} {b i : Nat} {cs : Array Value} {t : TypeId} {fr : Nat × Nat} (h : w.heap[b]? = some (.cells cs t fr)) (u : Value) : (w.setCell ⟨b, i, none⟩ u).heap[b]? = some (.cells (cs.setIfInBounds i u) t fr) := by
  simp only [World.setCell, Array.getElem?_modify, if_true, h, Option.map_some]
  rfl
/-- a result that lies in memory, and a number -/
theorem res_ct {P : Program} {fn : Func} {p u : Tmp} {ty : TypeId} (h : fn.results = #[.cell p ty, .tmp u]) (tmps : Array Value) (w : World) (g : Nat) (t : TypeId) (cs : Array Value) (fr : Nat × Nat) (d : TypeDesc)
    (hp : tmps.getD p undef = .pointer (some ⟨g, 0, none⟩)) (hg : w.heap[g]? = some (.cells cs t fr))
    (hu : P.underlying ty = some d) (hd : (match d with | .struct _ | .array _ _ => true | _ => false) = true) (hi : (P.info? ty).map (·.size) = some cs.size) :
    (results fn tmps).run P w = .ok (.tuple #[.agg cs, tmps.getD u undef]) w := by
  have hp' : tmps[p]?.getD undef = .pointer (some ⟨g, 0, none⟩) := by simpa using hp
  simp [results, h, hp', asAddr, run_loadVar_row w g t ty cs fr d hg hu hd hi]
def zrow : Obj := .cells #[.bool false, .int .i64 0, .string ⟨#[]⟩] 39 (0, 0)
theorem zrow_cells {w : World} {g : Nat} (h : w.heap[g]? = some zrow) : w.cell? ⟨g, 0, none⟩ = some (.bool false) ∧ w.cell? ⟨g, 1, none⟩ = some (.int .i64 0) ∧ w.cell? ⟨g, 2, none⟩ = some (.string ⟨#[]⟩) ∧ ∀ o, w.frozen? ⟨g, o, none⟩ = false := by
  unfold zrow at h
  refine ⟨?_, ?_, ?_, fun o => by simp [World.frozen?, h]⟩
  · rw [cell_of_row w g 0 _ _ _ h]; rfl
  · rw [cell_of_row w g 1 _ _ _ h]; rfl
  · rw [cell_of_row w g 2 _ _ _ h]; rfl
/-- a part is stored -/
def put3 (w : World) (n : Nat) (p : Pt) : World := ((w.setCell ⟨n, 0, none⟩ (.bool p.t)).setCell ⟨n, 1, none⟩ (.int .i64 p.n)).setCell ⟨n, 2, none⟩ (.string p.s)
theorem put3_fr (w : World) (n : Nat) (p : Pt) : Fr (fun k => k ≠ n) w (put3 w n p) :=
  (((Fr.refl (fun k => k ≠ n) w).setCell (p := ⟨n, 0, none⟩) (by simp) _).setCell (p := ⟨n, 1, none⟩) (by simp) _).setCell (p := ⟨n, 2, none⟩) (by simp) _
theorem put3_lit (w : World) (g : Nat) (t : Bool) (n : Int) (s : ByteArray) : put3 w g ⟨t, n, s⟩ = ((w.setCell ⟨g, 0, none⟩ (.bool t)).setCell ⟨g, 1, none⟩ (.int .i64 n)).setCell ⟨g, 2, none⟩ (.string s) := rfl
theorem put3_row {w : World} {n : Nat} {e : TypeId} {a b c : Value} (h : w.heap[n]? = some (.cells #[a, b, c] e (0, 0))) (p : Pt) : (put3 w n p).heap[n]? = some (.cells #[.bool p.t, .int .i64 p.n, .string p.s] e (0, 0)) :=
  hp_row_set (hp_row_set (hp_row_set h _) _) _
/-- what number answers -/
def numR (l : Bs) : Pt × Nat := if l.length < 9 then (⟨false, 0, ⟨#[]⟩⟩, 0) else (⟨false, (K.pv ((l.drop 1).take 8) : Int) - 9223372036854775808, ⟨#[]⟩⟩, 9)
theorem pv_step {l : Bs} {i : Nat} (h : i < l.length) (h1 : 1 ≤ i) (h9 : i < 9) : K.pv (l.take i).tail < 72057594037927936 ∧ K.pv (l.take (i + 1)).tail = K.pv (l.take i).tail * 256 + l[i].toNat := by
  rw [← List.drop_one, ← List.drop_one]
  refine ⟨Nat.lt_of_lt_of_le (K.pv_lt _) ?_, ?_⟩
  · have e : (72057594037927936 : Nat) = 256 ^ 7 := by decide
    rw [e]
    exact Nat.pow_le_pow_right (by decide) (by rw [List.length_drop, List.length_take]; omega)
  · rw [snoc_get l i h, List.drop_append_of_le_length (by rw [List.length_take]; omega), K.pv_snoc]
set_option maxRecDepth 4000 in
set_option maxHeartbeats 1000000 in
theorem refNumber_any (s : ByteArray) (w : World) (hs : s.size ≤ 1048576) :
    Calls Tryd.prog 31 #[.string s] w fun e w' => e = .returned (.tuple #[pV (numR s.data.toList).1, .int .i64 (numR s.data.toList).2]) ∧ Below w.heap.size w w' := by
  obtain ⟨i5, hi5, hz5, hs5, hb5⟩ := info_parts infoP
  by_cases h9 : s.size < 9
  · have HO : Hid (numR s.data.toList = (⟨false, 0, ⟨#[]⟩⟩, 0)) := by unfold numR; rw [if_pos (by rw [size_list]; exact h9)]; exact Lib.hid rfl
    have h9' : (s.size : Int) < 9 := by omega
    clear h9
    have HZ := Lib.hid (hp_new (w := w) (o := zrow) rfl)
    unfold zrow at HZ
    go_enter Tryd.func31, Tryd.ntmps31
    go_wp2_with fail
    refine bodyPost_ret (res_ct rfl _ _ w.heap.size 39 _ (0, 0) _ rfl HZ.out Tryd.underlying39 rfl (by rw [hi5]; simp [hs5])) rfl ?_
    exact ⟨by rw [HO.out]; rfl, below_alloc _ _⟩
  · obtain ⟨m, hm⟩ : ∃ m, m = K.pv ((s.data.toList.drop 1).take 8) := ⟨_, rfl⟩
    have hl8 : ((s.data.toList.drop 1).take 8).length = 8 := by rw [List.length_take, List.length_drop, size_list]; omega
    have HO : Hid (numR s.data.toList = (⟨false, (m : Int) - 9223372036854775808, ⟨#[]⟩⟩, 9)) := by unfold numR; rw [if_neg (by rw [size_list]; exact h9), hm]; exact Lib.hid rfl
    have HL := Lib.hid (lowered (pv_eight hl8))
    rw [← hm] at HL
    have HM := Lib.hid hm
    have h9' : 9 ≤ (s.size : Int) := by omega
    clear h9 hm hl8
    have HZ := Lib.hid fun n => hp_new (w := w) (o := .cells #[.bool false, .int .i64 n, .string ⟨#[]⟩] 39 (0, 0)) rfl
    go_enter Tryd.func31, Tryd.ntmps31
    go_wp2_with fail
    go_loop [4, 5] (fun v i => ∃ j : Nat, 1 ≤ j ∧ j ≤ 9 ∧ i = .int .i64 j ∧ v = .int .u64 (K.pv (s.data.toList.take j).tail))
      (fun _ i => 9 - (intOf i).toNat)
    case atStart => exact ⟨1, by omega, by omega, rfl, by rw [← List.drop_one, List.drop_eq_nil_of_le (by rw [List.length_take]; omega)]; rfl⟩
    case round =>
      obtain ⟨j, hj1, hj, rfl, rfl⟩ := hrel
      by_cases hlt : j < 9
      · have hlt2 : j < s.size := by omega
        have hp := pv_step (l := s.data.toList) (i := j) (by rw [size_list]; exact hlt2) hj1 hlt
        have HB := Lib.hid (or_byte hp.1 (UInt8.toNat_lt (s.data.toList[j]'(by rw [size_list]; exact hlt2))))
        have HP := Lib.hid hp.2
        clear hp
        go_wp2_with fail
        go_round
        case rel => exact ⟨j + 1, by omega, by omega, by go_num, by rw [HP.out]; exact congrArg _ HB.out⟩
        case measure => simp [intOf]; omega
      · obtain rfl : j = 9 := by omega
        have hT : (s.data.toList.take 9).tail = (s.data.toList.drop 1).take 8 := by rw [← List.drop_one, List.drop_take]
        rw [hT, ← HM.out]
        clear hT
        go_wp2_with fail
        refine bodyPost_ret (res_ct rfl _ _ w.heap.size 39 _ (0, 0) _ rfl (HZ.out _) Tryd.underlying39 rfl (by rw [hi5]; simp [hs5])) rfl ?_
        exact ⟨by rw [HO.out, HL.out]; rfl, below_alloc _ _⟩

/-- what text answers -/
def txtR (l : Bs) : Pt × Nat :=
  match K.unesc l.tail with
  | some (t, z) => (⟨true, 0, ⟨t.toArray⟩⟩, l.length - z.length)
  | none => (⟨false, 0, ⟨#[]⟩⟩, 0)
theorem txtR_none {l : Bs} (h : K.unesc l.tail = none) : txtR l = (⟨false, 0, ⟨#[]⟩⟩, 0) := by unfold txtR; rw [h]
theorem txtR_some {l t z : Bs} (h : K.unesc l.tail = some (t, z)) : txtR l = (⟨true, 0, ⟨t.toArray⟩⟩, l.length - z.length) := by unfold txtR; rw [h]
theorem un_skip {c : UInt8} {r : Bs} (h : c ≠ 0) : K.unesc (c :: r) = (K.unesc r).map fun p => (c :: p.1, p.2) := by
  cases r with
  | nil => rfl
  | cons d t => rw [K.unesc, if_neg h]
/-- b has been read, what follows is read behind it -/
def Unr (u : Option (Bs × Bs)) (b t : Bs) : Prop := u = (K.unesc t).map fun p => (b ++ p.1, p.2)
theorem Unr.start (l : Bs) : Unr (K.unesc l) [] l := by
  unfold Unr
  cases K.unesc l <;> simp
theorem Unr.skip {u : Option (Bs × Bs)} {b r : Bs} {c : UInt8} (h : Unr u b (c :: r)) (hc : c ≠ 0) : Unr u (b ++ [c]) r := by
  unfold Unr at *
  rw [h, un_skip hc]
  cases K.unesc r <;> simp
theorem Unr.zero {u : Option (Bs × Bs)} {b r : Bs} (h : Unr u b (0 :: 255 :: r)) : Unr u (b ++ [0]) r := by
  unfold Unr at *
  rw [h, K.unesc, if_pos rfl, if_neg (by decide), if_pos rfl]
  cases K.unesc r <;> simp
theorem Unr.stop {u : Option (Bs × Bs)} {b r : Bs} (h : Unr u b (0 :: 1 :: r)) : u = some (b, r) := by
  unfold Unr at h
  rw [h, K.unesc, if_pos rfl, if_pos rfl]
  simp
theorem Unr.bad {u : Option (Bs × Bs)} {b r : Bs} {c : UInt8} (h : Unr u b (0 :: c :: r)) (h1 : c ≠ 1) (h2 : c ≠ 255) : u = none := by
  unfold Unr at h
  rw [h, K.unesc, if_pos rfl, if_neg h1, if_neg h2]
  rfl
theorem Unr.one {u : Option (Bs × Bs)} {b : Bs} {c : UInt8} (h : Unr u b [c]) : u = none := by
  unfold Unr at h
  rw [h]
  rfl
theorem Unr.nil {u : Option (Bs × Bs)} {b : Bs} (h : Unr u b []) : u = none := by
  unfold Unr at h
  rw [h]
  rfl
theorem idx_any (s : ByteArray) (i : Nat) (h : i < s.data.toList.length) (w : World) : (Instr.index 9 (.string s) (.int .i64 i)).run Tryd.prog w = .ok (.int .u8 (s.data.toList[i].toNat : Nat)) w := by
  have h' : i < s.size := by rw [← size_list]; exact h
  rw [run_index_string w 9 s .i64 i Tryd.underlying9, dif_pos ⟨by omega, by omega⟩]
  rfl
theorem idx_any' (s : ByteArray) (i : Nat) (h : i + 1 < s.data.toList.length) (w : World) : (Instr.index 9 (.string s) (.int .i64 ((i : Int) + 1))).run Tryd.prog w = .ok (.int .u8 (s.data.toList[i + 1].toNat : Nat)) w := by
  have := idx_any s (i + 1) h w
  simpa using this
set_option maxRecDepth 8000 in
set_option maxHeartbeats 2000000 in
theorem refText_any (s : ByteArray) (w : World) (hs : s.size ≤ 1048576) :
    Calls Tryd.prog 32 #[.string s] w fun e w' => e = .returned (.tuple #[pV (txtR s.data.toList).1, .int .i64 (txtR s.data.toList).2]) ∧ Below w.heap.size w w' := by
  obtain ⟨i5, hi5, hz5, hs5, hb5⟩ := info_parts infoP
  have HU := Lib.hid (Unr.start s.data.toList.tail)
  have HN := Lib.hid fun h => txtR_none (l := s.data.toList) h
  have HY := Lib.hid fun t z h => txtR_some (l := s.data.toList) (t := t) (z := z) h
  have hsl := size_list s
  have HSL := Lib.hid hsl
  generalize K.unesc s.data.toList.tail = un at *
  have HZ := Lib.hid (hp_new (w := w) (o := zrow) rfl)
  have HF0 : Hid (Fr (· < w.heap.size + 1) (w.alloc zrow) (w.alloc zrow)) := Fr.refl _ _
  have HZF : Hid (∀ wr, Fr (· < w.heap.size + 1) (w.alloc zrow) wr → wr.heap[w.heap.size]? = some zrow ∧ Below w.heap.size w wr ∧ w.heap.size + 1 ≤ wr.heap.size) := Lib.hid fun wr h =>
    ⟨(h.block _ (Nat.lt_succ_self _)).trans HZ.out, (below_alloc w zrow).trans ((h.mono fun k hk => Nat.lt_succ_of_lt hk).below), by have := h.size; simpa using this⟩
  have HPut : Hid (∀ wr p, Below w.heap.size w wr → Below w.heap.size w (put3 wr w.heap.size p)) := Lib.hid fun wr p h => h.trans ((put3_fr wr w.heap.size p).mono fun q (hq : q < w.heap.size) => by show q ≠ w.heap.size; omega).below
  unfold zrow at HF0
  clear HZ hsl
  go_enter Tryd.func32, Tryd.ntmps32
  go_wp2_with fail
  go_loopw [4, 5] (fun v i wr => ∃ (j : Nat) (b : Bs), 1 ≤ j ∧ j ≤ s.size + 1 ∧ i = .int .i64 j ∧ Own wr (· < w.heap.size + 1) v b ∧ b.length ≤ 1048576 ∧ b.length ≤ j ∧ Hid (Unr un b (s.data.toList.drop j)) ∧ Fr (· < w.heap.size + 1) (w.alloc (.cells #[.bool false, .int .i64 0, .string ⟨#[]⟩] 39)) wr)
    (fun _ i _ => s.size + 2 - (intOf i).toNat)
  case atStart => exact ⟨1, [], by omega, by omega, rfl, Own.nil _ _, by simp, by simp, by rw [List.drop_one]; exact HU, HF0.out⟩
  case round =>
    obtain ⟨j, b, hj1, hjs, rfl, hO, hbl, hbj, hU, hf⟩ := hrel
    by_cases hlt : j < s.size
    · have hjl : j < s.data.toList.length := by rw [HSL.out]; exact hlt
      have hF2 : ∀ k, k < w.heap.size + 1 → k < wr.heap.size := fun k hk => by have := (HZF.out _ hf).2.2; omega
      have hx := idx_any s j hjl
      have hdr : s.data.toList.drop j = s.data.toList[j] :: s.data.toList.drop (j + 1) := List.drop_eq_getElem_cons hjl
      have hU1 := hU.out
      rw [hdr] at hU1
      by_cases h0 : s.data.toList[j] = 0
      · rw [h0] at hx hU1
        have hx' : ∀ w, (Instr.index 9 (.string s) (.int .i64 j)).run Tryd.prog w = .ok (.int .u8 0) w := hx
        clear hx hdr h0 hU
        by_cases hlt2 : j + 1 < s.size
        · have hjl2 : j + 1 < s.data.toList.length := by rw [HSL.out]; exact hlt2
          have hy := idx_any' s j hjl2
          rw [List.drop_eq_getElem_cons hjl2] at hU1
          have hlt3 : (j : Int) + 1 < s.size := by omega
          by_cases h255 : s.data.toList[j + 1] = 255
          · rw [h255] at hy hU1
            have hy' : ∀ w, (Instr.index 9 (.string s) (.int .i64 ((j : Int) + 1))).run Tryd.prog w = .ok (.int .u8 255) w := hy
            have HU2 := Lib.hid hU1.zero
            clear hy hU1 h255
            go_wp2_with (at_builtin; refine app_lit_own rfl (.tmp 12) (.tmp 16) (by rfl) (· < w.heap.size + 1) hF2 _ _ (by rfl) hO _ 1 [0] _ (by rfl) ?g1 rfl ?a1 ?c1 ?_)
            case g1 => rfl
            case c1 => first | omega | (simp only [List.length_cons, List.length_nil]; omega)
            case a1 => rfl
            intro v2 w2 hO2 hf2
            have HO2 := Lib.hid hO2
            have hf3 := hf.trans hf2
            clear hO hf hf2 hF2 hO2
            go_wp2_with fail
            go_roundw
            case rel => exact ⟨j + 2, b ++ [0], by omega, by omega, by go_num, HO2.out, by simp; omega, by simp; omega, HU2, hf3⟩
            case measure => simp [intOf]; omega
          · by_cases hone : s.data.toList[j + 1] = 1
            · rw [hone] at hy hU1
              have hy' : ∀ w, (Instr.index 9 (.string s) (.int .i64 ((j : Int) + 1))).run Tryd.prog w = .ok (.int .u8 1) w := hy
              have HR := Lib.hid (HY.out _ _ hU1.stop)
              have hlen : s.data.toList.length - (s.data.toList.drop (j + 1 + 1)).length = j + 2 := by rw [List.length_drop, HSL.out]; omega
              rw [hlen] at HR
              clear hy hU1 h255 hone hlen
              go_wp2_with (at_builtin; refine app_lit_own rfl (.tmp 12) (.tmp 16) (by rfl) (· < w.heap.size + 1) hF2 _ _ (by rfl) hO _ 1 [0] _ (by rfl) ?g1 rfl ?a1 ?c1 ?_)
              case g1 => rfl
              case c1 => first | omega | (simp only [List.length_cons, List.length_nil]; omega)
              case a1 => rfl
              intro v2 w2 hO2 hf2
              have hf3 := hf.trans hf2
              obtain ⟨hz, hbw, hsz⟩ := HZF.out _ hf3
              obtain ⟨A', c', rfl, hlc, hYt⟩ := hO2.open
              have hcv := string_of (P := Tryd.prog) (c := c') w2 37 9 5 Tryd.underlying37 Tryd.underlying5 Tryd.underlying9 (hYt.take b.length)
              have hbt : (b ++ [(0 : UInt8)]).take b.length = b := List.take_left' rfl
              rw [hbt] at hcv
              have hbl2 : (b ++ [(0 : UInt8)]).length = b.length + 1 := by simp
              rw [hbl2] at hlc ⊢
              obtain ⟨t0, t1, t2, t3⟩ := zrow_cells hz
              have f0 := t3 0
              have f1 := t3 1
              have f2 := t3 2
              have HZ2 := Lib.hid hz
              have HB2 := Lib.hid hbw
              clear hO hf hf2 hF2 hO2 hYt hbt hbl2 hz hbw hsz t3 hf3
              go_wp2_with fail
              rw [← put3_lit]
              refine bodyPost_ret (res_ct rfl _ _ w.heap.size 39 _ (0, 0) _ rfl (put3_row HZ2.out _) Tryd.underlying39 rfl (by rw [hi5]; simp [hs5])) rfl ?_
              exact ⟨by rw [HR.out]; rfl, HPut.out _ _ HB2.out⟩
            · have hU2 := hU1.bad hone h255
              have HR := Lib.hid (HN.out hU2)
              have b1 : ((s.data.toList[j + 1].toNat : Int) == 1) = false := by
                rw [beq_eq_false_iff_ne]
                intro h
                exact hone (UInt8.toNat_inj.1 (by have : (1 : UInt8).toNat = 1 := rfl; omega))
              have b255 : ((s.data.toList[j + 1].toNat : Int) == 255) = false := by
                rw [beq_eq_false_iff_ne]
                intro h
                exact h255 (UInt8.toNat_inj.1 (by have : (255 : UInt8).toNat = 255 := rfl; omega))
              have e1 : ((s.data.toList[j + 1].toNat : Int) != 1) = true := by rw [bne, b1]; rfl
              have e255 : ((s.data.toList[j + 1].toNat : Int) != 255) = true := by rw [bne, b255]; rfl
              generalize s.data.toList[j + 1] = d at *
              clear hU1 h255 hone hU2
              go_wp2_with (at_builtin; refine app_lit_own rfl (.tmp 12) (.tmp 16) (by rfl) (· < w.heap.size + 1) hF2 _ _ (by rfl) hO _ 1 [0] _ (by rfl) ?g1 rfl ?a1 ?c1 ?_)
              case g1 => rfl
              case c1 => first | omega | (simp only [List.length_cons, List.length_nil]; omega)
              case a1 => rfl
              intro v2 w2 hO2 hf2
              have hf3 := hf.trans hf2
              obtain ⟨hz, hbw, hsz⟩ := HZF.out _ hf3
              obtain ⟨t0, t1, t2, t3⟩ := zrow_cells hz
              have f0 := t3 0
              have f1 := t3 1
              have f2 := t3 2
              have HZ2 := Lib.hid hz
              have HB2 := Lib.hid hbw
              clear hO hf hf2 hF2 hO2 hz hbw hsz t3 hf3
              go_wp2_with fail
              rw [← put3_lit]
              refine bodyPost_ret (res_ct rfl _ _ w.heap.size 39 _ (0, 0) _ rfl (put3_row HZ2.out _) Tryd.underlying39 rfl (by rw [hi5]; simp [hs5])) rfl ?_
              exact ⟨by rw [HR.out]; rfl, HPut.out _ _ HB2.out⟩
        · have hU2 : un = none := by
            rw [List.drop_eq_nil_of_le (by rw [HSL.out]; omega)] at hU1
            exact hU1.one
          have HR := Lib.hid (HN.out hU2)
          have hlt3 : (s.size : Int) ≤ (j : Int) + 1 := by omega
          clear hU1 hU2 hlt2
          go_wp2_with (at_builtin; refine app_lit_own rfl (.tmp 12) (.tmp 16) (by rfl) (· < w.heap.size + 1) hF2 _ _ (by rfl) hO _ 1 [0] _ (by rfl) ?g1 rfl ?a1 ?c1 ?_)
          case g1 => rfl
          case c1 => first | omega | (simp only [List.length_cons, List.length_nil]; omega)
          case a1 => rfl
          intro v2 w2 hO2 hf2
          have hf3 := hf.trans hf2
          obtain ⟨hz, hbw, hsz⟩ := HZF.out _ hf3
          obtain ⟨t0, t1, t2, t3⟩ := zrow_cells hz
          have f0 := t3 0
          have f1 := t3 1
          have f2 := t3 2
          have HZ2 := Lib.hid hz
          have HB2 := Lib.hid hbw
          clear hO hf hf2 hF2 hO2 hz hbw hsz t3 hf3
          go_wp2_with fail
          rw [← put3_lit]
          refine bodyPost_ret (res_ct rfl _ _ w.heap.size 39 _ (0, 0) _ rfl (put3_row HZ2.out _) Tryd.underlying39 rfl (by rw [hi5]; simp [hs5])) rfl ?_
          exact ⟨by rw [HR.out]; rfl, HPut.out _ _ HB2.out⟩
      · have HU2 := Lib.hid (hU1.skip h0)
        have hb0 : ((s.data.toList[j].toNat : Int) == 0) = false := by
          rw [beq_eq_false_iff_ne]
          intro h
          exact h0 (UInt8.toNat_inj.1 (by have : (0 : UInt8).toNat = 0 := rfl; omega))
        generalize s.data.toList[j] = d at *
        clear hU1 hdr h0 hU
        go_wp2_with (at_builtin; refine app_lit_own rfl (.tmp 12) (.tmp 16) (by rfl) (· < w.heap.size + 1) hF2 _ _ (by rfl) hO _ 1 [d] _ (by rfl) ?g1 rfl ?a1 ?c1 ?_)
        case g1 => rfl
        case c1 => first | omega | (simp only [List.length_cons, List.length_nil]; omega)
        case a1 => rfl
        intro v2 w2 hO2 hf2
        have HO2 := Lib.hid hO2
        have hf3 := hf.trans hf2
        clear hO hf hf2 hF2 hO2
        go_wp2_with fail
        go_roundw
        case rel => exact ⟨j + 1, b ++ [d], by omega, by omega, by go_num, HO2.out, by simp; omega, by simp; omega, HU2, hf3⟩
        case measure => simp [intOf]; omega
    · have hU2 : un = none := by
        have hU1 := hU.out
        rw [List.drop_eq_nil_of_le (by rw [HSL.out]; omega)] at hU1
        exact hU1.nil
      have HR := Lib.hid (HN.out hU2)
      obtain ⟨hz, hbw, hsz⟩ := HZF.out _ hf
      obtain ⟨t0, t1, t2, t3⟩ := zrow_cells hz
      have f0 := t3 0
      have f1 := t3 1
      have f2 := t3 2
      have HZ2 := Lib.hid hz
      have HB2 := Lib.hid hbw
      clear hO hf hz hbw hsz t3 hU hU2
      go_wp2_with fail
      rw [← put3_lit]
      refine bodyPost_ret (res_ct rfl _ _ w.heap.size 39 _ (0, 0) _ rfl (put3_row HZ2.out _) Tryd.underlying39 rfl (by rw [hi5]; simp [hs5])) rfl ?_
      exact ⟨by rw [HR.out]; rfl, HPut.out _ _ HB2.out⟩
end Go.Proofs.YtkanpdhlpobfoaaDoor
