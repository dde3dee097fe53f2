/-
  The reference's part, bytes, Encode, Check, Behind, by contract.
-/
import Derived.Test.YtkanpdhlpobfoaaDoorG
namespace Go.Proofs.YtkanpdhlpobfoaaDoor
open Go.RowKit
open K (Pt)

theorem own_lit (w : World) (arr : Array Value) (l : Bs) (B : Nat) (hB : B ≤ w.heap.size) (h : arr = (l.map bv).toArray) (m : Nat) (hm : m = l.length) (hl : l.length ≤ 1048576) (g : Nat) (hg : g = w.heap.size) : Own (w.alloc (.cells arr 5)) (· < B) (.slice (some ⟨g, 0, none⟩) m m) l := by
  subst h
  subst hm
  subst hg
  have := World.ownsRow_lit (base := 0) (e := 5) (size := 1) w (l.map bv).toArray l.length (Nat.zero_le _) (by unfold maxLen; omega) (by simp)
  refine ⟨by simpa using this, fun k hk h => ?_⟩
  cases hk
  simp only at h
  omega
theorem byte_at' {n : Int} {M j : Nat} (hM : M = (n + 9223372036854775808).toNat) (h1 : -9007199254740991 ≤ n) (h2 : n ≤ 9007199254740991) (e : Nat) (he : e = 8 * (7 - j)) :
    IntKind.u64.wrap (IntKind.u64.wrap n + 9223372036854775808) / 2 ^ e % 256 = (((UInt8.ofNat (M / 256 ^ (8 - 1 - j))).toNat : Nat) : Int) := by
  subst he
  exact byte_at hM h1 h2
set_option maxRecDepth 4000 in
set_option maxHeartbeats 1000000 in
theorem part_num (n : Int) (s : ByteArray) (w : World) (h1 : -9007199254740991 ≤ n) (h2 : n ≤ 9007199254740991) :
    Calls Tryd.prog 38 #[.agg #[.bool false, .int .i64 n, .string s]] w fun e w' => e = .returned (.string ⟨(Pt.enc ⟨false, n, s⟩).toArray⟩) ∧ Below w.heap.size w w' := by
  obtain ⟨M, hM⟩ : ∃ M, M = (n + 9223372036854775808).toNat := ⟨_, rfl⟩
  obtain ⟨ee, hee⟩ : ∃ ee, ee = Pt.enc ⟨false, n, s⟩ := ⟨_, rfl⟩
  rw [← hee]
  have HE : Hid (ee = 16 :: K.be 8 M) := Lib.hid (by rw [hee, hM]; rfl)
  clear hee
  have hbl := K.be_length 8 M
  have HB := Lib.hid (be_get M 8)
  generalize K.be 8 M = bs at *
  have HM := Lib.hid hM
  clear hM
  have HO0 := Lib.hid (own_lit (w.alloc (cellsP ⟨false, n, s⟩)) #[.int .u8 16] [16] w.heap.size (by simp) rfl 1 rfl (by decide) (w.heap.size + 1) (by simp))
  have HF0 := Lib.hid (((Fr.refl (· < w.heap.size) w).alloc (fun _ h => h) (cellsP ⟨false, n, s⟩)).alloc (fun _ h => h) (.cells #[.int .u8 16] 5))
  unfold cellsP at *
  go_enter Tryd.func38, Tryd.ntmps38
  go_wp2_with fail
  go_loopw [4, 5] (fun x y wr => ∃ i : Int, -1 ≤ i ∧ i ≤ 7 ∧ y = .int .i64 i ∧ Own wr (· < w.heap.size) x (16 :: bs.take (7 - i).toNat) ∧ Fr (· < w.heap.size) w wr)
    (fun _ y _ => (intOf y + 1).toNat)
  case atStart => exact ⟨7, by omega, by omega, rfl, HO0.out, HF0.out⟩
  case round =>
    obtain ⟨i, hi1, hi2, rfl, hO, hf⟩ := hrel
    by_cases hi : 0 ≤ i
    · obtain ⟨m, rfl⟩ := Int.eq_ofNat_of_zero_le hi
      have hF2 : ∀ k, k < w.heap.size → k < wr.heap.size := fun k hk => Nat.lt_of_lt_of_le hk hf.size
      have hm : m ≤ 7 := by omega
      have e7 : (7 - (m : Int)).toNat = 7 - m := by omega
      have e8 : (7 - ((m : Int) - 1)).toNat = 7 - m + 1 := by omega
      have H8 := Lib.hid e8
      rw [e7] at hO
      clear e7 e8
      have HT : Hid (bs.take (7 - m + 1) = bs.take (7 - m) ++ [bs[7 - m]]) := snoc_get bs (7 - m) (by omega)
      have HBm := Lib.hid (HB.out (7 - m) (by omega))
      generalize bs[7 - m] = b at *
      go_wp2_with (at_builtin; refine app_lit_own rfl (.tmp 20) (.tmp 27) (by rfl) (· < w.heap.size) hF2 _ _ (by rfl) hO _ 1 [b] _ (by rfl) ?g1 rfl ?a1 ?c1 ?_)
      case g1 => rfl
      case c1 => simp only [List.length_cons, List.length_take, List.length_nil]; omega
      case a1 =>
        show #[Value.int .u8 _] = #[Value.int .u8 _]
        rw [HBm.out, byte_at' HM.out h1 h2 (8 * m) (by omega) (j := 7 - m)]
      intro v2 w2 hO3 hf3
      have HO : Hid (Own w2 (· < w.heap.size) v2 (16 :: bs.take (7 - ((m : Int) - 1)).toNat)) := by
        show Own _ _ _ _
        rw [H8.out, HT.out]
        exact hO3
      have hf4 := hf.trans hf3
      clear hO hO3 hf hf3 hi
      go_wp2_with fail
      go_roundw
      case rel => exact ⟨(m : Int) - 1, by omega, by omega, rfl, HO.out, hf4⟩
      case measure => simp [intOf]
    · obtain rfl : i = -1 := by omega
      have hT : bs.take (7 - (-1 : Int)).toNat = bs := List.take_of_length_le (by rw [hbl]; decide)
      rw [hT, ← HE.out] at hO
      obtain ⟨A', c', rfl, hlc, hY⟩ := hO.open
      have hcv := string_of (P := Tryd.prog) (c := c') wr 37 9 5 Tryd.underlying37 Tryd.underlying5 Tryd.underlying9 hY
      clear hO hY hT
      go_wp2_with fail
      go_ret
      exact ⟨rfl, hf.below⟩

set_option maxRecDepth 4000 in
set_option maxHeartbeats 1000000 in
theorem part_text (n : Int) (s : ByteArray) (w : World) (hs : s.size ≤ 1048576) :
    Calls Tryd.prog 38 #[.agg #[.bool true, .int .i64 n, .string s]] w fun e w' => e = .returned (.string ⟨(Pt.enc ⟨true, n, s⟩).toArray⟩) ∧ Below w.heap.size w w' := by
  obtain ⟨ee, hee⟩ : ∃ ee, ee = Pt.enc ⟨true, n, s⟩ := ⟨_, rfl⟩
  rw [← hee]
  have HE : Hid (ee = 32 :: (K.esc s.data.toList ++ [0, 1])) := Lib.hid hee
  clear hee
  have hlE : ∀ l : Bs, (K.esc l).length ≤ 2 * l.length := fun l => by
    rw [esc_length]
    have := List.count_le_length (a := (0 : UInt8)) (l := l)
    omega
  have HLE := Lib.hid hlE
  clear hlE
  have hat := at_new w ⟨true, n, s⟩
  have HO0 := Lib.hid (own_lit (w.alloc (cellsP ⟨true, n, s⟩)) #[.int .u8 32] [32] (w.heap.size + 1) (by simp) rfl 1 rfl (by decide) (w.heap.size + 1) (by simp))
  have hf0 := Fr.of (below_alloc (w.alloc (cellsP ⟨true, n, s⟩)) (.cells #[.int .u8 32] 5)) (F := (· < w.heap.size + 1)) (fun _ h => by simpa using h)
  have HF0 := Lib.hid hf0
  have HA := Lib.hid fun wr (h : Fr (· < w.heap.size + 1) (w.alloc (cellsP ⟨true, n, s⟩)) wr) => hat.fr (F := (· < w.heap.size + 1)) (Nat.lt_succ_self _) h
  have HB : Hid (∀ wr, Fr (· < w.heap.size + 1) (w.alloc (cellsP ⟨true, n, s⟩)) wr → Below w.heap.size w wr ∧ w.heap.size + 1 ≤ wr.heap.size) := Lib.hid fun wr h =>
    ⟨(below_alloc w _).trans ((h.mono fun k hk => Nat.lt_succ_of_lt hk).below), by have := h.size; simpa using this⟩
  unfold cellsP at *
  clear hat hf0
  go_enter Tryd.func38, Tryd.ntmps38
  go_wp2_with fail
  go_loopw [6, 7] (fun x y wr => ∃ j : Nat, j ≤ s.size ∧ y = .int .i64 j ∧ Own wr (· < w.heap.size + 1) x (32 :: K.esc (s.data.toList.take j)) ∧ Fr (· < w.heap.size + 1) (w.alloc (.cells #[.bool true, .int .i64 n, .string s] 39)) wr)
    (fun _ y _ => s.size - (intOf y).toNat)
  case atStart => exact ⟨0, by omega, rfl, HO0.out, HF0.out⟩
  case round =>
    obtain ⟨j, hj, rfl, hO, hf⟩ := hrel
    obtain ⟨d0, d1, d2⟩ := HA.out _ hf
    have hF2 : ∀ k, k < w.heap.size + 1 → k < wr.heap.size := fun k hk => by have := (HB.out _ hf).2; omega
    have hel : (K.esc (s.data.toList.take j)).length ≤ 2097152 := by
      have := HLE.out (s.data.toList.take j)
      rw [List.length_take] at this
      omega
    by_cases hlt : j < s.size
    · have hjl : j < s.data.toList.length := by rw [size_list]; exact hlt
      have hx : ∀ w, (Instr.index 9 (.string s) (.int .i64 j)).run Tryd.prog w = .ok (.int .u8 (s.data.toList[j].toNat : Nat)) w := fun w => by
        rw [run_index_string w 9 s .i64 j Tryd.underlying9, dif_pos ⟨by omega, by omega⟩]
        rfl
      have HT : Hid (K.esc (s.data.toList.take (j + 1)) = K.esc (s.data.toList.take j) ++ if s.data.toList[j] = 0 then [0, 255] else [s.data.toList[j]]) := by
        show K.esc _ = _
        rw [snoc_get _ j hjl, K.esc_append]
        congr 1
      generalize s.data.toList[j] = b at *
      generalize K.esc (s.data.toList.take j) = es at *
      by_cases h0 : b = 0
      · subst h0
        have hx' : ∀ w, (Instr.index 9 (.string s) (.int .i64 j)).run Tryd.prog w = .ok (.int .u8 0) w := hx
        rw [if_pos rfl] at HT
        clear hx
        go_wp2_with (at_builtin; refine app_lit_own rfl (.tmp 39) (.tmp 44) (by rfl) (· < w.heap.size + 1) hF2 _ _ (by rfl) hO _ 1 [0] _ (by rfl) ?g1 rfl ?a1 ?c1 ?_)
        case g1 => rfl
        case c1 => first | omega | (simp only [List.length_cons, List.length_nil]; omega)
        case a1 => rfl
        intro v2 w2 hO3 hf3
        have hf4 := hf.trans hf3
        have hF3 : ∀ k, k < w.heap.size + 1 → k < w2.heap.size := fun k hk => by have := (HB.out _ hf4).2; omega
        obtain ⟨e0, e1, e2⟩ := HA.out _ hf4
        clear d0 d1 d2 hO hf hf3 hF2
        go_wp2_with (at_builtin; refine app_lit_own rfl (.tmp 51) (.tmp 52) (by rfl) (· < w.heap.size + 1) hF3 _ _ (by rfl) hO3 _ 1 [255] _ (by rfl) ?g1 rfl ?a1 ?c1 ?_)
        case g1 => rfl
        case c1 => first | omega | (simp; omega)
        case a1 => rfl
        intro v3 w3 hO4 hf5
        have HO : Hid (Own w3 (· < w.heap.size + 1) v3 (32 :: K.esc (s.data.toList.take (j + 1)))) := by
          show Own _ _ _ _
          rw [HT.out]
          first
            | exact hO4
            | (have := hO4; simp only [List.cons_append, List.append_assoc, List.nil_append] at this; exact this)
        have hf6 := hf4.trans hf5
        clear hO3 hO4 hf4 hf5 hF3 e0 e1 e2
        go_wp2_with fail
        go_roundw
        case rel => exact ⟨j + 1, by omega, by go_num, HO.out, hf6⟩
        case measure => simp [intOf]; omega
      · have hb0 : ((b.toNat : Int) == 0) = false := by
          rw [beq_eq_false_iff_ne]
          intro h
          exact h0 (UInt8.toNat_inj.1 (by have : (0 : UInt8).toNat = 0 := rfl; omega))
        rw [if_neg h0] at HT
        clear h0
        go_wp2_with (at_builtin; refine app_lit_own rfl (.tmp 39) (.tmp 44) (by rfl) (· < w.heap.size + 1) hF2 _ _ (by rfl) hO _ 1 [b] _ (by rfl) ?g1 rfl ?a1 ?c1 ?_)
        case g1 => rfl
        case c1 => first | omega | (simp only [List.length_cons, List.length_nil]; omega)
        case a1 => rfl
        intro v2 w2 hO3 hf3
        have hf4 := hf.trans hf3
        obtain ⟨e0, e1, e2⟩ := HA.out _ hf4
        have HO : Hid (Own w2 (· < w.heap.size + 1) v2 (32 :: K.esc (s.data.toList.take (j + 1)))) := by
          show Own _ _ _ _
          rw [HT.out]
          exact hO3
        clear d0 d1 d2 hO hf hf3 hF2 hO3
        go_wp2_with fail
        go_roundw
        case rel => exact ⟨j + 1, by omega, by go_num, HO.out, hf4⟩
        case measure => simp [intOf]; omega
    · obtain rfl : j = s.size := by omega
      rw [List.take_of_length_le (by rw [size_list]; exact Nat.le_refl _)] at hO hel
      go_wp2_with (at_builtin; refine app_lit_own rfl (.tmp 54) (.tmp 55) (by rfl) (· < w.heap.size + 1) hF2 _ _ (by rfl) hO _ 2 [0, 1] _ (by rfl) ?g1 rfl ?a1 ?c1 ?_)
      case g1 => rfl
      case c1 => first | omega | (simp only [List.length_cons, List.length_nil]; omega)
      case a1 => first | rfl | exact ⟨rfl, rfl⟩
      intro v2 w2 hO3 hf3
      have hO4 : Own w2 (· < w.heap.size + 1) v2 ee := by rw [HE.out]; exact hO3
      obtain ⟨A', c', rfl, hlc, hY⟩ := hO4.open
      have hcv := string_of (P := Tryd.prog) (c := c') w2 37 9 5 Tryd.underlying37 Tryd.underlying5 Tryd.underlying9 hY
      have HBl := Lib.hid (HB.out _ (hf.trans hf3)).1
      clear hO hY hO3 hO4 hf hf3 d0 d1 d2
      go_wp2_with fail
      go_ret
      exact ⟨rfl, HBl.out⟩
theorem part_any (p : Pt) (w : World) (hp : p.may = true) (hs : p.s.size ≤ 1048576) :
    Calls Tryd.prog 38 #[pV p] w fun e w' => e = .returned (.string ⟨p.enc.toArray⟩) ∧ Below w.heap.size w w' := by
  obtain ⟨t, n, s⟩ := p
  cases t
  · have := K.may_num hp rfl
    simp only [K.maxSafe] at this
    exact part_num n s w this.2.1 this.2.2
  · exact part_text n s w hs
end Go.Proofs.YtkanpdhlpobfoaaDoor
