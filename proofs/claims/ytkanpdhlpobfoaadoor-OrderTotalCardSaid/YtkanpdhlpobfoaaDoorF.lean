/-
  appendPart, by contract.
-/
import Derived.Test.YtkanpdhlpobfoaaDoorC
import Derived.Test.YtkanpdhlpobfoaaDoorE
import Derived.Test.YtkanpdhlpobfoaaDoorR
import Derived.Laws.BitsAllLaws
namespace Go.Proofs.YtkanpdhlpobfoaaDoor
open Go.RowKit
open K (Pt)

/-- the library's number in memory -/
def Ml (w : World) : Prop := ∃ m, w.cell? ⟨0, 0, none⟩ = some (.int .i64 m)
theorem Ml.lt {w : World} (h : Ml w) : 0 < w.heap.size := World.block_lt_of_cell? _ _ h.choose_spec
theorem Ml.fr {w w' : World} {F : Nat → Prop} (h : Ml w) (hF : F 0) (hf : Fr F w w') : Ml w' := by
  obtain ⟨m, hm⟩ := h
  exact ⟨m, (hf.cell (p := ⟨0, 0, none⟩) hF).trans hm⟩
theorem Ml.below {w w' : World} (h : Ml w) (hb : Below w.heap.size w w') : Ml w' := by
  obtain ⟨m, hm⟩ := h
  exact ⟨m, (hb.cell (p := ⟨0, 0, none⟩) (Ml.lt ⟨m, hm⟩)).trans hm⟩
theorem At0.fr {w w' : World} {g : Nat} {p : Pt} {F : Nat → Prop} (h : At0 w g p) (hg : F g) (hb : Fr F w w') : At0 w' g p :=
  ⟨(hb.cell (p := ⟨g, 0, none⟩) hg).trans h.c0, (hb.cell (p := ⟨g, 1, none⟩) hg).trans h.c1, (hb.cell (p := ⟨g, 2, none⟩) hg).trans h.c2⟩
/-- ReplaceAll as the writer calls it -/
theorem escape_any (s : ByteArray) (w : World) (h : Ml w) (hs : s.size ≤ 1048576) :
    Calls Tryd.prog 37 #[.string s, .string ⟨#[0]⟩, .string ⟨#[0, 255]⟩] w fun e w' => e = .returned (.string ⟨(K.esc s.data.toList).toArray⟩) ∧ Below w.heap.size w w' := by
  obtain ⟨m, hm⟩ := h
  have hc := K.count_esc s
  have := Tryd.strings_ReplaceAll s ⟨#[0]⟩ ⟨#[0, 255]⟩ m w (by omega) hm (by decide) (by
    have e : (ByteArray.mk #[0, 255]).size = 2 := rfl
    rw [e]
    omega)
  have e : Lib.replaceAll s.data.toList (ByteArray.mk #[0]).data.toList (ByteArray.mk #[0, 255]).data.toList = K.esc s.data.toList := K.all_esc _
  rw [e] at this
  exact this
/-- .. and the reader -/
theorem unescape_any (s : ByteArray) (w : World) (h : Ml w) (hs : s.size ≤ 1048576) :
    Calls Tryd.prog 37 #[.string s, .string ⟨#[0, 255]⟩, .string ⟨#[0]⟩] w fun e w' => e = .returned (.string ⟨(Lib.replaceAll s.data.toList [0, 255] [0]).toArray⟩) ∧ Below w.heap.size w w' := by
  obtain ⟨m, hm⟩ := h
  have hc := K.count_unesc s
  exact Tryd.strings_ReplaceAll s ⟨#[0, 255]⟩ ⟨#[0]⟩ m w (by omega) hm (by decide) (by
    have e : (ByteArray.mk #[0]).size = 1 := rfl
    rw [e]
    omega)

set_option maxRecDepth 4000 in
set_option maxHeartbeats 1000000 in
/-- a text -/
theorem appendPart_text (F : Nat → Prop) (v : Value) (l : Bs) (n : Int) (s : ByteArray) (w : World) (hF : ∀ k, F k → k < w.heap.size) (h : Own w F v l) (hM : Ml w) (hm : F 0) (hs : s.size ≤ 1048576) (hl : l.length ≤ 1048576) :
    Calls Tryd.prog 24 #[v, .agg #[.bool true, .int .i64 n, .string s]] w (App w F (l ++ Pt.enc ⟨true, n, s⟩)) := by
  have HE : Hid (Pt.enc ⟨true, n, s⟩ = 32 :: (K.esc s.data.toList ++ [0, 1])) := Lib.hid rfl
  have HR := Lib.hid fun w hM => escape_any s w hM hs
  have hel : (K.esc s.data.toList).length ≤ 2 * s.size := by
    rw [esc_length]
    have := List.count_le_length (a := (0 : UInt8)) (l := s.data.toList)
    rw [size_list] at *
    omega
  have hat := at_new w ⟨true, n, s⟩
  have hO := h.boxed (cellsP ⟨true, n, s⟩)
  have hF1 := Or.lt hF (cellsP ⟨true, n, s⟩)
  have hM1 := hM.below (below_alloc w (cellsP ⟨true, n, s⟩))
  have HU := Lib.hid fun w' => Fr.unbox (w' := w') hF (o := cellsP ⟨true, n, s⟩)
  have HG : Hid (Or F w.heap.size w.heap.size) := Lib.hid (.inr rfl)
  have HM : Hid (Or F w.heap.size 0) := Lib.hid (.inl hm)
  have HL : Hid (∀ w' v l, Own w' (Or F w.heap.size) v l → Own w' F v l) := Lib.hid fun w' v l h => h.less fun k hk => .inl hk
  generalize hEs : K.esc s.data.toList = es at *
  clear hEs h hM hF
  unfold cellsP at *
  simp only at *
  generalize hFF : Or F w.heap.size = F' at *
  clear hFF
  have HA := Lib.hid hat
  clear hat
  go_enter Tryd.func24, Tryd.ntmps24
  go_wp2_with (at_builtin; refine app_lit_own rfl (.tmp 8) (.tmp 9) (by rfl) F' hF1 _ _ (by rfl) hO _ 1 [32] _ (by rfl) ?g1 rfl rfl ?c1 ?_)
  case g1 => simp
  case c1 => simp; omega
  intro v1 w1 hO1 hf1
  have hA1 := Lib.hid (HA.out.fr HG.out hf1)
  have hM2 := Lib.hid (hM1.fr HM.out hf1)
  obtain ⟨d0, d1, d2⟩ := hA1.out
  have HF1 := Lib.hid hF1
  clear hF1 hO HA d0 d1 hM1
  go_wp2_with fail
  refine (HR.out _ hM2.out).mono ?_
  rintro e w2 ⟨rfl, hb2⟩
  have hO2 := hO1.below hb2
  have hF2 : ∀ k, F' k → k < w2.heap.size := fun k hk => Nat.lt_of_lt_of_le (HF1.out k hk) (Nat.le_trans hf1.size hb2.size)
  have hf2 := hf1.trans (Fr.of hb2 fun k hk => Nat.lt_of_lt_of_le (HF1.out k hk) hf1.size)
  clear d2 hO1 hb2 hf1
  go_wp2_with (at_builtin; refine app_str_own rfl (.tmp 11) (.tmp 14) (by rfl) F' hF2 _ _ (by rfl) hO2 ⟨es.toArray⟩ (by rfl) (by show _ + es.length ≤ _; simp; omega) ?_)
  intro v3 w3 hO3 hf3
  have hF3 : ∀ k, F' k → k < w3.heap.size := fun k hk => Nat.lt_of_lt_of_le (hF2 k hk) hf3.size
  have hf4 := hf2.trans hf3
  clear hO2 hf2 hf3 hF2
  go_wp2_with (at_builtin; refine app_str_own rfl (.tmp 16) (.const (.string ⟨#[0, 1]⟩)) (by rfl) F' hF3 _ _ (by rfl) hO3 ⟨#[0, 1]⟩ (by rfl) (by show _ + 2 ≤ _; simp; omega) ?_)
  intro v4 w4 hO4 hf5
  have H : Hid (Own w4 F v4 (l ++ Pt.enc ⟨true, n, s⟩) ∧ Fr F w w4) := by
    refine ⟨HL.out _ _ _ ?_, HU.out _ (hf4.trans hf5)⟩
    rw [HE.out]
    exact hO4
  clear hO3 hO4 hf4 hf5
  go_wp2_with fail
  go_ret
  exact ⟨_, rfl, H.out.1, H.out.2⟩

/-- a number's bytes, one by one -/
theorem be_get (m : Nat) : ∀ (k i : Nat) (h : i < (K.be k m).length), (K.be k m)[i] = UInt8.ofNat (m / 256 ^ (k - 1 - i))
  | 0, i, h => by simp [K.be] at h
  | k + 1, 0, _ => by simp [K.be]
  | k + 1, i + 1, h => by
    simp only [K.be, List.getElem_cons_succ]
    rw [be_get m k i]
    congr 3
    omega

theorem raised {n : Int} {M : Nat} (hM : M = (n + 9223372036854775808).toNat) (h1 : -9007199254740991 ≤ n) (h2 : n ≤ 9007199254740991) : IntKind.u64.wrap (IntKind.u64.wrap n + 9223372036854775808) = (M : Int) := by
  have e : (M : Int) = n + 9223372036854775808 := by omega
  rw [e, IntKind.wrap_u64, IntKind.wrap_u64, Int.emod_add_emod, Int.emod_eq_of_lt (by omega) (by omega)]
theorem byte_at {n : Int} {M j : Nat} (hM : M = (n + 9223372036854775808).toNat) (h1 : -9007199254740991 ≤ n) (h2 : n ≤ 9007199254740991) :
    IntKind.u64.wrap (IntKind.u64.wrap n + 9223372036854775808) / 2 ^ (8 * (7 - j)) % 256 = (((UInt8.ofNat (M / 256 ^ (8 - 1 - j))).toNat : Nat) : Int) := by
  have e : (2 : Nat) ^ (8 * (7 - j)) = 256 ^ (8 - 1 - j) := by rw [Nat.pow_mul]
  rw [raised hM h1 h2, UInt8.toNat_ofNat', ← e]
  simp
set_option maxRecDepth 4000 in
set_option maxHeartbeats 1000000 in
/-- a number -/
theorem appendPart_num (F : Nat → Prop) (v : Value) (l : Bs) (n : Int) (s : ByteArray) (w : World) (hF : ∀ k, F k → k < w.heap.size) (h : Own w F v l) (h1 : -9007199254740991 ≤ n) (h2 : n ≤ 9007199254740991) (hl : l.length ≤ 1048576) :
    Calls Tryd.prog 24 #[v, .agg #[.bool false, .int .i64 n, .string s]] w (App w F (l ++ Pt.enc ⟨false, n, s⟩)) := by
  obtain ⟨M, hM⟩ : ∃ M, M = (n + 9223372036854775808).toNat := ⟨_, rfl⟩
  have HE : Hid (Pt.enc ⟨false, n, s⟩ = 16 :: K.be 8 M) := Lib.hid (by rw [hM]; rfl)
  have hbl := K.be_length 8 M
  have HB := Lib.hid (be_get M 8)
  generalize K.be 8 M = bs at *
  have hat := at_new w ⟨false, n, s⟩
  have hO := h.boxed (cellsP ⟨false, n, s⟩)
  have hF1 := Or.lt hF (cellsP ⟨false, n, s⟩)
  have HU := Lib.hid fun w' => Fr.unbox (w' := w') hF (o := cellsP ⟨false, n, s⟩)
  have HG : Hid (Or F w.heap.size w.heap.size) := Lib.hid (.inr rfl)
  have HL : Hid (∀ w' v l, Own w' (Or F w.heap.size) v l → Own w' F v l) := Lib.hid fun w' v l h => h.less fun k hk => .inl hk
  clear h hF
  unfold cellsP at *
  simp only at *
  generalize hFF : Or F w.heap.size = F' at *
  clear hFF
  have HA := Lib.hid hat
  have HM := Lib.hid hM
  clear hat hM
  go_enter Tryd.func24, Tryd.ntmps24
  go_wp2_with (at_builtin; refine app_lit_own rfl (.tmp 18) (.tmp 19) (by rfl) F' hF1 _ _ (by rfl) hO _ 1 [16] _ (by rfl) ?g1 rfl rfl ?c1 ?_)
  case g1 => simp
  case c1 => simp; omega
  intro v1 w1 hO1 hf1
  have hA1 := Lib.hid (HA.out.fr HG.out hf1)
  have HF1 := Lib.hid hF1
  have HS := Lib.hid hf1.size
  clear hF1 hO HA
  go_wp2_with fail
  go_loopw [0, 21] (fun x i wr => ∃ j : Nat, j ≤ 8 ∧ i = .int .i64 j ∧ Own wr F' x (l ++ 16 :: bs.take j) ∧ Fr F' w1 wr)
    (fun _ i _ => 8 - (intOf i).toNat)
  case atStart => exact ⟨0, by omega, rfl, by simpa using hO1, Fr.refl _ _⟩
  case round =>
    obtain ⟨j, hj, rfl, hO2, hf2⟩ := hrel
    clear hO1
    by_cases hlt : j < 8
    · have hA2 := hA1.out.fr HG.out hf2
      obtain ⟨d0, d1, d2⟩ := hA2
      have hF2 : ∀ k, F' k → k < wr.heap.size := fun k hk => Nat.lt_of_lt_of_le (HF1.out k hk) (Nat.le_trans HS.out hf2.size)
      clear d0 d2
      go_wp2_with (at_builtin; refine app_lit_own rfl (.tmp 24) (.tmp 34) (by rfl) F' hF2 _ _ (by rfl) hO2 _ 1 [bs[j]] _ (by rfl) ?g1 rfl ?a1 ?c1 ?_)
      case g1 => rfl
      case c1 => omega
      case a1 =>
        show Value.int .u8 _ = Value.int .u8 _
        rw [HB.out, byte_at HM.out h1 h2]
      intro v2 w2 hO3 hf3
      have HT : Hid (bs.take (j + 1) = bs.take j ++ [bs[j]]) := snoc_get bs j (by omega)
      have HO : Hid (Own w2 F' v2 (l ++ 16 :: bs.take (j + 1))) := by
        first | exact hO3 | (rw [HT.out]; exact hO3)
      have hf4 := hf2.trans hf3
      clear hO2 hO3 hf2 hf3 d1
      go_wp2_with fail
      go_roundw
      case rel => exact ⟨j + 1, by omega, by go_num, HO.out, hf4⟩
      case measure => simp [intOf]; omega
    · obtain rfl : j = 8 := by omega
      have H : Hid (Own wr F u0 (l ++ Pt.enc ⟨false, n, s⟩) ∧ Fr F w wr) := by
        refine ⟨HL.out _ _ _ ?_, HU.out _ (hf1.trans hf2)⟩
        rw [HE.out]
        rw [List.take_of_length_le (by omega)] at hO2
        exact hO2
      clear hO2 hf2 hf1
      go_wp2_with fail
      go_ret
      exact ⟨_, rfl, H.out.1, H.out.2⟩
theorem appendPart_any (F : Nat → Prop) (v : Value) (l : Bs) (p : Pt) (w : World) (hF : ∀ k, F k → k < w.heap.size) (h : Own w F v l) (hM : Ml w) (hm : F 0) (hp : p.may = true) (hs : p.s.size ≤ 1048576) (hl : l.length ≤ 1048576) :
    Calls Tryd.prog 24 #[v, pV p] w (App w F (l ++ p.enc)) := by
  obtain ⟨t, n, s⟩ := p
  cases t
  · have := K.may_num hp rfl
    simp only [K.maxSafe] at this
    exact appendPart_num F v l n s w hF h this.2.1 this.2.2 hl
  · exact appendPart_text F v l n s w hF h hM hm hs hl
end Go.Proofs.YtkanpdhlpobfoaaDoor
