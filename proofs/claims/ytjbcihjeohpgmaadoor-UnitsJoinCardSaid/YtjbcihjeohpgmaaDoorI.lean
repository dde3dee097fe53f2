/-
  readHex, readEscape, readUnit, by contract.
-/
import Derived.Test.YtjbcihjeohpgmaaDoorF
namespace Go.Proofs.YtjbcihjeohpgmaaDoor
open Go.RowKit

/-- the library's variable ErrSyntax can be read -/
def ErrAt (w : World) : Prop := ∃ ev, w.cell? ⟨1, 0, none⟩ = some ev ∧ (ev = .nilIface ∨ ∃ te pe, ev = .iface te pe)
theorem ErrAt.below {w w' : World} (h : ErrAt w) (hb : Below w.heap.size w w') : ErrAt w' := by
  obtain ⟨ev, h1, h2⟩ := h
  exact ⟨ev, (hb.cell (World.block_lt_of_cell? w _ h1)).trans h1, h2⟩

theorem pub_ok (t : ByteArray) (n : Nat) (h : hexGo 0 t.data.toList = some n) (hne : 0 < t.size) (hmax : t.size ≤ 4) (w : World) :
    Calls Tryd.prog 49 #[.string t, .int .i64 16, .int .i64 16] w fun e w' => e = .returned (.tuple #[.int .u64 n, .nilIface]) ∧ Below w.heap.size w w' := by
  have HP : Hid (∀ w, Calls Tryd.prog 51 #[.string t, .int .i64 16, .int .i64 16] w fun e w' => e = .returned (.tuple #[.int .u64 n, .nilIface]) ∧ Below w.heap.size w w') := fun w => by
    have := parse_any t hne hmax w
    rw [h] at this
    exact this
  clear h
  go_enter Tryd.func49, Tryd.ntmps49
  go_wp2_with (go_at_call 51; refine (HP.out _).mono ?_; rintro e w' ⟨rfl, hb⟩)
  go_ret2
  exact ⟨rfl, hb⟩
theorem pub_no (t : ByteArray) (h : hexGo 0 t.data.toList = none) (hne : 0 < t.size) (hmax : t.size ≤ 4) (w : World) (hE : ErrAt w) :
    Calls Tryd.prog 49 #[.string t, .int .i64 16, .int .i64 16] w fun e w' => ∃ N, e = .returned (.tuple #[.int .u64 0, .iface 67 (.pointer (some ⟨N, 0, none⟩))]) ∧ Below w.heap.size w w' := by
  have HP : Hid (∀ w, Calls Tryd.prog 51 #[.string t, .int .i64 16, .int .i64 16] w fun e w' => e = .returned (.tuple #[.int .u64 0, .iface 65 (.int .i64 2)]) ∧ Below w.heap.size w w') := fun w => by
    have := parse_any t hne hmax w
    rw [h] at this
    exact this
  clear h
  have HE := Lib.hid hE
  clear hE
  go_enter Tryd.func49, Tryd.ntmps49
  go_wp2_with fail
  refine (HP.out _).mono ?_
  rintro e w1 ⟨rfl, hb⟩
  obtain ⟨ev, hv, hev⟩ := HE.out.below hb
  have HV := Lib.hid hv
  have HV2 := Lib.hid hev
  clear hv hev HE
  go_wp2_with fail
  refine (Tryd.strconv_toError_syntax _ t 16 16 ev _ (by omega) HV.out HV2.out).mono ?_
  rintro e w2 ⟨N, rfl, _, _, hb2⟩
  go_wp2
  go_ret2
  exact ⟨N, rfl, hb.trans (hb2.mono hb.size)⟩

theorem hexGo_lt : ∀ (l : Bs) (acc n : Nat), hexGo acc l = some n → n < (acc + 1) * 16 ^ l.length
  | [], acc, n, h => by simp only [hexGo, Option.some.injEq] at h; subst h; simp
  | c :: r, acc, n, h => by
    rw [hexGo_cons] at h
    cases hv : hexV c with
    | none => rw [hv] at h; cases h
    | some d =>
      rw [hv] at h
      have h1 := hexGo_lt r (16 * acc + d) n h
      have hd := hexV_lt hv
      have h2 : (16 * acc + d + 1) * 16 ^ r.length ≤ ((acc + 1) * 16) * 16 ^ r.length := Nat.mul_le_mul_right _ (by omega)
      rw [List.length_cons, Nat.pow_succ, Nat.mul_comm (16 ^ r.length) 16, ← Nat.mul_assoc]
      omega
/-- what readHex answers -/
def hexUnit (l : Bs) (d : Nat) : Value :=
  if l.length < 2 + d then .tuple #[.int .i64 0, .int .i64 0] else match hexGo 0 ((l.drop 2).take d) with
  | some n => .tuple #[.int .i64 n, .int .i64 ((2 + d : Nat) : Int)]
  | none => .tuple #[.int .i64 0, .int .i64 0]
theorem hexUnit_short {l : Bs} {d : Nat} (h : l.length < 2 + d) : hexUnit l d = .tuple #[.int .i64 0, .int .i64 0] := if_pos h
theorem hexUnit_long {l : Bs} {d : Nat} (h : ¬ l.length < 2 + d) : hexUnit l d = match hexGo 0 ((l.drop 2).take d) with
  | some n => .tuple #[.int .i64 n, .int .i64 ((2 + d : Nat) : Int)]
  | none => .tuple #[.int .i64 0, .int .i64 0] := if_neg h
theorem readHex_any (s : ByteArray) (D : Int) (d : Nat) (hD : D = (d : Int)) (hd : d = 2 ∨ d = 4) (w : World) (_hs : s.size ≤ 33554432) (hE : ErrAt w) :
    Calls Tryd.prog 45 #[.string s, .int .i64 D] w fun e w' => e = .returned (hexUnit s.data.toList d) ∧ Below w.heap.size w w' := by
  subst hD
  have HE := Lib.hid hE
  clear hE
  have hd1 : 2 ≤ d := by omega
  have hd2 : d ≤ 4 := by omega
  have HD := Lib.hid hd
  clear hd
  have e1 : IntKind.i64.wrap (2 + (d : Int)) = 2 + (d : Int) := IntWalk.i64_in _ (by omega)
  by_cases hl : s.size < 2 + d
  · have HU := Lib.hid (hexUnit_short (l := s.data.toList) (d := d) (by rw [size_list]; exact hl))
    go_enter Tryd.func45, Tryd.ntmps45
    go_wp2
    go_ret2
    exact ⟨by rw [HU.out]; rfl, Below.refl _ _⟩
  · have HU := Lib.hid (hexUnit_long (l := s.data.toList) (d := d) (by rw [size_list]; exact hl))
    have hx : (s.extract 2 (2 + d)).size = d := by rw [ByteArray.size_extract]; omega
    have hxl : (s.extract 2 (2 + d)).data.toList = (s.data.toList.drop 2).take d := by simp
    have hsl := run_slice_string (P := Tryd.prog) w 9 s .i64 .i64 2 (2 + (d : Int)) Tryd.underlying9 (by omega) (by omega) (by omega)
    rw [show (2 + (d : Int)).toNat = 2 + d by omega, show (2 : Int).toNat = 2 from rfl] at hsl
    rw [← hxl] at HU
    have HX := Lib.hid hx
    clear hx hxl
    generalize s.extract 2 (2 + d) = t at *
    cases hg : hexGo 0 t.data.toList with
    | none =>
      rw [hg] at HU
      have HG := Lib.hid hg
      clear hg
      go_enter Tryd.func45, Tryd.ntmps45
      go_wp2_with (go_at_call 49; refine (pub_no t HG.out (by rw [HX.out]; omega) (by rw [HX.out]; omega) _ HE.out).mono ?_; rintro e w' ⟨N, rfl, hb⟩)
      go_ret2
      exact ⟨by rw [HU.out]; rfl, hb⟩
    | some n =>
      rw [hg] at HU
      have hn := hexGo_lt _ _ _ hg
      have HG := Lib.hid hg
      have hn2 : n < 65536 := by
        rw [size_list, HX.out] at hn
        rcases HD.out with rfl | rfl <;> omega
      clear hg hn
      go_enter Tryd.func45, Tryd.ntmps45
      go_wp2_with (go_at_call 49; refine (pub_ok t n HG.out (by rw [HX.out]; omega) (by rw [HX.out]; omega) _).mono ?_; rintro e w' ⟨rfl, hb⟩)
      go_ret2
      exact ⟨by rw [HU.out]; rfl, hb⟩
end Go.Proofs.YtjbcihjeohpgmaaDoor
