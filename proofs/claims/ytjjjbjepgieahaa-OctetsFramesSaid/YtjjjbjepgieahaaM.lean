/-
  word, putWord; the reference's word and four, by contract.
-/
import Derived.Test.YtjjjbjepgieahaaL
namespace Go.Proofs.Ytjjjbjepgieahaa
open Go.RowKit

/-- a number's bytes, the highest first -/
def wd (l : Bs) : Nat := l.foldl (fun n c => n * 256 + c.toNat) 0
theorem wd_snoc (l : Bs) (c : UInt8) : wd (l ++ [c]) = wd l * 256 + c.toNat := by
  unfold wd
  rw [List.foldl_append]
  rfl
theorem wd_lt : ∀ (n : Nat) (l : Bs), l.length = n → wd l < 256 ^ n
  | 0, l, h => by
    obtain rfl := List.eq_nil_of_length_eq_zero h
    decide
  | n + 1, l, h => by
    obtain ⟨r, c, rfl⟩ : ∃ r c, l = r ++ [c] := ⟨l.dropLast, l.getLast (by rintro rfl; cases h), (List.dropLast_concat_getLast _).symm⟩
    have hr : r.length = n := by simpa using h
    have := wd_lt n r hr
    have := c.toNat_lt
    rw [wd_snoc, Nat.pow_succ]
    omega
theorem word_wd {l : Bs} (h : 4 ≤ l.length) : word l = wd (l.take 4) := by
  match l, h with
  | a :: b :: c :: d :: r, _ =>
    show a.toNat * 16777216 + b.toNat * 65536 + c.toNat * 256 + d.toNat = (((0 * 256 + a.toNat) * 256 + b.toNat) * 256 + c.toNat) * 256 + d.toNat
    omega
theorem or_low (m : Nat) (c : UInt8) (h : m < 16777216) : bits .or .u32 ((m : Int) * 256) (c.toNat : Int) = ((m * 256 + c.toNat : Nat) : Int) := by
  have hc := c.toNat_lt
  have e : ((m : Int) * 256) = ((m * 256 : Nat) : Int) := by omega
  rw [e, u32_or_nat _ _ (by omega) (by omega), nat_join 8 _ _ (by omega) (by omega)]
set_option maxRecDepth 4000 in
set_option maxHeartbeats 400000 in
theorem word_any (A : Option Addr) (l : Bs) (c : Nat) (w : World) (h : Byt w A l) (h4 : 4 ≤ l.length) (hlc : l.length ≤ c) :
    Calls Try.prog 30 #[.slice A l.length c] w fun e w' => e = .returned (.int .u32 (word l : Nat)) ∧ w = w' := by
  have HY := Lib.hid h
  have HW := Lib.hid (word_wd h4)
  clear h
  go_enter Try.func30, Try.ntmps30
  go_wp2
  go_loop [3, 9] (fun v i => ∃ k m : Nat, k ≤ 4 ∧ i = .int .i64 k ∧ v = .int .u32 m ∧ Hid (m = wd (l.take k)))
    (fun _ i => 4 - (intOf i).toNat)
  case atStart => exact ⟨0, 0, by omega, rfl, rfl, rfl⟩
  case round =>
    obtain ⟨k, m, hk, rfl, rfl, hm⟩ := hrel
    by_cases hlt : k < 4
    · obtain ⟨b, o, hA, hcell⟩ := HY.out.at_ (show k < l.length by omega)
      have hml : m < 16777216 := by
        rw [hm.out]
        have h1 := wd_lt k (l.take k) (by rw [List.length_take]; omega)
        have h2 : 256 ^ k ≤ 256 ^ 3 := Nat.pow_le_pow_right (by decide) (by omega)
        have h3 : 256 ^ 3 = 16777216 := rfl
        omega
      have HT : Hid (m * 256 + (l[k]'(by omega)).toNat = wd (l.take (k + 1))) := by
        rw [take_snoc _ _ (by omega), wd_snoc, hm.out]
        exact Lib.hid rfl
      have hO := or_low m (l[k]'(by omega)) hml
      have hc := (l[k]'(by omega)).toNat_lt
      rw [hA] at *
      generalize l[k]'(by omega) = ch at *
      go_wp2
      go_round
      case rel => exact ⟨k + 1, _, by omega, by go_num, rfl, HT⟩
      case measure => simp [intOf]; omega
    · obtain rfl : k = 4 := by omega
      go_wp2
      go_ret
      exact ⟨ret_int (by rw [HW.out, hm.out]), rfl⟩

theorem or_four (a b c d : UInt8) : bits .or .u32 (bits .or .u32 (bits .or .u32 ((a.toNat : Int) * 16777216) ((b.toNat : Int) * 65536)) ((c.toNat : Int) * 256)) (d.toNat : Int) = ((a.toNat * 16777216 + b.toNat * 65536 + c.toNat * 256 + d.toNat : Nat) : Int) := by
  have := a.toNat_lt
  have := b.toNat_lt
  have := c.toNat_lt
  have := d.toNat_lt
  have e1 : ((a.toNat : Int) * 16777216) = ((a.toNat * 16777216 : Nat) : Int) := by omega
  have e2 : ((b.toNat : Int) * 65536) = ((b.toNat * 65536 : Nat) : Int) := by omega
  have e3 : ((c.toNat : Int) * 256) = ((c.toNat * 256 : Nat) : Int) := by omega
  rw [e1, e2, e3, u32_or_nat _ _ (by omega) (by omega), nat_join 24 _ _ (by omega) (by omega), u32_or_nat _ _ (by omega) (by omega), nat_join 16 _ _ (by omega) (by omega), u32_or_nat _ _ (by omega) (by omega), nat_join 8 _ _ (by omega) (by omega)]
set_option maxRecDepth 4000 in
set_option maxHeartbeats 400000 in
theorem refWord_any (A : Option Addr) (l : Bs) (c : Nat) (w : World) (h : Byt w A l) (h4 : 4 ≤ l.length) (hlc : l.length ≤ c) :
    Calls Try.prog 31 #[.slice A l.length c] w fun e w' => e = .returned (.int .u32 (word l : Nat)) ∧ ∃ n, w' = w.drewN n := by
  rcases h with h | ⟨g, o, rfl, _, hcell⟩
  · subst h; simp at h4
  have hc0 := hcell 0 (by omega)
  have hc1 := hcell 1 (by omega)
  have hc2 := hcell 2 (by omega)
  have hc3 := hcell 3 (by omega)
  have HW : Hid (word l = (l[0]'(by omega)).toNat * 16777216 + (l[1]'(by omega)).toNat * 65536 + (l[2]'(by omega)).toNat * 256 + (l[3]'(by omega)).toNat) := by
    match l, h4 with
    | a :: b :: c :: d :: r, _ => exact Lib.hid rfl
  have h0 := (l[0]'(by omega)).toNat_lt
  have h1 := (l[1]'(by omega)).toNat_lt
  have h2 := (l[2]'(by omega)).toNat_lt
  have h3 := (l[3]'(by omega)).toNat_lt
  have HO := Lib.hid (or_four (l[0]'(by omega)) (l[1]'(by omega)) (l[2]'(by omega)) (l[3]'(by omega)))
  unfold bv at hc0 hc1 hc2 hc3
  rw [Nat.add_zero] at hc0
  generalize l[0]'(by omega) = b0 at *
  generalize l[1]'(by omega) = b1 at *
  generalize l[2]'(by omega) = b2 at *
  generalize l[3]'(by omega) = b3 at *
  clear hcell
  go_enter Try.func31, Try.ntmps31
  go_wp2
  go_quiet (fail)
  go_wp2
  go_ret
  exact ⟨ret_int (HO.out.trans (by rw [HW.out])), nq, rfl⟩
theorem bv_four (n : Nat) (hn : n < 4294967296) : (four n).map bv = [.int .u8 ((n : Int) / 16777216), .int .u8 ((n : Int) / 65536 % 256), .int .u8 ((n : Int) / 256 % 256), .int .u8 ((n : Int) % 256)] := by
  have e : ∀ k : Nat, bv (UInt8.ofNat k) = .int .u8 ((k : Int) % 256) := fun k => by
    unfold bv
    rw [UInt8.toNat_ofNat']
    rfl
  show [bv _, bv _, bv _, bv _] = _
  have e1 : ((n / 16777216 : Nat) : Int) % 256 = (n : Int) / 16777216 := by omega
  rw [e, e, e, e, e1]
  rfl
theorem four_any (n : Nat) (w : World) (hn : n < 4294967296) : Calls Try.prog 32 #[.int .u32 n] w (GivesB w (four n)) := by
  go_enter Try.func32, Try.ntmps32
  go_wp2
  go_ret
  refine ⟨_, rfl, ?_, (Below.refl _ _).alloc (Nat.le_refl _) _⟩
  rw [bv_four n hn]
  exact World.ownsRow_lit (base := w.heap.size) (e := 5) (size := 1) w #[.int .u8 ((n : Int) / 16777216), .int .u8 ((n : Int) / 65536 % 256), .int .u8 ((n : Int) / 256 % 256), .int .u8 ((n : Int) % 256)] 4 (Nat.le_refl _) (by unfold maxLen; omega) rfl

/-- a row with the first bytes of a list written into it from a place on -/
def putL (xs : List Value) (off : Nat) (cs : List Value) : List Value := xs.take off ++ (cs ++ xs.drop (off + cs.length))
theorem putL_nil (xs : List Value) (off : Nat) : putL xs off [] = xs := by simp [putL]
theorem putL_length (xs : List Value) (off : Nat) (cs : List Value) (h : off + cs.length ≤ xs.length) : (putL xs off cs).length = xs.length := by
  simp only [putL, List.length_append, List.length_take, List.length_drop]
  omega
theorem putL_snoc (xs : List Value) (off : Nat) (cs : List Value) (u : Value) (h : off + cs.length < xs.length) : (putL xs off cs).set (off + cs.length) u = putL xs off (cs ++ [u]) := by
  have e1 : xs.drop (off + cs.length) = xs[off + cs.length] :: xs.drop (off + cs.length + 1) := List.drop_eq_getElem_cons h
  unfold putL
  rw [e1, List.set_append, if_neg (by rw [List.length_take]; omega), List.set_append, if_neg (by rw [List.length_take]; omega), List.length_take]
  have e2 : off + cs.length - min off xs.length - cs.length = 0 := by omega
  rw [e2, List.set_cons_zero, List.length_append, List.length_singleton, Nat.add_assoc, List.append_assoc]
  rfl
theorem bv_nat (m j : Nat) : bv (UInt8.ofNat (m / 2 ^ j)) = .int .u8 ((m : Int) / 2 ^ j % 256) := by
  unfold bv
  rw [UInt8.toNat_ofNat']
  congr 1
theorem byte_at (m k : Nat) (hk : k < 4) : (four m)[k]'hk = UInt8.ofNat (m / 2 ^ (8 * (3 - k))) := by
  rcases (show k = 0 ∨ k = 1 ∨ k = 2 ∨ k = 3 by omega) with rfl | rfl | rfl | rfl <;> simp [four]
set_option maxRecDepth 4000 in
set_option maxHeartbeats 400000 in
theorem putWord_any (B g off n cap m : Nat) (xs : List Value) (w : World) (hown : w.ownsRow B 5 1 (.slice (some ⟨g, 0, none⟩) n cap) n xs) (hoff : off + 4 ≤ n) :
    Calls Try.prog 28 #[.slice (some ⟨g, off, none⟩) (n - off) (cap - off), .int .u32 m] w fun e w' => e = .returned (.tuple #[]) ∧ w'.ownsRow B 5 1 (.slice (some ⟨g, 0, none⟩) n cap) n (putL xs off ((four m).map bv)) ∧ w.grownBy w' (some g) := by
  have hlen : xs.length = n := by have := hown.1; omega
  have HL := Lib.hid hlen
  go_enter Try.func28, Try.ntmps28
  go_wp2
  go_loopw [5] (fun i wr => ∃ k : Nat, k ≤ 4 ∧ i = .int .i64 k ∧ wr.ownsRow B 5 1 (.slice (some ⟨g, 0, none⟩) n cap) n (putL xs off (((four m).take k).map bv)) ∧ w.grownBy wr (some g))
    (fun i _ => 4 - (intOf i).toNat)
  case atStart => exact ⟨0, by omega, rfl, by rw [List.take_zero, List.map_nil, putL_nil]; exact hown, World.grownBy.refl w _⟩
  case round =>
    obtain ⟨k, hk, rfl, ho, hg⟩ := hrel
    clear hlen hown
    by_cases hlt : k < 4
    · have hkl : (((four m).take k).map bv).length = k := by rw [List.length_map, List.length_take, four_length]; omega
      have hput := putL_length xs off (((four m).take k).map bv) (by rw [hkl, HL.out]; omega)
      obtain ⟨u0, hcell⟩ : ∃ u0, wr.cell? ⟨g, off + k, none⟩ = some u0 := ⟨_, by
        rw [ho.cellAt (off + k) (by omega), List.getElem?_eq_getElem (by rw [hput, HL.out]; omega)]⟩
      have hfz := ho.frozenAt (off + k)
      have HS := Lib.hid (ho.stored (off + k))
      clear ho hput hkl
      have HR : Hid ((wr.setCell ⟨g, off + k, none⟩ (.int .u8 ((m : Int) / 2 ^ (8 * (3 - k)) % 256))).ownsRow B 5 1 (.slice (some ⟨g, 0, none⟩) n cap) n (putL xs off (((four m).take (k + 1)).map bv)) ∧
          w.grownBy (wr.setCell ⟨g, off + k, none⟩ (.int .u8 ((m : Int) / 2 ^ (8 * (3 - k)) % 256))) (some g)) := by
        have h := HS.out (.int .u8 ((m : Int) / 2 ^ (8 * (3 - k)) % 256))
        refine ⟨?_, hg.trans h.2⟩
        have hkl : (((four m).take k).map bv).length = k := by rw [List.length_map, List.length_take, four_length]; omega
        have hp := putL_snoc xs off (((four m).take k).map bv) (.int .u8 ((m : Int) / 2 ^ (8 * (3 - k)) % 256)) (by rw [hkl, HL.out]; omega)
        rw [hkl] at hp
        have e : ((four m).take (k + 1)).map bv = ((four m).take k).map bv ++ [.int .u8 ((m : Int) / 2 ^ (8 * (3 - k)) % 256)] := by
          rw [take_snoc (four m) k hlt, List.map_append, List.map_singleton, byte_at m k hlt, bv_nat]
        rw [e, ← hp]
        exact h.1
      clear HS
      go_wp2
      go_roundw
      case rel => exact ⟨k + 1, by omega, by go_num, HR.out.1, HR.out.2⟩
      case measure => simp [intOf]; omega
    · obtain rfl : k = 4 := by omega
      have H : Hid (wr.ownsRow B 5 1 (.slice (some ⟨g, 0, none⟩) n cap) n (putL xs off ((four m).map bv)) ∧ w.grownBy wr (some g)) := Lib.hid ⟨ho, hg⟩
      clear ho hg
      go_wp2
      go_end0
      exact ⟨rfl, H.out.1, H.out.2⟩
end Go.Proofs.Ytjjjbjepgieahaa
