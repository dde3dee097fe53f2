/-
  MEMORY: slices that read as bytes; sumOf, Sum, the reference's Sum, by contract.
-/
import Derived.Test.YtjjjbjepgieahaaA
import Derived.Deep.RegionLaw
import Derived.Maps.AppendAt
namespace Go.Proofs.Ytjjjbjepgieahaa
open Go.RowKit

/-- the address of a slice that reads as bytes -/
def Byt (w : World) (A : Option Addr) (l : Bs) : Prop :=
  l = [] ∨ ∃ g o, A = some ⟨g, o, none⟩ ∧ g < w.heap.size ∧ ∀ j (h : j < l.length), w.cell? ⟨g, o + j, none⟩ = some (bv l[j])
theorem Byt.nil (w : World) (A : Option Addr) : Byt w A [] := .inl rfl
theorem Byt.below {w w' : World} {A : Option Addr} {l : Bs} (h : Byt w A l) (hb : Below w.heap.size w w') : Byt w' A l := by
  rcases h with h | ⟨g, o, rfl, h2, h3⟩
  · exact .inl h
  · exact .inr ⟨g, o, rfl, Nat.lt_of_lt_of_le h2 hb.size, fun j hj => (hb.cell (p := ⟨g, o + j, none⟩) h2).trans (h3 j hj)⟩
theorem Byt.at_ {w : World} {A : Option Addr} {l : Bs} (h : Byt w A l) {k : Nat} (hk : k < l.length) : ∃ g o, A = some ⟨g, o, none⟩ ∧ w.cell? ⟨g, o + k, none⟩ = some (.int .u8 (l[k].toNat : Nat)) := by
  rcases h with h | ⟨g, o, rfl, _, h3⟩
  · subst h; simp at hk
  · exact ⟨g, o, rfl, h3 k hk⟩
theorem Byt.of_own {w : World} {B : Nat} {e : TypeId} {v : Value} {n : Nat} {l : Bs} (h : w.ownsRow B e 1 v n (l.map bv)) : n = l.length ∧ ∃ A c, v = .slice A n c ∧ n ≤ c ∧ Byt w A l := by
  have hl : n = l.length := by have := h.1; simp at this; omega
  refine ⟨hl, ?_⟩
  rcases h.2 with ⟨rfl, h0⟩ | ⟨g, cap, cur, rfl, hb, hg, hc, _⟩
  · subst h0
    exact ⟨_, _, rfl, Nat.le_refl _, .inl (List.eq_nil_of_length_eq_zero hl.symm)⟩
  · refine ⟨_, _, rfl, hc, .inr ⟨g, 0, rfl, (Array.getElem?_eq_some_iff.1 hg).1, fun j hj => ?_⟩⟩
    have hcl := h.cells (g := g) rfl j (bv l[j]) (by simp [hj])
    have hadd : (⟨g, 0, none⟩ : Addr).add j = ⟨g, 0 + j, none⟩ := by unfold Addr.add; split <;> simp_all
    rw [hadd] at hcl
    exact hcl
theorem Byt.take {w : World} {A : Option Addr} {l : Bs} (h : Byt w A l) (n : Nat) : Byt w A (l.take n) := by
  rcases h with h | ⟨g, o, rfl, h2, h3⟩
  · subst h; exact .inl (by simp)
  · exact .inr ⟨g, o, rfl, h2, fun j hj => by
      rw [List.length_take] at hj
      rw [h3 j (by omega), List.getElem_take]⟩
/-- what is cut off ahead: the model leaves the address where nothing is left of the capacity -/
theorem Byt.drop {w : World} {A : Option Addr} {l : Bs} (h : Byt w A l) {k c : Nat} (hk : k ≤ l.length) (hc : l.length ≤ c) : Byt w (if c = k then A else A.map (·.add k)) (l.drop k) := by
  by_cases hz : l.drop k = []
  · exact .inl hz
  · have hlt : k < l.length := by
      rcases Nat.lt_or_ge k l.length with h | h
      · exact h
      · exact absurd (List.drop_eq_nil_of_le h) hz
    rcases h with h | ⟨g, o, rfl, h2, h3⟩
    · subst h; simp at hlt
    · rw [if_neg (by omega)]
      refine .inr ⟨g, o + k, ?_, h2, fun j hj => ?_⟩
      · show some (Addr.add _ k) = _
        unfold Addr.add
        split <;> simp_all
      · rw [List.length_drop] at hj
        rw [Nat.add_assoc, h3 (k + j) (by omega), List.getElem_drop]
theorem take_snoc (l : Bs) (k : Nat) (h : k < l.length) : l.take (k + 1) = l.take k ++ [l[k]] := List.take_succ_eq_append_getElem h

/-- a slice of bytes, as it lies in a cell -/
structure Part where
  A : Option Addr
  c : Nat
  l : Bs
def Part.v (p : Part) : Value := .slice p.A p.l.length p.c
/-- the cells of block g are slices that read as bytes -/
def Parts (w : World) (g : Nat) (ps : List Part) : Prop :=
  (∀ j (h : j < ps.length), w.cell? ⟨g, j, none⟩ = some (ps[j]).v) ∧ ∀ p ∈ ps, Byt w p.A p.l ∧ p.l.length ≤ 9223372036854775807

/-- the checksum of the first parts -/
def crcP (ps : List Part) : Nat := crcL 4294967295 (ps.flatMap (·.l))
theorem crcP_lt (ps : List Part) : crcP ps < 4294967296 := crcL_lt _ (by decide)
theorem crcP_snoc (ps : List Part) (k : Nat) (h : k < ps.length) : crcP (ps.take (k + 1)) = crcL (crcP (ps.take k)) (ps[k]).l := by
  unfold crcP
  rw [List.take_succ_eq_append_getElem h, List.flatMap_append, crcL_append]
  simp
theorem not_u32 (m : Nat) (h : m < 4294967296) : bits .xor .u32 IntKind.u32.max (m : Int) = ((4294967295 - m : Nat) : Int) := by
  have e : BitVec.ofInt 32 IntKind.u32.max = BitVec.allOnes 32 := by decide
  show IntKind.u32.wrap ((BitVec.ofInt 32 IntKind.u32.max ^^^ BitVec.ofInt 32 (m : Int)).toNat : Int) = _
  rw [e, BitVec.allOnes_xor, BitVec.toNat_not, ofInt_u32 m h, IntKind.wrap_u32']
  omega

set_option maxHeartbeats 1000000 in
theorem sumOf_any (g : Nat) (ps : List Part) (w : World) (h : Parts w g ps) (hn : ps.length ≤ 2) :
    Calls Try.prog 29 #[.slice (some ⟨g, 0, none⟩) ps.length ps.length] w fun e w' => e = .returned (.int .u32 (sum (ps.flatMap (·.l)) : Nat)) ∧ w = w' := by
  have HC := Lib.hid h.1
  have HB := Lib.hid h.2
  clear h
  have h0 : Hid (4294967295 = crcP (ps.take 0)) := Lib.hid rfl
  go_enter Try.func29, Try.ntmps29
  go_wp2
  go_loop [3, 10] (fun v i => ∃ k m : Nat, k ≤ ps.length ∧ i = .int .i64 k ∧ v = .int .u32 m ∧ m < 4294967296 ∧ Hid (m = crcP (ps.take k)))
    (fun _ i => ps.length - (intOf i).toNat)
  case atStart => exact ⟨0, 4294967295, by omega, rfl, rfl, by decide, h0⟩
  case round =>
    obtain ⟨k, m, hk, rfl, rfl, hm, hr⟩ := hrel
    by_cases hlt : k < ps.length
    · have hc := HC.out k hlt
      obtain ⟨hby, hbl⟩ := HB.out _ (List.getElem_mem hlt)
      have HR := Lib.hid (crcP_snoc ps k hlt)
      unfold Part.v at hc
      generalize ps[k] = p at *
      have HY := Lib.hid hby
      clear hby h0
      go_wp2
      go_loop [3, 16] (fun v i => ∃ j n : Nat, j ≤ p.l.length ∧ i = .int .i64 j ∧ v = .int .u32 n ∧ n < 4294967296 ∧ Hid (n = crcL m (p.l.take j)))
        (fun _ i => p.l.length - (intOf i).toNat)
      case atStart => exact ⟨0, m, by omega, rfl, rfl, hm, Lib.hid rfl⟩
      case round =>
        obtain ⟨j, n, hj, rfl, rfl, hn1, hr1⟩ := hrel
        by_cases hlt1 : j < p.l.length
        · obtain ⟨b, o, hA, hcell⟩ := HY.out.at_ hlt1
          have HT : Hid (crcB n (p.l[j]) = crcL m (p.l.take (j + 1))) := by
            rw [take_snoc _ _ hlt1, crcL_snoc, ← hr1.out]
            exact Lib.hid rfl
          have hl := crcB_lt (p.l[j]) hn1
          rw [hA] at *
          go_wp2_with fail
          refine (sumWith_any n _ _ hn1).mono ?_
          rintro e w' ⟨rfl, rfl⟩
          go_wp2
          go_round
          case rel => exact ⟨j + 1, _, by omega, by go_num, rfl, hl, HT⟩
          case measure => simp [intOf]; omega
        · have HT : Hid (n = crcP (ps.take (k + 1))) := by
            rw [HR.out, hr1.out, List.take_of_length_le (by omega), hr.out]
            exact Lib.hid rfl
          go_wp2
          go_round
          case rel => exact ⟨k + 1, n, by omega, by go_num, rfl, hn1, HT⟩
          case measure => simp [intOf]; omega
    · have HN := Lib.hid (not_u32 m hm)
      have HS : Hid (sum (ps.flatMap (·.l)) = 4294967295 - m) := by
        rw [hr.out, List.take_of_length_le (by omega)]
        exact Lib.hid rfl
      go_wp2
      go_ret
      exact ⟨ret_int (by rw [HS.out]; exact HN.out), rfl⟩

/-- one part laid into a new row -/
theorem parts_one {w : World} {A : Option Addr} {l : Bs} (c : Nat) (t : TypeId) (h : Byt w A l) (hl : l.length ≤ 9223372036854775807) : Parts (w.alloc (.cells #[.slice A l.length c] t)) w.heap.size [⟨A, c, l⟩] := by
  refine ⟨fun j hj => ?_, fun p hp => ?_⟩
  · simp only [List.length_singleton] at hj
    obtain rfl : j = 0 := by omega
    rw [World.cell?_alloc_at _ _ _ _ rfl]
    rfl
  · rw [List.mem_singleton] at hp
    subst hp
    exact ⟨h.below ((Below.refl _ _).alloc (Nat.le_refl _) _), hl⟩
theorem parts_two {w : World} {A B : Option Addr} {l m : Bs} (c d : Nat) (t : TypeId) (h : Byt w A l) (hl : l.length ≤ 9223372036854775807) (h2 : Byt w B m) (hm : m.length ≤ 9223372036854775807) :
    Parts (w.alloc (.cells #[.slice A l.length c, .slice B m.length d] t)) w.heap.size [⟨A, c, l⟩, ⟨B, d, m⟩] := by
  refine ⟨fun j hj => ?_, fun p hp => ?_⟩
  · simp only [List.length_cons, List.length_nil] at hj
    rw [World.cell?_alloc_at _ _ _ _ rfl]
    rcases (show j = 0 ∨ j = 1 by omega) with rfl | rfl <;> rfl
  · rw [List.mem_cons, List.mem_singleton] at hp
    rcases hp with hp | hp
    · subst hp
      exact ⟨h.below ((Below.refl _ _).alloc (Nat.le_refl _) _), hl⟩
    · subst hp
      exact ⟨h2.below ((Below.refl _ _).alloc (Nat.le_refl _) _), hm⟩
theorem sum_any (A : Option Addr) (l : Bs) (c : Nat) (w : World) (h : Byt w A l) (hl : l.length ≤ 9223372036854775807) :
    Calls Try.prog 24 #[.slice A l.length c] w fun e w' => e = .returned (.int .u32 (sum l : Nat)) ∧ Below w.heap.size w w' := by
  have HP := Lib.hid (parts_one c 25 h hl)
  have hs : ∀ w', Parts w' w.heap.size [⟨A, c, l⟩] → Calls Try.prog 29 #[.slice (some ⟨w.heap.size, 0, none⟩) 1 1] w' fun e w'' => e = .returned (.int .u32 (sum l : Nat)) ∧ w' = w'' := fun w' h' => by
    have := sumOf_any w.heap.size [⟨A, c, l⟩] w' h' (by simp)
    simpa using this
  have HS := Lib.hid hs
  clear hs h
  go_enter Try.func24, Try.ntmps24
  go_wp2_with fail
  refine (HS.out _ HP.out).mono ?_
  rintro e w' ⟨rfl, rfl⟩
  go_wp2
  go_ret
  exact ⟨rfl, (Below.refl _ _).alloc (Nat.le_refl _) _⟩

theorem ones_minus (m : Nat) (h : m < 4294967296) : IntKind.u32.wrap (4294967295 - (m : Int)) = ((4294967295 - m : Nat) : Int) := by
  rw [IntKind.wrap_u32']
  omega
set_option maxHeartbeats 1000000 in
theorem refSum_any (A : Option Addr) (l : Bs) (c : Nat) (w : World) (h : Byt w A l) (hl : l.length ≤ 9223372036854775807) :
    Calls Try.prog 25 #[.slice A l.length c] w fun e w' => e = .returned (.int .u32 (sum l : Nat)) ∧ w = w' := by
  have HY := Lib.hid h
  clear h
  go_enter Try.func25, Try.ntmps25
  go_wp2
  go_loop [3, 9] (fun v i => ∃ k m : Nat, k ≤ l.length ∧ i = .int .i64 k ∧ v = .int .u32 m ∧ m < 4294967296 ∧ Hid (m = crcL 4294967295 (l.take k)))
    (fun _ i => l.length - (intOf i).toNat)
  case atStart => exact ⟨0, 4294967295, by omega, rfl, rfl, by decide, Lib.hid rfl⟩
  case round =>
    obtain ⟨k, m, hk, rfl, rfl, hm, hr⟩ := hrel
    by_cases hlt : k < l.length
    · obtain ⟨b, o, hA, hcell⟩ := HY.out.at_ hlt
      have HT : Hid (stps (8 - 0) (m ^^^ (l[k]).toNat) = crcL 4294967295 (l.take (k + 1))) := by
        rw [take_snoc _ _ hlt, crcL_snoc, ← hr.out]
        exact Lib.hid rfl
      have hx := xor_byte m l[k] hm
      have hm0 := xor_lt hm (byte_lt l[k])
      have hc := (l[k]).toNat_lt
      rw [hA] at *
      generalize l[k] = ch at *
      go_wp2
      generalize m ^^^ ch.toNat = m0 at *
      clear hx hcell hc
      go_loop [3, 17] (fun v i => ∃ j n : Nat, j ≤ 8 ∧ i = .int .i64 j ∧ v = .int .u32 n ∧ n < 4294967296 ∧ Hid (stps (8 - 0) m0 = stps (8 - j) n))
        (fun _ i => 8 - (intOf i).toNat)
      case atStart => exact ⟨0, m0, by omega, rfl, rfl, hm0, Lib.hid rfl⟩
      case round =>
        obtain ⟨j, n, hj, rfl, rfl, hn1, hr1⟩ := hrel
        clear hm0
        have hp := xor_poly n hn1
        have hl1 := stp_lt hn1
        by_cases hlt1 : j < 8
        · have HR : Hid (stps (8 - 0) m0 = stps (8 - (j + 1)) (stp n)) := hr1.out.trans (stps_step hlt1)
          by_cases h1 : n % 2 = 1
          · rw [stp_one h1] at HR hl1
            have b1 : ((n : Int) % 2 == 1) = true := by rw [beq_iff_eq]; omega
            clear h1
            go_wp2
            go_round
            case rel => exact ⟨j + 1, n / 2 ^^^ poly, by omega, by go_num, rfl, hl1, HR⟩
            case measure => simp [intOf]; omega
          · rw [stp_none h1] at HR hl1
            have b1 : ((n : Int) % 2 == 1) = false := by rw [beq_eq_false_iff_ne]; omega
            clear h1
            go_wp2
            go_round
            case rel => exact ⟨j + 1, n / 2, by omega, by go_num, by go_num, hl1, HR⟩
            case measure => simp [intOf]; omega
        · obtain rfl : j = 8 := by omega
          have HR : Hid (n = crcL 4294967295 (l.take (k + 1))) := by
            rw [← HT.out, hr1.out]
            exact Lib.hid rfl
          go_wp2
          go_round
          case rel => exact ⟨k + 1, n, by omega, by go_num, rfl, hn1, HR⟩
          case measure => simp [intOf]; omega
    · have HN := Lib.hid (ones_minus m hm)
      have HS : Hid (sum l = 4294967295 - m) := by
        rw [hr.out, List.take_of_length_le (by omega)]
        exact Lib.hid rfl
      go_wp2
      go_ret
      exact ⟨ret_int (by rw [HS.out]; first | exact HN.out | omega), rfl⟩
end Go.Proofs.Ytjjjbjepgieahaa
