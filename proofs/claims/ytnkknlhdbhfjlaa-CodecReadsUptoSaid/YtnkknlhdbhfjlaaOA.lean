/-
  Laid by wip/prune.py out of wip/octets: A B C.
-/
import Derived.Test.YtnkknlhdbhfjlaaOP
import Derived.Test.YtnkknlhdbhfjlaaF
import Derived.WalkKit
import Derived.ProofKit
import Derived.Outline
import Derived.IntWalk
import Derived.BigQuiet
import Derived.BigCall
import Derived.BigGuard
import Derived.Deep.QuietTactic
import Derived.Lib.Hide
import Derived.Lib.Strings
import Derived.Laws.BitsAllLaws
import Derived.Deep.RegionLaw
import Derived.Maps.AppendAt
namespace Go.Proofs.Ytnkknlhdbhfjlaa.O
open Go.RowKit

/-- the address of a slice that reads as bytes -/
def Byt (w : World) (A : Option Addr) (l : Bs) : Prop :=
  l = [] ∨ ∃ g o, A = some ⟨g, o, none⟩ ∧ g < w.heap.size ∧ ∀ j (h : j < l.length), w.cell? ⟨g, o + j, none⟩ = some (bv l[j])
theorem Byt.below {w w' : World} {A : Option Addr} {l : Bs} (h : Byt w A l) (hb : Below w.heap.size w w') : Byt w' A l := by
  rcases h with h | ⟨g, o, rfl, h2, h3⟩
  · exact .inl h
  · exact .inr ⟨g, o, rfl, Nat.lt_of_lt_of_le h2 hb.size, fun j hj => (hb.cell (p := ⟨g, o + j, none⟩) h2).trans (h3 j hj)⟩
theorem Byt.at_ {w : World} {A : Option Addr} {l : Bs} (h : Byt w A l) {k : Nat} (hk : k < l.length) : ∃ g o, A = some ⟨g, o, none⟩ ∧ w.cell? ⟨g, o + k, none⟩ = some (.int .u8 (l[k].toNat : Nat)) := by
  rcases h with h | ⟨g, o, rfl, _, h3⟩
  · subst h; simp at hk
  · exact ⟨g, o, rfl, h3 k hk⟩
theorem Byt.of_own {w : World} {B : Nat} {e : TypeId} {v : Value} {n : Nat} {l : Bs} (h : w.ownsRow B e 1 v n (l.map bv)) : n = l.length ∧ ∃ A c, v = .slice A n c ∧ n ≤ c ∧ Byt w A l := by
  have hl : n = l.length := by have := h.1; simp at this; omega
  refine ⟨hl, ?_⟩
  rcases h.2 with ⟨rfl, h0⟩ | ⟨g, cap, cur, rfl, hb, hg, hc, _⟩
  · subst h0
    exact ⟨_, _, rfl, Nat.le_refl _, .inl (List.eq_nil_of_length_eq_zero hl.symm)⟩
  · refine ⟨_, _, rfl, hc, .inr ⟨g, 0, rfl, (Array.getElem?_eq_some_iff.1 hg).1, fun j hj => ?_⟩⟩
    have hcl := h.cells (g := g) rfl j (bv l[j]) (by simp [hj])
    have hadd : (⟨g, 0, none⟩ : Addr).add j = ⟨g, 0 + j, none⟩ := by unfold Addr.add; split <;> simp_all
    rw [hadd] at hcl
    exact hcl
theorem Byt.take {w : World} {A : Option Addr} {l : Bs} (h : Byt w A l) (n : Nat) : Byt w A (l.take n) := by
  rcases h with h | ⟨g, o, rfl, h2, h3⟩
  · subst h; exact .inl (by simp)
  · exact .inr ⟨g, o, rfl, h2, fun j hj => by
      rw [List.length_take] at hj
      rw [h3 j (by omega), List.getElem_take]⟩
/-- what is cut off ahead: the model leaves the address where nothing is left of the capacity -/
theorem Byt.drop {w : World} {A : Option Addr} {l : Bs} (h : Byt w A l) {k c : Nat} (hk : k ≤ l.length) (hc : l.length ≤ c) : Byt w (if c = k then A else A.map (·.add k)) (l.drop k) := by
  by_cases hz : l.drop k = []
  · exact .inl hz
  · have hlt : k < l.length := by
      rcases Nat.lt_or_ge k l.length with h | h
      · exact h
      · exact absurd (List.drop_eq_nil_of_le h) hz
    rcases h with h | ⟨g, o, rfl, h2, h3⟩
    · subst h; simp at hlt
    · rw [if_neg (by omega)]
      refine .inr ⟨g, o + k, ?_, h2, fun j hj => ?_⟩
      · show some (Addr.add _ k) = _
        unfold Addr.add
        split <;> simp_all
      · rw [List.length_drop] at hj
        rw [Nat.add_assoc, h3 (k + j) (by omega), List.getElem_drop]
/-- what a call that answers new bytes leaves -/
def GivesB (w : World) (l : Bs) (e : Ending) (w' : World) : Prop := ∃ v, e = .returned v ∧ w'.ownsRow w.heap.size 5 1 v l.length (l.map bv) ∧ Below w.heap.size w w'
/-- append of a literal onto a row of the call's own: what it leaves, in two words -/
theorem app_lit {P : Program} (w : World) {ops : Array Oper} {rest : List Oper} {o : Oper} {a : Act} {Q : Exit → Act → World → Prop} (hgd : o.guard = none) (s x : Operand) (t : TypeId)
    (ho : o.op = .call { callee := .builtin .append, args := #[s, x], argTypes := #[t, t] })
    (base : Nat) (e : TypeId) (i : TypeInfo) (z : Value) (bytes : Nat) (ht : P.underlying t = some (.slice e)) (hi : P.info? e = some i) (hz : i.zero = some z)
    (hsize : i.size = 1) (hby : i.bytes = bytes) (hzs : z.cells.size = 1)
    (v : Value) (n : Nat) (xs : List Value) (hs : a.eval s = v) (hown : w.ownsRow base e 1 v n xs)
    (arr : Array Value) (m : Nat) (hx : a.eval x = .slice (some ⟨w.heap.size, 0, none⟩) m m) (hm : arr.size = m) (h1 : ∀ u ∈ arr.toList, u.oneCell' = true)
    (h63 : n + m ≤ maxLen) (hbytes : (n + m) * bytes ≤ 140737488355328) (hbase : base ≤ w.heap.size)
    (h : ∀ v' w', w'.ownsRow base e 1 v' (n + m) (xs ++ arr.toList) → Below base w w' → wpList P ops Q rest (a.put o.dst v') w') : wpList P ops Q (o :: rest) a (w.alloc (.cells arr e)) := by
  refine wpList_append_own _ hgd s x t ho base e i z 1 bytes ht hi hz hsize hby hzs (by decide) v n xs hs (hown.alloc _) ⟨w.heap.size, 0, none⟩ m m arr.toList hx (by simpa using hm) ?_ h1 h63 hbytes (by simp; omega) ?_
  · intro j u hj
    have hadd : (⟨w.heap.size, 0, none⟩ : Addr).add j = ⟨w.heap.size, j, none⟩ := by unfold Addr.add; split <;> simp_all
    rw [hadd, World.cell?_alloc_at _ _ _ _ rfl]
    simpa using hj
  · intro v' w' hown' hg _
    refine h v' w' hown' ?_
    refine ((Below.refl base w).alloc hbase _).grown hg (by simp; omega) ?_
    intro k hk
    exact ((hown.alloc (.cells arr e)).lt k hk).1
theorem or_more_plain (a : Nat) (h : a < 256) : a ||| 128 = a % 128 + 128 := by
  have e1 : 128 ||| a % 128 = 128 + a % 128 := nat_join 7 128 (a % 128) (by decide) (by omega)
  have e2 : 128 * (a / 128) ||| a % 128 = 128 * (a / 128) + a % 128 := nat_join 7 _ _ (by omega) (by omega)
  have e3 : a = 128 * (a / 128) ||| a % 128 := by rw [e2]; omega
  have e4 : 128 * (a / 128) ||| 128 = 128 := by
    rcases (show a / 128 = 0 ∨ a / 128 = 1 by omega) with h | h <;> rw [h] <;> decide
  have e5 : a ||| 128 = (128 * (a / 128) ||| 128) ||| a % 128 := by
    rw [Nat.or_assoc, Nat.or_comm 128, ← Nat.or_assoc, ← e3]
  rw [e5, e4, e1]
  omega
theorem or_more (m : Nat) : bits .or .u8 ((m : Int) % 256) 128 = ((UInt8.ofNat (m % 128 + 128)).toNat : Int) := by
  have h := or_more_plain (m % 256) (by omega)
  have h2 := u8_or_nat (m % 256) 128 (by omega) (by decide)
  rw [ofNat_small (by omega)]
  have e : ((m % 256 : Nat) : Int) = (m : Int) % 256 := by omega
  rw [e] at h2
  refine h2.trans ?_
  rw [show m % 256 ||| 128 = m % 256 % 128 + 128 from h]
  omega
theorem last_byte (m : Nat) (h : m < 128) : ((UInt8.ofNat m).toNat : Int) = (m : Int) := by rw [ofNat_small (by omega)]
theorem last_wrap (m : Nat) (h : m < 128) : IntKind.u8.wrap (m : Int) = (m : Int) := by rw [IntKind.wrap_u8']; omega
theorem numG_step {f m : Nat} (h : 128 ≤ m) (hf : m < lim f) : ∃ g, f = g + 1 ∧ m / 128 < lim g ∧ numG f m = UInt8.ofNat (m % 128 + 128) :: numG g (m / 128) := by
  cases f with
  | zero => rw [lim_zero] at hf; omega
  | succ g =>
    rw [lim_succ] at hf
    exact ⟨g, rfl, by omega, numG_big h⟩
set_option maxRecDepth 4000 in
set_option maxHeartbeats 400000 in
theorem num_any (n : Nat) (w : World) (hn : n < lim 9) :
    Calls Try.prog 47 #[.int .u64 n] w (GivesB w (num n)) := by
  obtain ⟨i0, hi, hz0, hz1, hz2⟩ := info_parts info5
  have HN : Hid (n < lim 9) := Lib.hid hn
  clear hn
  go_enter Try.func47, Try.ntmps47
  go_wp2_with (at_make; refine wpList_make_own _ rfl _ _ 27 (by rfl) w.heap.size 5 i0 _ 1 Try.underlying27 hi hz0 hz1 .i64 .i64 _ 10 (by rfl) (by rfl) ?c1 ?c2 ?c3 (Nat.le_refl _) ?_)
  case c1 => omega
  case c2 => rw [hz2]; omega
  case c3 => unfold maxLen; omega
  intro w1 hown1 hg1
  have hb1 : Below w.heap.size w w1 := (Below.refl _ _).grown hg1 (Nat.le_refl _) (by intro k hk; cases hk)
  clear hg1
  obtain ⟨v1, hv1⟩ : ∃ v1, v1 = Value.slice (some ⟨w.heap.size, 0, none⟩) 0 10 := ⟨_, rfl⟩
  rw [← hv1] at hown1 ⊢
  clear hv1
  go_wp2
  go_loopw [3, 0] (fun v x wr => ∃ (f m : Nat) (pre : Bs), x = .int .u64 m ∧ Hid (m < lim f) ∧ pre.length + f = 9 ∧ wr.ownsRow w.heap.size 5 1 v pre.length (pre.map bv) ∧ Hid (num n = pre ++ numG f m) ∧ Below w.heap.size w wr)
    (fun _ x _ => (intOf x).toNat)
  case atStart => exact ⟨9, n, [], rfl, HN, rfl, hown1, rfl, hb1⟩
  case round =>
    obtain ⟨f, m, pre, rfl, hf, hpf, hown, hq, hb⟩ := hrel
    clear hown1 hb1
    have hl : pre.length ≤ 9 := by omega
    have HP := Lib.hid hpf
    clear hpf
    by_cases hlt : 128 ≤ m
    · obtain ⟨g, rfl, hg, hG⟩ := numG_step hlt hf.out
      have hO := or_more m
      have HG := Lib.hid hg
      have HQ : Hid (num n = (pre ++ [UInt8.ofNat (m % 128 + 128)]) ++ numG g (m / 128)) := by
        rw [hq.out, hG]
        exact Lib.hid (by simp)
      clear hg hG
      go_wp2_with (at_builtin; refine app_lit _ rfl _ _ 27 (by rfl) w.heap.size 5 i0 _ 1 Try.underlying27 hi hz0 hz1 hz2 rfl _ _ _ (by rfl) hown _ 1 (by rfl) rfl ?c1 ?c2 ?c3 hb.size ?_)
      case c1 => rfl
      case c2 => unfold maxLen; omega
      case c3 => omega
      intro v' w' hown' hb'
      have H : Hid (w'.ownsRow w.heap.size 5 1 v' (pre ++ [UInt8.ofNat (m % 128 + 128)]).length ((pre ++ [UInt8.ofNat (m % 128 + 128)]).map bv) ∧ Below w.heap.size w w') := by
        refine ⟨?_, hb.trans hb'⟩
        rw [List.map_append, List.length_append]
        exact hown'
      clear hown' hb' hown hb
      go_wp2
      go_roundw
      case rel => exact ⟨g, m / 128, pre ++ [UInt8.ofNat (m % 128 + 128)], by go_num, HG, by have := HP.out; simp; omega, H.out.1, HQ, H.out.2⟩
      case measure => simp [intOf]; omega
    · have HQ : Hid (num n = pre ++ [UInt8.ofNat m]) := by
        rw [hq.out, numG_small (by omega)]
        exact Lib.hid rfl
      have hW := last_wrap m (by omega)
      have HW := Lib.hid (last_byte m (by omega))
      go_wp2_with (at_builtin; refine app_lit _ rfl _ _ 27 (by rfl) w.heap.size 5 i0 _ 1 Try.underlying27 hi hz0 hz1 hz2 rfl _ _ _ (by rfl) hown _ 1 (by rfl) rfl ?c1 ?c2 ?c3 hb.size ?_)
      case c1 => rfl
      case c2 => unfold maxLen; omega
      case c3 => omega
      intro v' w' hown' hb'
      have H : Hid (w'.ownsRow w.heap.size 5 1 v' (num n).length ((num n).map bv) ∧ Below w.heap.size w w') := by
        refine ⟨?_, hb.trans hb'⟩
        rw [HQ.out, List.map_append, List.length_append, List.map_singleton]
        unfold bv
        rw [HW.out]
        exact hown'
      clear hown' hb' hown hb
      go_wp2
      go_ret
      exact ⟨_, rfl, H.out.1, H.out.2⟩
end Go.Proofs.Ytnkknlhdbhfjlaa.O
