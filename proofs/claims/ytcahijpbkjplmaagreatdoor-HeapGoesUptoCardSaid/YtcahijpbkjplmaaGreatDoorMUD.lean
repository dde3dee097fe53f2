/-
 Laid by wip/prune.py out of wip/units: Plain A B.
 Laid by wip/prune.py out of wip/units: C E3.
 Laid by wip/prune.py out of wip/units: D.
 Laid by wip/prune.py out of wip/units: G.
-/
import Derived.Test.YtcahijpbkjplmaaGreatDoorProg
import Derived.Test.YtcahijpbkjplmaaGreatDoorShelf
import Derived.WalkKit
import Derived.ProofKit
import Derived.Outline
import Derived.IntWalk
import Derived.BigQuiet
import Derived.BigCall
import Derived.BigGuard
import Derived.Deep.QuietTactic
import Derived.Lib.Hide
import Derived.Lib.Strings
import Derived.Deep.RegionLaw
import Derived.Maps.AppendAt
set_option linter.unusedSimpArgs false
namespace Go.Proofs.YtcahijpbkjplmaaGreatDoor
open Go.RowKit
abbrev Bs := List UInt8
def us : Bs → List Nat
 | a :: b :: r => (a.toNat * 256 + b.toNat) :: us r
 | _ => []
def bs : List Nat → Bs
 | [] => []
 | n :: r => UInt8.ofNat (n / 256) :: UInt8.ofNat n :: bs r
theorem us_length : ∀ l : Bs, (us l).length = l.length / 2
 | [] => rfl
 | [_] => by simp [us]
 | _ :: _ :: r => by simp [us, us_length r]; omega
theorem us_get : ∀ (l : Bs) (i : Nat) (h : 2 * i + 1 < l.length), (us l)[i]? = some ((l[2 * i]'(by omega)).toNat * 256 + (l[2 * i + 1]'h).toNat)
 | [], i, h => by simp at h
 | [_], i, h => by simp at h
 | a :: b :: r, 0, _ => by simp [us]
 | a :: b :: r, i + 1, h => by
  have h' : 2 * i + 1 < r.length := by simp at h; omega
  have e1 : 2 * (i + 1) = 2 * i + 1 + 1 := by omega
  simp only [us, List.getElem?_cons_succ, us_get r i h', e1, List.getElem_cons_succ]
theorem us_lt : ∀ (l : Bs), ∀ n ∈ us l, n < 65536
 | [], n, h => by simp [us] at h
 | [_], n, h => by simp [us] at h
 | a :: b :: r, n, h => by
  simp only [us, List.mem_cons] at h
  rcases h with rfl | h
  ·have := a.toNat_lt; have := b.toNat_lt; omega
  ·exact us_lt r n h
theorem bs_length : ∀ u : List Nat, (bs u).length = 2 * u.length
 | [] => rfl
 | _ :: r => by simp [bs, bs_length r]; omega
theorem bs_append : ∀ u v : List Nat, bs (u ++ v) = bs u ++ bs v
 | [], _ => rfl
 | _ :: r, v => by simp [bs, bs_append r v]
theorem us_bs : ∀ u : List Nat, (∀ n ∈ u, n < 65536) → us (bs u) = u
 | [], _ => rfl
 | n :: r, h => by
  have hn := h n (by simp)
  have hr := us_bs r (fun m hm => h m (by simp [hm]))
  simp only [bs, us, hr, UInt8.toNat_ofNat']
  congr 1
  omega
def atI (u : List Nat) (i : Int) : Int := if 0 ≤ i ∧ i < u.length then ((u.getD i.toNat 0 : Nat) : Int) else -1
def idxGo : Nat → List Nat → Option Nat
 | acc, [] => some acc
 | acc, c :: r => if 48 ≤ c ∧ c ≤ 57 then idxGo (10 * acc + (c - 48)) r else none
def idx (u : List Nat) : Option Nat := if u.length = 0 ∨ 9 < u.length ∨ (1 < u.length ∧ u.getD 0 0 = 48) then none else idxGo 0 u
theorem ret_int {k : IntKind} {a b : Int} (h : a = b) : Ending.returned (.int k a) = .returned (.int k b) := by rw [h]
theorem ret_bool {a b : Bool} (h : a = b) : Ending.returned (.bool a) = .returned (.bool b) := by rw [h]
theorem below_drewN (B : Nat) (w : World) (n : Nat) : Below B w (w.drewN n) := by
 cases n <;> exact ⟨rfl, rfl, rfl, Nat.le_refl _, fun _ _ => rfl⟩
set_option maxRecDepth 8000 in
theorem len_any (s : ByteArray) (w : World) (hs : s.size ≤ maxLen) :
  Calls Tryz.prog 102 #[.string s] w fun e w' => e = .returned (.int .i64 ((s.size / 2 : Nat) : Int)) ∧ w = w' := by
 unfold maxLen at hs
 go_enter Tryz.func102, Tryz.ntmps102
 go_wp2
 go_ret
 exact ⟨ret_int (by omega), rfl⟩
set_option maxRecDepth 8000 in
theorem at_out (s : ByteArray) (i : Int) (w : World) (hs : s.size ≤ maxLen) (hi : i < 0 ∨ (s.size / 2 : Nat) ≤ i) :
  Calls Tryz.prog 103 #[.string s, .int .i64 i] w fun e w' => e = .returned (.int .i64 (-1)) ∧ w = w' := by
 unfold maxLen at hs
 rcases hi with hi | hi
 ·go_enter Tryz.func103, Tryz.ntmps103
  go_wp2
  all_goals go_ret
  all_goals exact ⟨rfl, rfl⟩
 ·have h0 : 0 ≤ i := by omega
  go_enter Tryz.func103, Tryz.ntmps103
  go_wp2
  all_goals go_ret
  all_goals exact ⟨rfl, rfl⟩
theorem or_bytes (a b : UInt8) : bits .or .i64 (wrap64 (wrap64 (a.toNat : Int) * 256)) (wrap64 (b.toNat : Int)) = ((a.toNat * 256 + b.toNat : Nat) : Int) := by
 have ha := a.toNat_lt
 have hb := b.toNat_lt
 have e1 : wrap64 (wrap64 (a.toNat : Int) * 256) = ((a.toNat * 256 : Nat) : Int) := by unfold wrap64; omega
 have e2 : wrap64 (b.toNat : Int) = ((b.toNat : Nat) : Int) := by unfold wrap64; omega
 rw [e1, e2]
 have hj : a.toNat * 256 ||| b.toNat = a.toNat * 256 + b.toNat := nat_join 8 _ _ (by omega) (by omega)
 show IntKind.i64.wrap ((BitVec.ofInt 64 ((a.toNat * 256 : Nat) : Int) ||| BitVec.ofInt 64 ((b.toNat : Nat) : Int)).toNat : Int) = _
 rw [BitVec.toNat_or, ofInt_u64 _ (by omega), ofInt_u64 _ (by omega), hj, IntKind.wrap_i64]
 omega
set_option maxRecDepth 8000 in
theorem at_in (s : ByteArray) (i : Nat) (w : World) (hs : s.size ≤ maxLen) (hi : i < s.size / 2) :
  Calls Tryz.prog 103 #[.string s, .int .i64 i] w fun e w' => e = .returned (.int .i64 (((s[2 * i]'(by omega)).toNat * 256 + (s[2 * i + 1]'(by omega)).toNat : Nat) : Int)) ∧ Below w.heap.size w w' := by
 unfold maxLen at hs
 have h1 : 2 * i + 1 < s.size := by omega
 have e1 : IntKind.i64.wrap (2 * (i : Int)) = 2 * (i : Int) := IntWalk.i64_in _ (by omega)
 have e2 : IntKind.i64.wrap (2 * (i : Int) + 1) = 2 * (i : Int) + 1 := IntWalk.i64_in _ (by omega)
 have e3 : (2 * (i : Int)).toNat = 2 * i := by omega
 have e4 : (2 * (i : Int) + 1).toNat = 2 * i + 1 := by omega
 have e5 : 0 ≤ 2 * (i : Int) := by omega
 have e6 : 0 ≤ 2 * (i : Int) + 1 := by omega
 have e7 : 2 * (i : Int) < s.size := by omega
 have e8 : 2 * (i : Int) + 1 < s.size := by omega
 go_enter Tryz.func103, Tryz.ntmps103
 go_wp2
 go_quiet (fail)
 go_wp2
 go_ret
 exact ⟨ret_int (or_bytes _ _), below_drewN _ _ _⟩
theorem size_list (s : ByteArray) : s.data.toList.length = s.size := (Lib.size_eq s).symm
theorem get_list (s : ByteArray) (i : Nat) (h : i < s.size) : s[i] = s.data.toList[i]'(by rw [size_list]; exact h) := rfl
def atOf (s : ByteArray) (i : Int) : Int := atI (us s.data.toList) i
theorem at_any (s : ByteArray) (i : Int) (w : World) (hs : s.size ≤ maxLen) :
  Calls Tryz.prog 103 #[.string s, .int .i64 i] w fun e w' => e = .returned (.int .i64 (atOf s i)) ∧ Below w.heap.size w w' := by
 have hl := size_list s
 by_cases h : 0 ≤ i ∧ i < (s.size / 2 : Nat)
 ·obtain ⟨k, rfl⟩ := Int.eq_ofNat_of_zero_le h.1
  have hk : k < s.size / 2 := by omega
  have e : atOf s k = (((s[2 * k]'(by omega)).toNat * 256 + (s[2 * k + 1]'(by omega)).toNat : Nat) : Int) := by
   unfold atOf atI
   rw [if_pos ⟨h.1, by rw [us_length, hl]; exact h.2⟩, List.getD_eq_getElem?_getD, Int.toNat_natCast, us_get _ _ (by omega)]
   rfl
  rw [e]
  exact at_in s k w hs hk
 ·have e : atOf s i = -1 := by
   unfold atOf atI
   rw [if_neg (by rw [us_length, hl]; exact h)]
  rw [e]
  exact (at_out s i w hs (by omega)).mono fun e w' ⟨h1, h2⟩ => ⟨h1, h2 ▸ Below.refl _ _⟩
theorem info5 : (Tryz.prog.info? 5).map (fun i => (i.zero, i.size, i.bytes)) = some (some (.int .u8 0), 1, 1) := by kernel_rfl
theorem info3 : (Tryz.prog.info? 3).map (fun i => (i.zero, i.size, i.bytes)) = some (some (.int .i64 0), 1, 8) := by kernel_rfl
def bv (b : UInt8) : Value := .int .u8 b.toNat
def nv (n : Nat) : Value := .int .i64 n
theorem wrap_hi (n : Nat) (hn : n < 65536) : ((UInt8.ofNat (n / 256)).toNat : Int) = (n : Int) / 256 := by
 rw [UInt8.toNat_ofNat']; omega
theorem wrap_lo (n : Nat) : ((UInt8.ofNat n).toNat : Int) = (n : Int) % 256 := by
 rw [UInt8.toNat_ofNat']; omega
theorem app_lit {P : Program} (w : World) {ops : Array Oper} {rest : List Oper} {o : Oper} {a : Act} {Q : Exit → Act → World → Prop} (hgd : o.guard = none) (s x : Operand) (t : TypeId)
  (ho : o.op = .call { callee := .builtin .append, args := #[s, x], argTypes := #[t, t] })
  (base : Nat) (e : TypeId) (i : TypeInfo) (z : Value) (bytes : Nat) (ht : P.underlying t = some (.slice e)) (hi : P.info? e = some i) (hz : i.zero = some z)
  (hsize : i.size = 1) (hby : i.bytes = bytes) (hzs : z.cells.size = 1)
  (v : Value) (n : Nat) (xs : List Value) (hs : a.eval s = v) (hown : w.ownsRow base e 1 v n xs)
  (arr : Array Value) (m : Nat) (hx : a.eval x = .slice (some ⟨w.heap.size, 0, none⟩) m m) (hm : arr.size = m) (h1 : ∀ u ∈ arr.toList, u.oneCell' = true)
  (h63 : n + m ≤ maxLen) (hbytes : (n + m) * bytes ≤ 140737488355328) (hbase : base ≤ w.heap.size)
  (h : ∀ v' w', w'.ownsRow base e 1 v' (n + m) (xs ++ arr.toList) → Below base w w' → wpList P ops Q rest (a.put o.dst v') w') : wpList P ops Q (o :: rest) a (w.alloc (.cells arr e)) := by
 refine wpList_append_own _ hgd s x t ho base e i z 1 bytes ht hi hz hsize hby hzs (by decide) v n xs hs (hown.alloc _) ⟨w.heap.size, 0, none⟩ m m arr.toList hx (by simpa using hm) ?_ h1 h63 hbytes (by simp; omega) ?_
 ·intro j u hj
  have hadd : (⟨w.heap.size, 0, none⟩ : Addr).add j = ⟨w.heap.size, j, none⟩ := by unfold Addr.add; split <;> simp_all
  rw [hadd, World.cell?_alloc_at _ _ _ _ rfl]
  simpa using hj
 ·intro v' w' hown' hg _
  refine h v' w' hown' ?_
  refine ((Below.refl base w).alloc hbase _).grown hg (by simp; omega) ?_
  intro k hk
  exact ((hown.alloc (.cells arr e)).lt k hk).1
theorem step_app {P : Program} (W : World) {ops : Array Oper} {o : Oper} {a : Act} {K : Act → World → Prop} {Q : Exit → Act → World → Prop} {E : Prop} (hgd : o.guard = none) (s x : Operand) (t : TypeId)
  (ho : o.op = .call { callee := .builtin .append, args := #[s, x], argTypes := #[t, t] })
  (base : Nat) (e : TypeId) (i : TypeInfo) (z : Value) (bytes : Nat) (ht : P.underlying t = some (.slice e)) (hi : P.info? e = some i) (hz : i.zero = some z)
  (hsize : i.size = 1) (hby : i.bytes = bytes) (hzs : z.cells.size = 1)
  (v : Value) (n : Nat) (xs : List Value) (hs : a.eval s = v) (hown : W.ownsRow base e 1 v n xs)
  (g : Nat) (arr : Array Value) (m : Nat) (hx : a.eval x = .slice (some ⟨g, 0, none⟩) m m) (hm : arr.size = m) (hnews : ∀ j u, arr[j]? = some u → W.cell? ⟨g, j, none⟩ = some u) (h1 : ∀ u ∈ arr.toList, u.oneCell' = true)
  (h63 : n + m ≤ maxLen) (hbytes : (n + m) * bytes ≤ 140737488355328) (hbase : base ≤ W.heap.size)
  (h : ∀ v' w', w'.ownsRow base e 1 v' (n + m) (xs ++ arr.toList) → Below base W w' → K (a.put o.dst v') w') : if Region.wanted o (yielded ops a.tmps) = true then Oper.wp P o a W K Q else E := by
 have hw : Region.wanted o (yielded ops a.tmps) = true := by simp [Region.wanted, hgd]
 rw [if_pos hw]
 refine wp_append_own W s x t ho base e i z 1 bytes ht hi hz hsize hby hzs (by decide) v n xs hs hown ⟨g, 0, none⟩ m m arr.toList hx (by simpa using hm) ?_ h1 h63 hbytes hbase ?_
 ·intro j u hj
  have hadd : (⟨g, 0, none⟩ : Addr).add j = ⟨g, j, none⟩ := by unfold Addr.add; split <;> simp_all
  rw [hadd]
  exact hnews j u (by simpa using hj)
 ·intro v' w' hown' hg _
  exact h v' w' hown' ((Below.refl base W).grown hg hbase fun k hk => (hown.lt k hk).1)
theorem new_cells (w : World) (arr : Array Value) (e : TypeId) (j : Nat) (u : Value) (h : arr[j]? = some u) : (w.alloc (.cells arr e)).cell? ⟨w.heap.size, j, none⟩ = some u := by
 rw [World.cell?_alloc_at _ _ _ _ rfl]
 simpa using h
set_option maxRecDepth 8000 in
theorem appendUnit_any (B : Nat) (v : Value) (n : Nat) (xs : List Value) (u : Nat) (w : World) (hown : w.ownsRow B 5 1 v n xs) (hu : u < 65536) (hn : n ≤ 140737488355320) (hB : B ≤ w.heap.size) :
  Calls Tryz.prog 97 #[v, .int .i64 u] w fun e w' => ∃ v', e = .returned v' ∧ w'.ownsRow B 5 1 v' (n + 2) (xs ++ [bv (UInt8.ofNat (u / 256)), bv (UInt8.ofNat u)]) ∧ Below B w w' := by
 obtain ⟨i0, hi, hz0, hz1, hz2⟩ := info_parts info5
 have E1 := Lib.hid (wrap_hi u hu)
 have E2 := Lib.hid (wrap_lo u)
 go_enter Tryz.func97, Tryz.ntmps97
 go_wp2_with (at_builtin; refine app_lit _ rfl _ _ 117 (by rfl) B 5 i0 _ 1 Tryz.underlying117 hi hz0 hz1 hz2 rfl _ _ _ (by rfl) hown _ 2 (by rfl) rfl ?c1 ?c2 ?c3 hB ?_)
 case c1 => exact ⟨rfl, rfl⟩
 case c2 => unfold maxLen; omega
 case c3 => omega
 intro v' w' hown' hb
 go_wp2
 go_ret
 refine ⟨_, rfl, ?_, hb⟩
 unfold bv
 rw [E1.out, E2.out]
 exact hown'
theorem us_snoc (s : ByteArray) (k : Nat) (h : 2 * k + 1 < s.size) : (us s.data.toList).take (k + 1) = (us s.data.toList).take k ++ [(s[2 * k]'(by omega)).toNat * 256 + (s[2 * k + 1]'h).toNat] := by
 rw [List.take_add_one, us_get _ _ (by rw [size_list]; exact h)]
 rfl
theorem ref_unit (a b : UInt8) : IntKind.i64.wrap (IntKind.i64.wrap (IntKind.i64.wrap (a.toNat : Int) * 256) + IntKind.i64.wrap (b.toNat : Int)) = ((a.toNat * 256 + b.toNat : Nat) : Int) := by
 have ha := a.toNat_lt
 have hb := b.toNat_lt
 simp only [IntKind.wrap_i64]
 omega
def RowN (w : World) (B : Nat) (A : Option Addr) (xs : List Nat) : Prop :=
 xs = [] ∨ ∃ g, A = some ⟨g, 0, none⟩ ∧ B ≤ g ∧ g < w.heap.size ∧ ∀ j (h : j < xs.length), w.cell? ⟨g, j, none⟩ = some (nv xs[j])
theorem RowN.of_own {w : World} {B : Nat} {e : TypeId} {v : Value} {n : Nat} {xs : List Nat} (h : w.ownsRow B e 1 v n (xs.map nv)) : n = xs.length ∧ ∃ A c, v = .slice A n c ∧ RowN w B A xs := by
 have hl : n = xs.length := by have := h.1; simp at this; omega
 refine ⟨hl, ?_⟩
 rcases h.2 with ⟨rfl, h0⟩ | ⟨g, cap, cur, rfl, hb, hg, _⟩
 ·subst h0
  exact ⟨_, _, rfl, .inl (List.eq_nil_of_length_eq_zero hl.symm)⟩
 ·refine ⟨_, _, rfl, .inr ⟨g, rfl, hb, (Array.getElem?_eq_some_iff.1 hg).1, fun j hj => ?_⟩⟩
  have hc := h.cells (g := g) rfl j (nv xs[j]) (by simp [hj])
  have hadd : (⟨g, 0, none⟩ : Addr).add j = ⟨g, j, none⟩ := by unfold Addr.add; split <;> simp_all
  rw [hadd] at hc
  exact hc
def GivesN (w : World) (xs : List Nat) (e : Ending) (w' : World) : Prop := ∃ A c, e = .returned (.slice A xs.length c) ∧ RowN w' w.heap.size A xs ∧ Below w.heap.size w w'
set_option maxRecDepth 8000 in
theorem list_any (s : ByteArray) (w : World) (hs : s.size ≤ 16777216) :
  Calls Tryz.prog 99 #[.string s] w (GivesN w (us s.data.toList)) := by
 obtain ⟨i0, hi, hz0, hz1, hz2⟩ := info_parts info3
 go_enter Tryz.func99, Tryz.ntmps99
 go_wp2
 go_loopw [3, 4] (fun v i wr => ∃ k : Nat, 2 * k ≤ s.size ∧ i = .int .i64 (2 * (k : Int)) ∧ wr.ownsRow w.heap.size 3 1 v k (((us s.data.toList).take k).map nv) ∧ Below w.heap.size w wr)
  (fun _ i _ => s.size - (intOf i).toNat)
 case atStart => exact ⟨0, by omega, rfl, World.ownsRow_nil _ _ _ _, Below.refl _ _⟩
 case round =>
  obtain ⟨k, hk, rfl, hown, hb⟩ := hrel
  have hbz := hb.size
  have e2 : IntKind.i64.wrap (2 * (k : Int) + 1) = 2 * (k : Int) + 1 := IntWalk.i64_in _ (by omega)
  have e3 : (2 * (k : Int)).toNat = 2 * k := by omega
  have e4 : (2 * (k : Int) + 1).toNat = 2 * k + 1 := by omega
  have e5 : 0 ≤ 2 * (k : Int) := by omega
  have e6 : 0 ≤ 2 * (k : Int) + 1 := by omega
  by_cases hlt : 2 * k + 1 < s.size
  ·have e7 : 2 * (k : Int) < s.size := by omega
   have e8 : 2 * (k : Int) + 1 < s.size := by omega
   have hm1 : k + 1 ≤ maxLen := by unfold maxLen; omega
   have hm2 : (k + 1) * 8 ≤ 140737488355328 := by omega
   go_wp2
   go_region_law ((refine step_app _ rfl (.tmp 12) (.tmp 24) 112 (by rfl) w.heap.size 3 i0 _ 8 Tryz.underlying112 hi hz0 hz1 hz2 rfl _ k _ (by rfl) (hown.alloc _) _ _ 1 (by rfl) rfl (new_cells _ _ _) (by simp; rfl) hm1 hm2 (by simp; omega) ?_; intro v' w' hown' hb'))
   all_goals
    have H : Hid (w'.ownsRow w.heap.size 3 1 v' (k + 1) (((us s.data.toList).take (k + 1)).map nv) ∧ Below w.heap.size w w') := by
     refine ⟨?_, (hb.alloc hbz _).drew.trans hb'⟩
     rw [us_snoc s k hlt, List.map_append, List.map_singleton]
     rw [ref_unit] at hown'
     exact hown'
    clear hown' hb' hown hb
    go_wp2
    go_roundw
    case rel => exact ⟨k + 1, by omega, by go_num, H.out.1, H.out.2⟩
    case measure => simp [intOf]; omega
  ·have HE : Hid ((us s.data.toList).take k = us s.data.toList) := Lib.hid (List.take_of_length_le (by rw [us_length, size_list]; omega))
   go_wp2
   go_ret
   rw [HE.out] at hown
   obtain ⟨hn, A, c, rfl, hr⟩ := RowN.of_own hown
   exact ⟨A, c, by rw [hn]; rfl, hr, hb⟩
theorem string_of_own {P : Program} (w : World) (src dst e : TypeId) {B n : Nat} {v : Value} {l : Bs} (hs : P.underlying src = some (.slice e)) (he : P.underlying e = some (.int .u8)) (hd : P.underlying dst = some .string)
  (hown : w.ownsRow B e 1 v n (l.map bv)) : (convert src dst v).run P w = .ok (.string ⟨l.toArray⟩) w := by
 have hl : n = l.length := by have := hown.1; simp at this; omega
 subst hl
 rcases hown.2 with ⟨rfl, h0⟩ | ⟨g, cap, cur, rfl, hb, hg, hnc, _, hcs, htake⟩
 ·obtain rfl := List.eq_nil_of_length_eq_zero h0
  exact run_convert_bytes_nil w src e hs he _ _ dst hd
 ·refine run_convert_bytes_back w src dst e _ _ l hs he hd fun j hj => ?_
  exact hown.cells (g := g) rfl j _ (by simp [bv, hj])
theorem bs_snoc (xs : List Nat) (k : Nat) (h : k < xs.length) : (bs (xs.take (k + 1))).map bv = (bs (xs.take k)).map bv ++ [bv (UInt8.ofNat (xs[k] / 256)), bv (UInt8.ofNat xs[k])] := by
 rw [List.take_add_one, List.getElem?_eq_getElem h, bs_append]
 simp [bs]
set_option maxRecDepth 8000 in
theorem make_any (c : Nat) (xs : List Nat) (A : Option Addr) (B : Nat) (w : World) (hr : RowN w B A xs) (hx : ∀ n ∈ xs, n < 65536) (hs : xs.length ≤ 16777216) :
  Calls Tryz.prog 80 #[.slice A xs.length c] w fun e w' => e = .returned (.string ⟨(bs xs).toArray⟩) ∧ Below w.heap.size w w' := by
 obtain ⟨i0, hi, hz0, hz1, hz2⟩ := info_parts info5
 go_enter Tryz.func80, Tryz.ntmps80
 go_wp2
 go_loopw [3, 8] (fun v i wr => ∃ k : Nat, k ≤ xs.length ∧ i = .int .i64 k ∧ wr.ownsRow w.heap.size 5 1 v (2 * k) ((bs (xs.take k)).map bv) ∧ Below w.heap.size w wr)
  (fun _ i _ => xs.length - (intOf i).toNat)
 case atStart => exact ⟨0, by omega, rfl, World.ownsRow_nil _ _ _ _, Below.refl _ _⟩
 case round =>
  obtain ⟨k, hk, rfl, hown, hb⟩ := hrel
  by_cases hlt : k < xs.length
  ·rcases hr with hr | ⟨g, rfl, hg1, hg2, hg3⟩
   ·subst hr; simp at hlt
   have hc : wr.cell? ⟨g, k, none⟩ = some (.int .i64 (xs[k] : Nat)) := (hb.cell (p := ⟨g, k, none⟩) hg2).trans (hg3 k hlt)
   have hx1 : xs[k] < 65536 := hx _ (List.getElem_mem hlt)
   have E1 := Lib.hid (wrap_hi xs[k] hx1)
   have E2 := Lib.hid (wrap_lo xs[k])
   have E3 := Lib.hid (bs_snoc xs k hlt)
   clear hg3
   go_wp2_with (at_builtin; refine app_lit _ rfl _ _ 117 (by rfl) w.heap.size 5 i0 _ 1 Tryz.underlying117 hi hz0 hz1 hz2 rfl _ _ _ (by rfl) hown _ 2 (by rfl) rfl ?c1 ?c2 ?c3 hb.size ?_)
   case c1 => exact ⟨rfl, rfl⟩
   case c2 => unfold maxLen; omega
   case c3 => omega
   intro v' w' hown' hb'
   have H : Hid (w'.ownsRow w.heap.size 5 1 v' (2 * (k + 1)) ((bs (xs.take (k + 1))).map bv) ∧ Below w.heap.size w w') := by
    refine ⟨?_, hb.trans hb'⟩
    rw [E3.out]
    unfold bv
    rw [E1.out, E2.out]
    exact hown'
   clear hown' hb' hown hb
   go_wp2
   go_roundw
   case rel => exact ⟨k + 1, by omega, by go_num, H.out.1, H.out.2⟩
   case measure => simp [intOf]; omega
  ·have hcv := string_of_own (P := Tryz.prog) wr 117 9 5 Tryz.underlying117 Tryz.underlying5 Tryz.underlying9 hown
   have HE : Hid (xs.take k = xs) := Lib.hid (List.take_of_length_le (by omega))
   rw [HE.out] at hcv
   go_wp2
   go_ret
   exact ⟨rfl, hb⟩
def ofRes (l : Bs) : Value := if l.all (fun b => decide (b.toNat ≤ 127)) then .tuple #[.string ⟨(bs (l.map (·.toNat))).toArray⟩, .int .i64 0] else .tuple #[.string ⟨#[]⟩, .int .i64 10]
def plainTo (s : ByteArray) (k : Nat) : Prop := (s.data.toList.take k).all (fun b => decide (b.toNat ≤ 127)) = true
def wideTo (s : ByteArray) (k : Nat) : List Nat := (s.data.toList.take k).map (·.toNat)
theorem plainTo_succ {s : ByteArray} {k : Nat} (hk : k < s.size) (h : plainTo s k) (hc : (s[k]).toNat ≤ 127) : plainTo s (k + 1) := by
 unfold plainTo at *
 rw [List.take_add_one, List.getElem?_eq_getElem (by rw [size_list]; exact hk), List.all_append, h]
 rw [get_list s k hk] at hc
 simp only [Option.toList_some, List.all_cons, List.all_nil, Bool.and_true, Bool.true_and, decide_eq_true_eq]
 exact hc
theorem wideTo_succ {s : ByteArray} {k : Nat} (hk : k < s.size) : wideTo s (k + 1) = wideTo s k ++ [(s[k]).toNat] := by
 unfold wideTo
 rw [List.take_add_one, List.getElem?_eq_getElem (by rw [size_list]; exact hk), List.map_append]
 rfl
theorem ofRes_bad {s : ByteArray} {k : Nat} (hk : k < s.size) (hc : 127 < (s[k]).toNat) : ofRes s.data.toList = .tuple #[.string ⟨#[]⟩, .int .i64 10] := by
 unfold ofRes
 rw [if_neg]
 intro h
 have := List.all_eq_true.1 h s[k] (by rw [get_list s k hk]; exact List.getElem_mem _)
 simp at this
 omega
theorem ofRes_good {s : ByteArray} (h : plainTo s s.size) : ofRes s.data.toList = .tuple #[.string ⟨(bs (wideTo s s.size)).toArray⟩, .int .i64 0] := by
 have e : s.data.toList.take s.size = s.data.toList := List.take_of_length_le (by rw [size_list]; exact Nat.le_refl _)
 unfold plainTo at h
 unfold ofRes wideTo
 rw [e] at h ⊢
 rw [if_pos h]
theorem wideTo_lt (s : ByteArray) (k : Nat) : ∀ n ∈ wideTo s k, n < 65536 := by
 intro n hn
 obtain ⟨b, _, rfl⟩ := List.mem_map.1 hn
 have := b.toNat_lt
 omega
theorem wideTo_length (s : ByteArray) (k : Nat) (h : k ≤ s.size) : (wideTo s k).length = k := by
 unfold wideTo
 rw [List.length_map, List.length_take, size_list]
 omega
set_option maxRecDepth 8000 in
set_option maxHeartbeats 400000 in
theorem of_any (s : ByteArray) (w : World) (hs : s.size ≤ 16777216) :
  Calls Tryz.prog 87 #[.string s] w fun e w' => e = .returned (ofRes s.data.toList) ∧ Below w.heap.size w w' := by
 obtain ⟨i0, hi, hz0, hz1, hz2⟩ := info_parts info5
 have e1 : IntKind.i64.wrap (2 * (s.size : Int)) = 2 * (s.size : Int) := IntWalk.i64_in _ (by omega)
 go_enter Tryz.func87, Tryz.ntmps87
 go_wp2_with (at_make; refine wpList_make_own _ rfl _ _ 117 (by rfl) w.heap.size 5 i0 _ 1 Tryz.underlying117 hi hz0 hz1 .i64 .i64 _ (2 * s.size) (by rfl) (by rfl) ?c1 ?c2 ?c3 (Nat.le_refl _) ?_)
 case c1 => omega
 case c2 => rw [hz2]; omega
 case c3 => unfold maxLen; omega
 intro w1 hown1 hg1
 have hb1 : Below w.heap.size w w1 := (Below.refl _ _).grown hg1 (Nat.le_refl _) (by intro k hk; cases hk)
 clear hg1 e1
 obtain ⟨v1, hv1⟩ : ∃ v1, v1 = Value.slice (some ⟨w.heap.size, 0, none⟩) 0 (2 * s.size) := ⟨_, rfl⟩
 rw [← hv1] at hown1 ⊢
 clear hv1
 go_wp2
 go_loopw [4, 12] (fun v i wr => ∃ k : Nat, k ≤ s.size ∧ i = .int .i64 k ∧ Hid (plainTo s k) ∧ wr.ownsRow w.heap.size 5 1 v (2 * k) ((bs (wideTo s k)).map bv) ∧ Below w.heap.size w wr)
  (fun _ i _ => s.size - (intOf i).toNat)
 case atStart => exact ⟨0, by omega, rfl, rfl, hown1, hb1⟩
 case round =>
  obtain ⟨k, hk, rfl, hp, hown, hb⟩ := hrel
  clear hown1 hb1
  by_cases hlt : k < s.size
  ·by_cases hc : (s[k]).toNat ≤ 127
   ·have hP := Lib.hid (plainTo_succ hlt hp.out hc)
    have hW := Lib.hid (wideTo_succ hlt)
    have hc2 : ((s[k]).toNat : Int) ≤ 127 := by omega
    go_wp2_with (go_at_call 97; refine (appendUnit_any w.heap.size _ _ _ (s[k]).toNat _ hown (by omega) (by omega) hb.size).mono ?_; rintro e w' ⟨v', rfl, hown', hb'⟩)
    have H : Hid (w'.ownsRow w.heap.size 5 1 v' (2 * (k + 1)) ((bs (wideTo s (k + 1))).map bv) ∧ Below w.heap.size w w') := by
     refine ⟨?_, hb.trans hb'⟩
     rw [hW.out, bs_append, List.map_append]
     exact hown'
    go_roundw
    case rel => exact ⟨k + 1, by omega, by go_num, hP, H.out.1, H.out.2⟩
    case measure => simp [intOf]; omega
   ·have hc2 : 127 < ((s[k]).toNat : Int) := by omega
    have hR := Lib.hid (ofRes_bad hlt (by omega))
    go_wp2
    go_ret2
    exact ⟨by rw [hR.out]; rfl, hb⟩
  ·obtain rfl : k = s.size := by omega
   have hR := Lib.hid (ofRes_good hp.out)
   have hcv := string_of_own (P := Tryz.prog) wr 117 9 5 Tryz.underlying117 Tryz.underlying5 Tryz.underlying9 hown
   go_wp2
   go_ret2
   exact ⟨by rw [hR.out]; rfl, hb⟩
theorem map_nv_snoc (l : List Nat) (n : Nat) : (l ++ [n]).map nv = l.map nv ++ [nv n] := by simp
set_option maxRecDepth 8000 in
set_option maxHeartbeats 400000 in
theorem refOf_any (s : ByteArray) (w : World) (hs : s.size ≤ 16777216) :
  Calls Tryz.prog 50 #[.string s] w fun e w' => e = .returned (ofRes s.data.toList) ∧ Below w.heap.size w w' := by
 obtain ⟨i0, hi, hz0, hz1, hz2⟩ := info_parts info3
 go_enter Tryz.func50, Tryz.ntmps50
 go_wp2
 go_loopw [4, 5] (fun v i wr => ∃ k : Nat, k ≤ s.size ∧ i = .int .i64 k ∧ Hid (plainTo s k) ∧ wr.ownsRow w.heap.size 3 1 v k ((wideTo s k).map nv) ∧ Below w.heap.size w wr)
  (fun _ i _ => s.size - (intOf i).toNat)
 case atStart => exact ⟨0, by omega, rfl, rfl, World.ownsRow_nil _ _ _ _, Below.refl _ _⟩
 case round =>
  obtain ⟨k, hk, rfl, hp, hown, hb⟩ := hrel
  by_cases hlt : k < s.size
  ·by_cases hc : (s[k]).toNat ≤ 127
   ·have hP := Lib.hid (plainTo_succ hlt hp.out hc)
    have hW := Lib.hid (wideTo_succ hlt)
    have hc2 : ((s[k]).toNat : Int) ≤ 127 := by omega
    go_wp2_with (at_builtin; refine app_lit _ rfl _ _ 112 (by rfl) w.heap.size 3 i0 _ 8 Tryz.underlying112 hi hz0 hz1 hz2 rfl _ _ _ (by rfl) hown _ 1 (by rfl) rfl ?c1 ?c2 ?c3 hb.size ?_)
    case c1 => rfl
    case c2 => unfold maxLen; omega
    case c3 => omega
    intro v' w' hown' hb'
    have H : Hid (w'.ownsRow w.heap.size 3 1 v' (k + 1) ((wideTo s (k + 1)).map nv) ∧ Below w.heap.size w w') := by
     refine ⟨?_, hb.trans hb'⟩
     rw [hW.out, map_nv_snoc]
     exact hown'
    clear hown' hb' hown hb
    go_wp2
    go_roundw
    case rel => exact ⟨k + 1, by omega, by go_num, hP, H.out.1, H.out.2⟩
    case measure => simp [intOf]; omega
   ·have hc2 : 127 < ((s[k]).toNat : Int) := by omega
    have hR := Lib.hid (ofRes_bad hlt (by omega))
    go_wp2
    go_ret2
    exact ⟨by rw [hR.out]; rfl, hb⟩
  ·obtain rfl : k = s.size := by omega
   have hR := Lib.hid (ofRes_good hp.out)
   have hwl := wideTo_length s s.size (Nat.le_refl _)
   obtain ⟨hn, A, c, rfl, hr⟩ := RowN.of_own hown
   have HN := Lib.hid hn
   clear hn hwl
   go_wp2_with fail
   rw [HN.out]
   refine (make_any c _ A _ _ hr (wideTo_lt s s.size) (by rw [← HN.out]; exact hs)).mono ?_
   rintro e w' ⟨rfl, hb'⟩
   go_wp2
   go_ret2
   exact ⟨by rw [hR.out]; rfl, hb.trans (hb'.mono hb.size)⟩
theorem atI_in {u : List Nat} {k : Nat} (h : k < u.length) : atI u k = (u[k] : Nat) := by
 unfold atI
 rw [if_pos ⟨by omega, by omega⟩, List.getD_eq_getElem?_getD, Int.toNat_natCast, List.getElem?_eq_getElem h]
 rfl
theorem conv_new (w : World) (l : Bs) (arr : Array Value) (n : Nat) (h : arr = (l.map bv).toArray) (hn : n = l.length) :
  (convert 117 9 (.slice (some ⟨w.heap.size, 0, none⟩) n n)).run Tryz.prog (w.alloc (.cells arr 5)) = .ok (.string ⟨l.toArray⟩) (w.alloc (.cells arr 5)) := by
 subst hn
 refine run_convert_bytes_back _ _ _ 5 _ _ l Tryz.underlying117 Tryz.underlying5 Tryz.underlying9 fun j hj => ?_
 have hadd : (⟨w.heap.size, 0, none⟩ : Addr).add j = ⟨w.heap.size, j, none⟩ := by unfold Addr.add; split <;> simp_all
 rw [hadd]
 refine new_cells w arr _ j _ ?_
 rw [h]
 simp [bv, hj]
set_option maxRecDepth 8000 in
theorem clone_any (s : ByteArray) (w : World) (hlim : s.size ≤ 281474976710656) :
  Calls Tryz.prog 52 #[.string s] w fun e w' => e = .returned (.string s) ∧ Below w.heap.size w w' := by
 go_enter Tryz.func52, Tryz.ntmps52
 go_wp2_with (go_at_call 81; refine (Tryz.stringslite_Clone s _ hlim).mono ?_; rintro e w' ⟨rfl, hb⟩)
 go_ret
 exact ⟨rfl, hb⟩
def idxRes (o : Option Nat) : Value := match o with
 | some n => .tuple #[.int .i64 n, .bool true]
 | none => .tuple #[.int .i64 0, .bool false]
theorem idx_no {u : List Nat} (h : u.length = 0 ∨ 9 < u.length ∨ (1 < u.length ∧ u.getD 0 0 = 48)) : idx u = none := by
 unfold idx
 rw [if_pos h]
theorem idx_go {u : List Nat} (h : ¬ (u.length = 0 ∨ 9 < u.length ∨ (1 < u.length ∧ u.getD 0 0 = 48))) : idx u = idxGo 0 u := by
 unfold idx
 rw [if_neg h]
theorem idxGo_step {u : List Nat} {k acc : Nat} (hk : k < u.length) : idxGo acc (u.drop k) = if 48 ≤ u[k] ∧ u[k] ≤ 57 then idxGo (10 * acc + (u[k] - 48)) (u.drop (k + 1)) else none := by
 rw [List.drop_eq_getElem_cons hk]
 rfl
theorem pow_small (k : Nat) (h : k < 9) : 10 ^ k ≤ 100000000 ∧ 10 ^ (k + 1) = 10 * 10 ^ k := by
 refine ⟨Nat.le_trans (Nat.pow_le_pow_right (by decide) (show k ≤ 8 by omega)) (by decide), ?_⟩
 rw [Nat.pow_succ]
 omega
set_option maxRecDepth 8000 in
set_option maxHeartbeats 1000000 in
theorem index_any (s : ByteArray) (w : World) (hs : s.size ≤ maxLen) :
  Calls Tryz.prog 96 #[.string s] w fun e w' => e = .returned (idxRes (idx (us s.data.toList))) ∧ Below w.heap.size w w' := by
 have hul : (us s.data.toList).length = s.size / 2 := by rw [us_length, size_list]
 have HLen := Lib.hid fun w => len_any s w hs
 have HAt := Lib.hid fun i w => at_any s i w hs
 obtain ⟨u, hu⟩ : ∃ u, u = us s.data.toList := ⟨_, rfl⟩
 have hat : ∀ k (h : k < u.length), atOf s k = (u[k] : Nat) := fun k h => by
  unfold atOf
  rw [← hu]
  exact atI_in h
 rw [← hu] at hul ⊢
 have h16 : ∀ k (h : k < u.length), u[k] < 65536 := fun k h => us_lt s.data.toList _ (by rw [← hu]; exact List.getElem_mem h)
 clear hu
 obtain ⟨n, hn⟩ : ∃ n, n = s.size / 2 := ⟨_, rfl⟩
 rw [← hn] at hul HLen
 clear hn hs
 have H16 := Lib.hid h16
 have HA := Lib.hid hat
 clear h16 hat
 by_cases hbad : n = 0 ∨ 9 < n
 ·have HI := Lib.hid (idx_no (u := u) (by omega))
  rcases hbad with rfl | hbad
  ·go_enter Tryz.func96, Tryz.ntmps96
   go_wp2_with (go_at_call 102; refine (HLen.out _).mono ?_; rintro e w' ⟨rfl, rfl⟩)
   go_ret2
   exact ⟨by rw [HI.out]; rfl, Below.refl _ _⟩
  ·have b0 : ((n : Int) == 0) = false := by rw [beq_eq_false_iff_ne]; omega
   go_enter Tryz.func96, Tryz.ntmps96
   go_wp2_with (go_at_call 102; refine (HLen.out _).mono ?_; rintro e w' ⟨rfl, rfl⟩)
   go_ret2
   exact ⟨by rw [HI.out]; rfl, Below.refl _ _⟩
 ·have b0 : ((n : Int) == 0) = false := by rw [beq_eq_false_iff_ne]; omega
  have hn0 : 0 < n := by omega
  have hn9 : n ≤ 9 := by omega
  have ha0 := HA.out 0 (by omega)
  have e0 : u.getD 0 0 = u[0]'(by omega) := by rw [List.getD_eq_getElem?_getD, List.getElem?_eq_getElem (by omega)]; rfl
  by_cases hz : 1 < n ∧ u[0]'(by omega) = 48
  ·have HI := Lib.hid (idx_no (u := u) (by omega))
   obtain ⟨h1n, h48⟩ := hz
   have b1 : (atOf s 0 == 48) = true := by rw [beq_iff_eq]; exact ha0.trans (by rw [h48]; rfl)
   clear ha0 e0 h48
   go_enter Tryz.func96, Tryz.ntmps96
   go_wp2_with (first
    | (go_at_call 102; refine (HLen.out _).mono ?_; rintro e w' ⟨rfl, rfl⟩)
    | (go_at_call 103; refine (HAt.out _ _).mono ?_; rintro e w1 ⟨rfl, hb1⟩))
   go_ret2
   exact ⟨by rw [HI.out]; rfl, hb1⟩
  ·have HI := Lib.hid (idx_go (u := u) (by omega))
   have hw : n ≤ 1 ∨ (1 < n ∧ (atOf s 0 == 48) = false) := by
    rcases (show n ≤ 1 ∨ 1 < n by omega) with h | h
    ·exact .inl h
    ·refine .inr ⟨h, ?_⟩
     rw [beq_eq_false_iff_ne]
     intro h'
     have h2 : ((u[0]'(by omega) : Nat) : Int) = 48 := ha0.symm.trans h'
     omega
   have HW := Lib.hid hw
   clear ha0 e0 hw hz hbad
   rcases HW.out with h1 | ⟨h1, b1⟩
   all_goals
    clear HW
    go_enter Tryz.func96, Tryz.ntmps96
    go_wp2_with (first
     | (go_at_call 102; refine (HLen.out _).mono ?_; rintro e w' ⟨rfl, rfl⟩)
     | (go_at_call 103; refine (HAt.out _ _).mono ?_; rintro e w1 ⟨rfl, hb1⟩))
    go_loopw [5, 26] (fun v x wr => ∃ (k acc : Nat), k ≤ n ∧ x = .int .i64 k ∧ v = .int .i64 acc ∧ acc < 10 ^ k ∧ Hid (idx u = idxGo acc (u.drop k)) ∧ Below w.heap.size w wr)
     (fun _ x _ => n - (intOf x).toNat)
    case atStart => first | exact ⟨0, 0, by omega, rfl, rfl, by decide, HI, hb1⟩ | exact ⟨0, 0, by omega, rfl, rfl, by decide, HI, Below.refl _ _⟩
    case round =>
     obtain ⟨k, acc, hk, rfl, rfl, hacc, hI, hb⟩ := hrel
     by_cases hlt : k < n
     ·have hp := pow_small k (by omega)
      have hak := HA.out k (by omega)
      have h16 := H16.out k (by omega)
      have hstep := idxGo_step (u := u) (k := k) (acc := acc) (by omega)
      by_cases hd : 48 ≤ u[k]'(by omega) ∧ u[k]'(by omega) ≤ 57
      ·rw [if_pos hd] at hstep
       obtain ⟨d, hdd, hd9⟩ : ∃ d : Nat, u[k]'(by omega) = 48 + d ∧ d ≤ 9 := ⟨u[k]'(by omega) - 48, by omega, by omega⟩
       rw [hdd] at hak hstep
       have HN : Hid (atOf s k = 48 + (d : Int) ∧ idx u = idxGo (10 * acc + d) (u.drop (k + 1)) ∧ 10 * acc + d < 10 ^ (k + 1)) := by
        refine ⟨hak.trans (by omega), hI.out.trans (hstep.trans (by rw [show 48 + d - 48 = d by omega])), by omega⟩
       have ha1 : acc < 100000000 := by omega
       clear hp hak h16 hstep hd hdd hI hacc
       go_wp2_with (go_at_call 103; refine (HAt.out _ _).mono ?_; rintro e w2 ⟨rfl, hb2⟩; rw [HN.out.1])
       have hb3 := hb.trans (hb2.mono hb.size)
       go_roundw
       case rel => exact ⟨k + 1, 10 * acc + d, by omega, by go_num, by go_num, HN.out.2.2, HN.out.2.1, hb3⟩
       case measure => simp [intOf]; omega
      ·rw [if_neg hd] at hstep
       have HN : Hid (idx u = none) := hI.out.trans hstep
       obtain ⟨a, ha, h1a, h2a⟩ : ∃ a : Int, atOf s k = a ∧ 0 ≤ a ∧ a < 65536 ∧ (a < 48 ∨ 57 < a) := ⟨_, hak, by omega, by omega, by omega⟩
       have HH := Lib.hid ha
       obtain ⟨h2a, h3a⟩ := h2a
       clear hp hak h16 hstep hd hI hacc ha
       rcases h3a with h3a | h3a
       all_goals
        go_wp2_with (go_at_call 103; refine (HAt.out _ _).mono ?_; rintro e w2 ⟨rfl, hb2⟩; rw [HH.out])
        go_ret2
        exact ⟨by rw [HN.out]; rfl, hb.trans (hb2.mono hb.size)⟩
     ·obtain rfl : k = n := by omega
      have HN : Hid (idx u = some acc) := hI.out.trans (by rw [List.drop_eq_nil_of_le (by omega)]; rfl)
      clear hI hacc
      go_wp2
      go_ret2
      exact ⟨by rw [HN.out]; rfl, hb⟩
set_option maxRecDepth 8000 in
set_option maxHeartbeats 1000000 in
theorem refIndex_any (s : ByteArray) (w : World) (hs : s.size ≤ 16777216) :
  Calls Tryz.prog 91 #[.string s] w fun e w' => e = .returned (idxRes (idx (us s.data.toList))) ∧ Below w.heap.size w w' := by
 have hul : (us s.data.toList).length ≤ 16777216 := by rw [us_length, size_list]; omega
 have h16 : ∀ k (h : k < (us s.data.toList).length), (us s.data.toList)[k] < 65536 := fun k h => us_lt s.data.toList _ (List.getElem_mem h)
 have HL := Lib.hid (list_any s)
 generalize us s.data.toList = u at *
 have H16 := Lib.hid h16
 clear h16
 by_cases hbad : u.length = 0 ∨ 9 < u.length
 ·have HI := Lib.hid (idx_no (u := u) (by omega))
  rcases hbad with hbad | hbad
  all_goals
   go_enter Tryz.func91, Tryz.ntmps91
   go_wp2_with fail
   refine (HL.out _ hs).mono ?_
   rintro e w1 ⟨A, c, rfl, hr, hb1⟩
   clear hr
   go_wp2
   go_ret2
   exact ⟨by rw [HI.out]; rfl, hb1⟩
 ·have hn0 : 0 < u.length := by omega
  have hn9 : u.length ≤ 9 := by omega
  have e0 : u.getD 0 0 = u[0] := by rw [List.getD_eq_getElem?_getD, List.getElem?_eq_getElem (by omega)]; rfl
  have hcase : (1 < u.length ∧ (((u[0] : Nat) : Int) == 48) = true ∧ Hid (idx u = none)) ∨ ((u.length ≤ 1 ∨ (((u[0] : Nat) : Int) == 48) = false) ∧ Hid (idx u = idxGo 0 u)) := by
   by_cases hz : 1 < u.length ∧ u[0] = 48
   ·exact .inl ⟨hz.1, by rw [beq_iff_eq, hz.2]; rfl, idx_no (by omega)⟩
   ·refine .inr ⟨?_, idx_go (by omega)⟩
    rcases (show u.length ≤ 1 ∨ 1 < u.length by omega) with h | h
    ·exact .inl h
    ·refine .inr ?_
     rw [beq_eq_false_iff_ne]
     omega
  clear e0 hbad
  rcases hcase with ⟨h1, b1, HI⟩ | ⟨hw, HI⟩
  ·go_enter Tryz.func91, Tryz.ntmps91
   go_wp2_with fail
   refine (HL.out _ hs).mono ?_
   rintro e w1 ⟨A, c, rfl, hr, hb1⟩
   rcases hr with hr | ⟨g, rfl, hg1, hg2, hg3⟩
   ·rw [hr] at hn0; simp at hn0
   have hc0 := hg3 0 hn0
   unfold nv at hc0
   clear hg3
   go_wp2
   go_ret2
   exact ⟨by rw [HI.out]; rfl, hb1⟩
  ·have hw2 : (u.length ≤ 1 ∧ (((u[0] : Nat) : Int) == 48) = true) ∨ (((u[0] : Nat) : Int) == 48) = false := by
    cases hb : (((u[0] : Nat) : Int) == 48)
    ·exact .inr rfl
    ·rcases hw with h | h
     ·exact .inl ⟨h, rfl⟩
     ·rw [hb] at h; cases h
   have HW := Lib.hid hw2
   clear hw hw2
   rcases HW.out with ⟨h1, b48⟩ | b48
   all_goals
    clear HW
    go_enter Tryz.func91, Tryz.ntmps91
    go_wp2_with fail
    refine (HL.out _ hs).mono ?_
    rintro e w1 ⟨A, c, rfl, hr, hb1⟩
    rcases hr with hr | ⟨g, rfl, hg1, hg2, hg3⟩
    ·rw [hr] at hn0; simp at hn0
    have hc0 := hg3 0 hn0
    have HC := Lib.hid hg3
    unfold nv at hc0
    clear hg3
    go_wp2
    go_loopw [5, 31] (fun v x wr => ∃ (k acc : Nat), k ≤ u.length ∧ x = .int .i64 k ∧ v = .int .i64 acc ∧ acc < 10 ^ k ∧ Hid (idx u = idxGo acc (u.drop k)) ∧ wr = w1)
     (fun _ x _ => u.length - (intOf x).toNat)
    case atStart => exact ⟨0, 0, by omega, rfl, rfl, by decide, HI, rfl⟩
    case round =>
     obtain ⟨k, acc, hk, rfl, rfl, hacc, hI, rfl⟩ := hrel
     by_cases hlt : k < u.length
     ·have hp := pow_small k (by omega)
      have h16 := H16.out k hlt
      have hc := HC.out k hlt
      unfold nv at hc
      have hstep := idxGo_step (u := u) (k := k) (acc := acc) hlt
      clear hc0 b48
      by_cases hd : 48 ≤ u[k] ∧ u[k] ≤ 57
      ·rw [if_pos hd] at hstep
       have HN : Hid (idx u = idxGo (10 * acc + (u[k] - 48)) (u.drop (k + 1)) ∧ 10 * acc + (u[k] - 48) < 10 ^ (k + 1)) := ⟨hI.out.trans hstep, by omega⟩
       have HV : Hid (10 * (acc : Int) + ((u[k] : Nat) - 48 : Int) = ((10 * acc + (u[k] - 48) : Nat) : Int)) := by
        show 10 * (acc : Int) + ((u[k] : Nat) - 48 : Int) = ((10 * acc + (u[k] - 48) : Nat) : Int)
        omega
       have ha1 : acc < 100000000 := by omega
       obtain ⟨hd1, hd2⟩ := hd
       clear hp h16 hstep hI hacc
       go_wp2
       go_roundw
       case rel => exact ⟨k + 1, 10 * acc + (u[k] - 48), by omega, by go_num, by rw [HV.out], HN.out.2, HN.out.1, by first | exact rfl | trivial⟩
       case measure => simp [intOf]; omega
      ·rw [if_neg hd] at hstep
       have HN : Hid (idx u = none) := hI.out.trans hstep
       clear hp h16 hstep hI hacc
       rcases (show u[k] < 48 ∨ 57 < u[k] by omega) with hd1 | hd1
       all_goals
        go_wp2
        go_ret2
        exact ⟨by rw [HN.out]; rfl, hb1⟩
     ·have HN : Hid (idx u = some acc) := hI.out.trans (by rw [List.drop_eq_nil_of_le (by omega)]; rfl)
      clear hI hacc hc0
      go_wp2
      go_ret2
      exact ⟨by rw [HN.out]; rfl, hb1⟩
end Go.Proofs.YtcahijpbkjplmaaGreatDoor
