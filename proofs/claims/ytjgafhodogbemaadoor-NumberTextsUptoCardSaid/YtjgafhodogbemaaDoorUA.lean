/-
  Laid by wip/prune.py out of wip/units: Plain A B.
-/
import Derived.Test.YtjgafhodogbemaaDoorProg
import Derived.WalkKit
import Derived.ProofKit
import Derived.Outline
import Derived.IntWalk
import Derived.BigQuiet
import Derived.BigCall
import Derived.BigGuard
import Derived.Deep.QuietTactic
import Derived.Lib.Hide
import Derived.Lib.Strings
import Derived.Deep.RegionLaw
import Derived.Maps.AppendAt
namespace Go.Proofs.YtjgafhodogbemaaDoor
open Go.RowKit

abbrev Bs := List UInt8
/-- the units of a text; the last byte of an odd one is left out -/
def us : Bs → List Nat
  | a :: b :: r => (a.toNat * 256 + b.toNat) :: us r
  | _ => []
/-- the bytes of units -/
def bs : List Nat → Bs
  | [] => []
  | n :: r => UInt8.ofNat (n / 256) :: UInt8.ofNat n :: bs r
theorem us_length : ∀ l : Bs, (us l).length = l.length / 2
  | [] => rfl
  | [_] => by simp [us]
  | _ :: _ :: r => by simp [us, us_length r]; omega
theorem us_get : ∀ (l : Bs) (i : Nat) (h : 2 * i + 1 < l.length), (us l)[i]? = some ((l[2 * i]'(by omega)).toNat * 256 + (l[2 * i + 1]'h).toNat)
  | [], i, h => by simp at h
  | [_], i, h => by simp at h
  | a :: b :: r, 0, _ => by simp [us]
  | a :: b :: r, i + 1, h => by
    have h' : 2 * i + 1 < r.length := by simp at h; omega
    have e1 : 2 * (i + 1) = 2 * i + 1 + 1 := by omega
    simp only [us, List.getElem?_cons_succ, us_get r i h', e1, List.getElem_cons_succ]
theorem us_lt : ∀ (l : Bs), ∀ n ∈ us l, n < 65536
  | [], n, h => by simp [us] at h
  | [_], n, h => by simp [us] at h
  | a :: b :: r, n, h => by
    simp only [us, List.mem_cons] at h
    rcases h with rfl | h
    · have := a.toNat_lt; have := b.toNat_lt; omega
    · exact us_lt r n h
theorem bs_length : ∀ u : List Nat, (bs u).length = 2 * u.length
  | [] => rfl
  | _ :: r => by simp [bs, bs_length r]; omega
theorem bs_append : ∀ u v : List Nat, bs (u ++ v) = bs u ++ bs v
  | [], _ => rfl
  | _ :: r, v => by simp [bs, bs_append r v]
theorem pair_bytes (a b : UInt8) : UInt8.ofNat ((a.toNat * 256 + b.toNat) / 256) = a ∧ UInt8.ofNat (a.toNat * 256 + b.toNat) = b := by
  have ha := a.toNat_lt
  have hb := b.toNat_lt
  constructor
  · apply UInt8.toNat_inj.1
    rw [UInt8.toNat_ofNat']
    omega
  · apply UInt8.toNat_inj.1
    rw [UInt8.toNat_ofNat']
    omega
theorem bs_us : ∀ l : Bs, l.length % 2 = 0 → bs (us l) = l
  | [], _ => rfl
  | [_], h => by simp at h
  | a :: b :: r, h => by
    have h' : r.length % 2 = 0 := by simp at h; omega
    simp [us, bs, bs_us r h', pair_bytes]
theorem bs_us_take : ∀ l : Bs, bs (us l) = l.take (2 * (l.length / 2))
  | [] => rfl
  | [_] => by simp [us, bs]
  | a :: b :: r => by
    have e : 2 * ((a :: b :: r).length / 2) = 2 * (r.length / 2) + 1 + 1 := by simp; omega
    rw [e]
    simp [us, bs, bs_us_take r, pair_bytes]
theorem us_bs : ∀ u : List Nat, (∀ n ∈ u, n < 65536) → us (bs u) = u
  | [], _ => rfl
  | n :: r, h => by
    have hn := h n (by simp)
    have hr := us_bs r (fun m hm => h m (by simp [hm]))
    simp only [bs, us, hr, UInt8.toNat_ofNat']
    congr 1
    omega
theorem bs_take : ∀ (u : List Nat) (k : Nat), bs (u.take k) = (bs u).take (2 * k)
  | [], k => by simp [bs]
  | _ :: _, 0 => by simp [bs]
  | n :: r, k + 1 => by
    have e : 2 * (k + 1) = 2 * k + 1 + 1 := by omega
    rw [e]
    simp [bs, bs_take r k]
theorem bs_drop : ∀ (u : List Nat) (k : Nat), bs (u.drop k) = (bs u).drop (2 * k)
  | [], k => by simp [bs]
  | _ :: _, 0 => by simp
  | n :: r, k + 1 => by
    have e : 2 * (k + 1) = 2 * k + 1 + 1 := by omega
    rw [e]
    simp [bs, bs_drop r k]
theorem us_append : ∀ (l m : Bs), l.length % 2 = 0 → us (l ++ m) = us l ++ us m
  | [], _, _ => rfl
  | [_], _, h => by simp at h
  | a :: b :: r, m, h => by
    have h' : r.length % 2 = 0 := by simp at h; omega
    simp [us, us_append r m h']
/-- the unit at an index, or -1 -/
def atI (u : List Nat) (i : Int) : Int := if 0 ≤ i ∧ i < u.length then ((u.getD i.toNat 0 : Nat) : Int) else -1
/-- the units from an index up to another one -/
def cutU (u : List Nat) (i j : Int) : List Nat := (u.take j.toNat).drop i.toNat
theorem cut_bytes (l : Bs) (i j : Int) : bs (cutU (us l) i j) = ((l.take (2 * (l.length / 2))).take (2 * j.toNat)).drop (2 * i.toNat) := by
  rw [cutU, bs_drop, bs_take, bs_us_take]
theorem ret_int {k : IntKind} {a b : Int} (h : a = b) : Ending.returned (.int k a) = .returned (.int k b) := by rw [h]
theorem ret_bool {a b : Bool} (h : a = b) : Ending.returned (.bool a) = .returned (.bool b) := by rw [h]
theorem below_drewN (B : Nat) (w : World) (n : Nat) : Below B w (w.drewN n) := by
  cases n <;> exact ⟨rfl, rfl, rfl, Nat.le_refl _, fun _ _ => rfl⟩
set_option maxRecDepth 8000 in
theorem check_any (s : ByteArray) (w : World) (hs : s.size ≤ maxLen) :
    Calls Tryd.prog 33 #[.string s] w fun e w' => e = .returned (.bool (decide (s.size % 2 = 0))) ∧ w = w' := by
  unfold maxLen at hs
  go_enter Tryd.func33, Tryd.ntmps33
  go_wp2
  go_ret
  exact ⟨ret_bool (by rw [Bool.eq_iff_iff]; simp; omega), rfl⟩
set_option maxRecDepth 8000 in
theorem refCheck_any (s : ByteArray) (w : World) (hs : s.size ≤ maxLen) :
    Calls Tryd.prog 39 #[.string s] w fun e w' => e = .returned (.bool (decide (s.size % 2 = 0))) ∧ w = w' := by
  unfold maxLen at hs
  go_enter Tryd.func39, Tryd.ntmps39
  go_wp2
  go_ret
  exact ⟨ret_bool (by rw [Bool.eq_iff_iff]; simp; omega), rfl⟩
set_option maxRecDepth 8000 in
theorem len_any (s : ByteArray) (w : World) (hs : s.size ≤ maxLen) :
    Calls Tryd.prog 47 #[.string s] w fun e w' => e = .returned (.int .i64 ((s.size / 2 : Nat) : Int)) ∧ w = w' := by
  unfold maxLen at hs
  go_enter Tryd.func47, Tryd.ntmps47
  go_wp2
  go_ret
  exact ⟨ret_int (by omega), rfl⟩
set_option maxRecDepth 8000 in
theorem at_out (s : ByteArray) (i : Int) (w : World) (hs : s.size ≤ maxLen) (hi : i < 0 ∨ (s.size / 2 : Nat) ≤ i) :
    Calls Tryd.prog 35 #[.string s, .int .i64 i] w fun e w' => e = .returned (.int .i64 (-1)) ∧ w = w' := by
  unfold maxLen at hs
  rcases hi with hi | hi
  · go_enter Tryd.func35, Tryd.ntmps35
    go_wp2
    all_goals go_ret
    all_goals exact ⟨rfl, rfl⟩
  · have h0 : 0 ≤ i := by omega
    go_enter Tryd.func35, Tryd.ntmps35
    go_wp2
    all_goals go_ret
    all_goals exact ⟨rfl, rfl⟩
theorem or_bytes (a b : UInt8) : bits .or .i64 (wrap64 (wrap64 (a.toNat : Int) * 256)) (wrap64 (b.toNat : Int)) = ((a.toNat * 256 + b.toNat : Nat) : Int) := by
  have ha := a.toNat_lt
  have hb := b.toNat_lt
  have e1 : wrap64 (wrap64 (a.toNat : Int) * 256) = ((a.toNat * 256 : Nat) : Int) := by unfold wrap64; omega
  have e2 : wrap64 (b.toNat : Int) = ((b.toNat : Nat) : Int) := by unfold wrap64; omega
  rw [e1, e2]
  have hj : a.toNat * 256 ||| b.toNat = a.toNat * 256 + b.toNat := nat_join 8 _ _ (by omega) (by omega)
  show IntKind.i64.wrap ((BitVec.ofInt 64 ((a.toNat * 256 : Nat) : Int) ||| BitVec.ofInt 64 ((b.toNat : Nat) : Int)).toNat : Int) = _
  rw [BitVec.toNat_or, ofInt_u64 _ (by omega), ofInt_u64 _ (by omega), hj, IntKind.wrap_i64]
  omega
set_option maxRecDepth 8000 in
theorem at_in (s : ByteArray) (i : Nat) (w : World) (hs : s.size ≤ maxLen) (hi : i < s.size / 2) :
    Calls Tryd.prog 35 #[.string s, .int .i64 i] w fun e w' => e = .returned (.int .i64 (((s[2 * i]'(by omega)).toNat * 256 + (s[2 * i + 1]'(by omega)).toNat : Nat) : Int)) ∧ Below w.heap.size w w' := by
  unfold maxLen at hs
  have h1 : 2 * i + 1 < s.size := by omega
  have e1 : IntKind.i64.wrap (2 * (i : Int)) = 2 * (i : Int) := IntWalk.i64_in _ (by omega)
  have e2 : IntKind.i64.wrap (2 * (i : Int) + 1) = 2 * (i : Int) + 1 := IntWalk.i64_in _ (by omega)
  have e3 : (2 * (i : Int)).toNat = 2 * i := by omega
  have e4 : (2 * (i : Int) + 1).toNat = 2 * i + 1 := by omega
  have e5 : 0 ≤ 2 * (i : Int) := by omega
  have e6 : 0 ≤ 2 * (i : Int) + 1 := by omega
  have e7 : 2 * (i : Int) < s.size := by omega
  have e8 : 2 * (i : Int) + 1 < s.size := by omega
  go_enter Tryd.func35, Tryd.ntmps35
  go_wp2
  go_quiet (fail)
  go_wp2
  go_ret
  exact ⟨ret_int (or_bytes _ _), below_drewN _ _ _⟩
theorem size_list (s : ByteArray) : s.data.toList.length = s.size := (Lib.size_eq s).symm
theorem get_list (s : ByteArray) (i : Nat) (h : i < s.size) : s[i] = s.data.toList[i]'(by rw [size_list]; exact h) := rfl
/-- units.At and its reference give this unit. -/
def atOf (s : ByteArray) (i : Int) : Int := atI (us s.data.toList) i
theorem at_any (s : ByteArray) (i : Int) (w : World) (hs : s.size ≤ maxLen) :
    Calls Tryd.prog 35 #[.string s, .int .i64 i] w fun e w' => e = .returned (.int .i64 (atOf s i)) ∧ Below w.heap.size w w' := by
  have hl := size_list s
  by_cases h : 0 ≤ i ∧ i < (s.size / 2 : Nat)
  · obtain ⟨k, rfl⟩ := Int.eq_ofNat_of_zero_le h.1
    have hk : k < s.size / 2 := by omega
    have e : atOf s k = (((s[2 * k]'(by omega)).toNat * 256 + (s[2 * k + 1]'(by omega)).toNat : Nat) : Int) := by
      unfold atOf atI
      rw [if_pos ⟨h.1, by rw [us_length, hl]; exact h.2⟩, List.getD_eq_getElem?_getD, Int.toNat_natCast, us_get _ _ (by omega)]
      rfl
    rw [e]
    exact at_in s k w hs hk
  · have e : atOf s i = -1 := by
      unfold atOf atI
      rw [if_neg (by rw [us_length, hl]; exact h)]
    rw [e]
    exact (at_out s i w hs (by omega)).mono fun e w' ⟨h1, h2⟩ => ⟨h1, h2 ▸ Below.refl _ _⟩
theorem info5 : (Tryd.prog.info? 5).map (fun i => (i.zero, i.size, i.bytes)) = some (some (.int .u8 0), 1, 1) := by kernel_rfl
theorem info3 : (Tryd.prog.info? 3).map (fun i => (i.zero, i.size, i.bytes)) = some (some (.int .i64 0), 1, 8) := by kernel_rfl
/-- a byte, a number as values -/
def bv (b : UInt8) : Value := .int .u8 b.toNat
def nv (n : Nat) : Value := .int .i64 n
theorem wrap_hi (n : Nat) (hn : n < 65536) : ((UInt8.ofNat (n / 256)).toNat : Int) = (n : Int) / 256 := by
  rw [UInt8.toNat_ofNat']; omega
theorem wrap_lo (n : Nat) : ((UInt8.ofNat n).toNat : Int) = (n : Int) % 256 := by
  rw [UInt8.toNat_ofNat']; omega
/-- append of a literal onto a row of the call's own: what it leaves, in two words -/
theorem app_lit {P : Program} (w : World) {ops : Array Oper} {rest : List Oper} {o : Oper} {a : Act} {Q : Exit → Act → World → Prop} (hgd : o.guard = none) (s x : Operand) (t : TypeId)
    (ho : o.op = .call { callee := .builtin .append, args := #[s, x], argTypes := #[t, t] })
    (base : Nat) (e : TypeId) (i : TypeInfo) (z : Value) (bytes : Nat) (ht : P.underlying t = some (.slice e)) (hi : P.info? e = some i) (hz : i.zero = some z)
    (hsize : i.size = 1) (hby : i.bytes = bytes) (hzs : z.cells.size = 1)
    (v : Value) (n : Nat) (xs : List Value) (hs : a.eval s = v) (hown : w.ownsRow base e 1 v n xs)
    (arr : Array Value) (m : Nat) (hx : a.eval x = .slice (some ⟨w.heap.size, 0, none⟩) m m) (hm : arr.size = m) (h1 : ∀ u ∈ arr.toList, u.oneCell' = true)
    (h63 : n + m ≤ maxLen) (hbytes : (n + m) * bytes ≤ 140737488355328) (hbase : base ≤ w.heap.size)
    (h : ∀ v' w', w'.ownsRow base e 1 v' (n + m) (xs ++ arr.toList) → Below base w w' → wpList P ops Q rest (a.put o.dst v') w') : wpList P ops Q (o :: rest) a (w.alloc (.cells arr e)) := by
  refine wpList_append_own _ hgd s x t ho base e i z 1 bytes ht hi hz hsize hby hzs (by decide) v n xs hs (hown.alloc _) ⟨w.heap.size, 0, none⟩ m m arr.toList hx (by simpa using hm) ?_ h1 h63 hbytes (by simp; omega) ?_
  · intro j u hj
    have hadd : (⟨w.heap.size, 0, none⟩ : Addr).add j = ⟨w.heap.size, j, none⟩ := by unfold Addr.add; split <;> simp_all
    rw [hadd, World.cell?_alloc_at _ _ _ _ rfl]
    simpa using hj
  · intro v' w' hown' hg _
    refine h v' w' hown' ?_
    refine ((Below.refl base w).alloc hbase _).grown hg (by simp; omega) ?_
    intro k hk
    exact ((hown.alloc (.cells arr e)).lt k hk).1
/-- the same at a step of a statement that leaves its order open -/
theorem step_app {P : Program} (W : World) {ops : Array Oper} {o : Oper} {a : Act} {K : Act → World → Prop} {Q : Exit → Act → World → Prop} {E : Prop} (hgd : o.guard = none) (s x : Operand) (t : TypeId)
    (ho : o.op = .call { callee := .builtin .append, args := #[s, x], argTypes := #[t, t] })
    (base : Nat) (e : TypeId) (i : TypeInfo) (z : Value) (bytes : Nat) (ht : P.underlying t = some (.slice e)) (hi : P.info? e = some i) (hz : i.zero = some z)
    (hsize : i.size = 1) (hby : i.bytes = bytes) (hzs : z.cells.size = 1)
    (v : Value) (n : Nat) (xs : List Value) (hs : a.eval s = v) (hown : W.ownsRow base e 1 v n xs)
    (g : Nat) (arr : Array Value) (m : Nat) (hx : a.eval x = .slice (some ⟨g, 0, none⟩) m m) (hm : arr.size = m) (hnews : ∀ j u, arr[j]? = some u → W.cell? ⟨g, j, none⟩ = some u) (h1 : ∀ u ∈ arr.toList, u.oneCell' = true)
    (h63 : n + m ≤ maxLen) (hbytes : (n + m) * bytes ≤ 140737488355328) (hbase : base ≤ W.heap.size)
    (h : ∀ v' w', w'.ownsRow base e 1 v' (n + m) (xs ++ arr.toList) → Below base W w' → K (a.put o.dst v') w') : if Region.wanted o (yielded ops a.tmps) = true then Oper.wp P o a W K Q else E := by
  have hw : Region.wanted o (yielded ops a.tmps) = true := by simp [Region.wanted, hgd]
  rw [if_pos hw]
  refine wp_append_own W s x t ho base e i z 1 bytes ht hi hz hsize hby hzs (by decide) v n xs hs hown ⟨g, 0, none⟩ m m arr.toList hx (by simpa using hm) ?_ h1 h63 hbytes hbase ?_
  · intro j u hj
    have hadd : (⟨g, 0, none⟩ : Addr).add j = ⟨g, j, none⟩ := by unfold Addr.add; split <;> simp_all
    rw [hadd]
    exact hnews j u (by simpa using hj)
  · intro v' w' hown' hg _
    exact h v' w' hown' ((Below.refl base W).grown hg hbase fun k hk => (hown.lt k hk).1)
theorem new_cells (w : World) (arr : Array Value) (e : TypeId) (j : Nat) (u : Value) (h : arr[j]? = some u) : (w.alloc (.cells arr e)).cell? ⟨w.heap.size, j, none⟩ = some u := by
  rw [World.cell?_alloc_at _ _ _ _ rfl]
  simpa using h
set_option maxRecDepth 8000 in
theorem appendUnit_any (B : Nat) (v : Value) (n : Nat) (xs : List Value) (u : Nat) (w : World) (hown : w.ownsRow B 5 1 v n xs) (hu : u < 65536) (hn : n ≤ 140737488355320) (hB : B ≤ w.heap.size) :
    Calls Tryd.prog 52 #[v, .int .i64 u] w fun e w' => ∃ v', e = .returned v' ∧ w'.ownsRow B 5 1 v' (n + 2) (xs ++ [bv (UInt8.ofNat (u / 256)), bv (UInt8.ofNat u)]) ∧ Below B w w' := by
  obtain ⟨i0, hi, hz0, hz1, hz2⟩ := info_parts info5
  have E1 := Lib.hid (wrap_hi u hu)
  have E2 := Lib.hid (wrap_lo u)
  go_enter Tryd.func52, Tryd.ntmps52
  go_wp2_with (at_builtin; refine app_lit _ rfl _ _ 57 (by rfl) B 5 i0 _ 1 Tryd.underlying57 hi hz0 hz1 hz2 rfl _ _ _ (by rfl) hown _ 2 (by rfl) rfl ?c1 ?c2 ?c3 hB ?_)
  case c1 => exact ⟨rfl, rfl⟩
  case c2 => unfold maxLen; omega
  case c3 => omega
  intro v' w' hown' hb
  go_wp2
  go_ret
  refine ⟨_, rfl, ?_, hb⟩
  unfold bv
  rw [E1.out, E2.out]
  exact hown'
theorem us_snoc (s : ByteArray) (k : Nat) (h : 2 * k + 1 < s.size) : (us s.data.toList).take (k + 1) = (us s.data.toList).take k ++ [(s[2 * k]'(by omega)).toNat * 256 + (s[2 * k + 1]'h).toNat] := by
  rw [List.take_add_one, us_get _ _ (by rw [size_list]; exact h)]
  rfl
theorem ref_unit (a b : UInt8) : IntKind.i64.wrap (IntKind.i64.wrap (IntKind.i64.wrap (a.toNat : Int) * 256) + IntKind.i64.wrap (b.toNat : Int)) = ((a.toNat * 256 + b.toNat : Nat) : Int) := by
  have ha := a.toNat_lt
  have hb := b.toNat_lt
  simp only [IntKind.wrap_i64]
  omega
/-- a slice value that reads as numbers, in blocks from B on -/
def RowN (w : World) (B : Nat) (A : Option Addr) (xs : List Nat) : Prop :=
  xs = [] ∨ ∃ g, A = some ⟨g, 0, none⟩ ∧ B ≤ g ∧ g < w.heap.size ∧ ∀ j (h : j < xs.length), w.cell? ⟨g, j, none⟩ = some (nv xs[j])
theorem RowN.below {w w' : World} {B : Nat} {A : Option Addr} {xs : List Nat} (h : RowN w B A xs) (hb : Below w.heap.size w w') : RowN w' B A xs := by
  rcases h with h | ⟨g, rfl, h1, h2, h3⟩
  · exact .inl h
  · exact .inr ⟨g, rfl, h1, Nat.lt_of_lt_of_le h2 hb.size, fun j hj => (hb.cell (p := ⟨g, j, none⟩) h2).trans (h3 j hj)⟩
theorem RowN.of_own {w : World} {B : Nat} {e : TypeId} {v : Value} {n : Nat} {xs : List Nat} (h : w.ownsRow B e 1 v n (xs.map nv)) : n = xs.length ∧ ∃ A c, v = .slice A n c ∧ RowN w B A xs := by
  have hl : n = xs.length := by have := h.1; simp at this; omega
  refine ⟨hl, ?_⟩
  rcases h.2 with ⟨rfl, h0⟩ | ⟨g, cap, cur, rfl, hb, hg, _⟩
  · subst h0
    exact ⟨_, _, rfl, .inl (List.eq_nil_of_length_eq_zero hl.symm)⟩
  · refine ⟨_, _, rfl, .inr ⟨g, rfl, hb, (Array.getElem?_eq_some_iff.1 hg).1, fun j hj => ?_⟩⟩
    have hc := h.cells (g := g) rfl j (nv xs[j]) (by simp [hj])
    have hadd : (⟨g, 0, none⟩ : Addr).add j = ⟨g, j, none⟩ := by unfold Addr.add; split <;> simp_all
    rw [hadd] at hc
    exact hc
/-- what a call that answers a list of numbers leaves -/
def GivesN (w : World) (xs : List Nat) (e : Ending) (w' : World) : Prop := ∃ A c, e = .returned (.slice A xs.length c) ∧ RowN w' w.heap.size A xs ∧ Below w.heap.size w w'
set_option maxRecDepth 8000 in
theorem list_any (s : ByteArray) (w : World) (hs : s.size ≤ 16777216) :
    Calls Tryd.prog 40 #[.string s] w (GivesN w (us s.data.toList)) := by
  obtain ⟨i0, hi, hz0, hz1, hz2⟩ := info_parts info3
  go_enter Tryd.func40, Tryd.ntmps40
  go_wp2
  go_loopw [3, 4] (fun v i wr => ∃ k : Nat, 2 * k ≤ s.size ∧ i = .int .i64 (2 * (k : Int)) ∧ wr.ownsRow w.heap.size 3 1 v k (((us s.data.toList).take k).map nv) ∧ Below w.heap.size w wr)
    (fun _ i _ => s.size - (intOf i).toNat)
  case atStart => exact ⟨0, by omega, rfl, World.ownsRow_nil _ _ _ _, Below.refl _ _⟩
  case round =>
    obtain ⟨k, hk, rfl, hown, hb⟩ := hrel
    have hbz := hb.size
    have e2 : IntKind.i64.wrap (2 * (k : Int) + 1) = 2 * (k : Int) + 1 := IntWalk.i64_in _ (by omega)
    have e3 : (2 * (k : Int)).toNat = 2 * k := by omega
    have e4 : (2 * (k : Int) + 1).toNat = 2 * k + 1 := by omega
    have e5 : 0 ≤ 2 * (k : Int) := by omega
    have e6 : 0 ≤ 2 * (k : Int) + 1 := by omega
    by_cases hlt : 2 * k + 1 < s.size
    · have e7 : 2 * (k : Int) < s.size := by omega
      have e8 : 2 * (k : Int) + 1 < s.size := by omega
      have hm1 : k + 1 ≤ maxLen := by unfold maxLen; omega
      have hm2 : (k + 1) * 8 ≤ 140737488355328 := by omega
      go_wp2
      go_region_law ((refine step_app _ rfl (.tmp 12) (.tmp 24) 44 (by rfl) w.heap.size 3 i0 _ 8 Tryd.underlying44 hi hz0 hz1 hz2 rfl _ k _ (by rfl) (hown.alloc _) _ _ 1 (by rfl) rfl (new_cells _ _ _) (by simp; rfl) hm1 hm2 (by simp; omega) ?_; intro v' w' hown' hb'))
      all_goals
        have H : Hid (w'.ownsRow w.heap.size 3 1 v' (k + 1) (((us s.data.toList).take (k + 1)).map nv) ∧ Below w.heap.size w w') := by
          refine ⟨?_, (hb.alloc hbz _).drew.trans hb'⟩
          rw [us_snoc s k hlt, List.map_append, List.map_singleton]
          rw [ref_unit] at hown'
          exact hown'
        clear hown' hb' hown hb
        go_wp2
        go_roundw
        case rel => exact ⟨k + 1, by omega, by go_num, H.out.1, H.out.2⟩
        case measure => simp [intOf]; omega
    · have HE : Hid ((us s.data.toList).take k = us s.data.toList) := Lib.hid (List.take_of_length_le (by rw [us_length, size_list]; omega))
      go_wp2
      go_ret
      rw [HE.out] at hown
      obtain ⟨hn, A, c, rfl, hr⟩ := RowN.of_own hown
      exact ⟨A, c, by rw [hn]; rfl, hr, hb⟩
/-- a slice of bytes of the call's own, as a string -/
theorem string_of_own {P : Program} (w : World) (src dst e : TypeId) {B n : Nat} {v : Value} {l : Bs} (hs : P.underlying src = some (.slice e)) (he : P.underlying e = some (.int .u8)) (hd : P.underlying dst = some .string)
    (hown : w.ownsRow B e 1 v n (l.map bv)) : (convert src dst v).run P w = .ok (.string ⟨l.toArray⟩) w := by
  have hl : n = l.length := by have := hown.1; simp at this; omega
  subst hl
  rcases hown.2 with ⟨rfl, h0⟩ | ⟨g, cap, cur, rfl, hb, hg, hnc, _, hcs, htake⟩
  · obtain rfl := List.eq_nil_of_length_eq_zero h0
    exact run_convert_bytes_nil w src e hs he _ _ dst hd
  · refine run_convert_bytes_back w src dst e _ _ l hs he hd fun j hj => ?_
    exact hown.cells (g := g) rfl j _ (by simp [bv, hj])
theorem bs_snoc (xs : List Nat) (k : Nat) (h : k < xs.length) : (bs (xs.take (k + 1))).map bv = (bs (xs.take k)).map bv ++ [bv (UInt8.ofNat (xs[k] / 256)), bv (UInt8.ofNat xs[k])] := by
  rw [List.take_add_one, List.getElem?_eq_getElem h, bs_append]
  simp [bs]
set_option maxRecDepth 8000 in
theorem make_any (c : Nat) (xs : List Nat) (A : Option Addr) (B : Nat) (w : World) (hr : RowN w B A xs) (hx : ∀ n ∈ xs, n < 65536) (hs : xs.length ≤ 16777216) :
    Calls Tryd.prog 53 #[.slice A xs.length c] w fun e w' => e = .returned (.string ⟨(bs xs).toArray⟩) ∧ Below w.heap.size w w' := by
  obtain ⟨i0, hi, hz0, hz1, hz2⟩ := info_parts info5
  go_enter Tryd.func53, Tryd.ntmps53
  go_wp2
  go_loopw [3, 8] (fun v i wr => ∃ k : Nat, k ≤ xs.length ∧ i = .int .i64 k ∧ wr.ownsRow w.heap.size 5 1 v (2 * k) ((bs (xs.take k)).map bv) ∧ Below w.heap.size w wr)
    (fun _ i _ => xs.length - (intOf i).toNat)
  case atStart => exact ⟨0, by omega, rfl, World.ownsRow_nil _ _ _ _, Below.refl _ _⟩
  case round =>
    obtain ⟨k, hk, rfl, hown, hb⟩ := hrel
    by_cases hlt : k < xs.length
    · rcases hr with hr | ⟨g, rfl, hg1, hg2, hg3⟩
      · subst hr; simp at hlt
      have hc : wr.cell? ⟨g, k, none⟩ = some (.int .i64 (xs[k] : Nat)) := (hb.cell (p := ⟨g, k, none⟩) hg2).trans (hg3 k hlt)
      have hx1 : xs[k] < 65536 := hx _ (List.getElem_mem hlt)
      have E1 := Lib.hid (wrap_hi xs[k] hx1)
      have E2 := Lib.hid (wrap_lo xs[k])
      have E3 := Lib.hid (bs_snoc xs k hlt)
      clear hg3
      go_wp2_with (at_builtin; refine app_lit _ rfl _ _ 57 (by rfl) w.heap.size 5 i0 _ 1 Tryd.underlying57 hi hz0 hz1 hz2 rfl _ _ _ (by rfl) hown _ 2 (by rfl) rfl ?c1 ?c2 ?c3 hb.size ?_)
      case c1 => exact ⟨rfl, rfl⟩
      case c2 => unfold maxLen; omega
      case c3 => omega
      intro v' w' hown' hb'
      have H : Hid (w'.ownsRow w.heap.size 5 1 v' (2 * (k + 1)) ((bs (xs.take (k + 1))).map bv) ∧ Below w.heap.size w w') := by
        refine ⟨?_, hb.trans hb'⟩
        rw [E3.out]
        unfold bv
        rw [E1.out, E2.out]
        exact hown'
      clear hown' hb' hown hb
      go_wp2
      go_roundw
      case rel => exact ⟨k + 1, by omega, by go_num, H.out.1, H.out.2⟩
      case measure => simp [intOf]; omega
    · have hcv := string_of_own (P := Tryd.prog) wr 57 9 5 Tryd.underlying57 Tryd.underlying5 Tryd.underlying9 hown
      have HE : Hid (xs.take k = xs) := Lib.hid (List.take_of_length_le (by omega))
      rw [HE.out] at hcv
      go_wp2
      go_ret
      exact ⟨rfl, hb⟩
end Go.Proofs.YtjgafhodogbemaaDoor
