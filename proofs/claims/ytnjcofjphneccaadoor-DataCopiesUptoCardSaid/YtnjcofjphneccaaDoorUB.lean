/-
  rows of bytes and of numbers; the reference's List.
-/
import Derived.Test.YtnjcofjphneccaaDoorUA
import Derived.Deep.RegionLaw
import Derived.Maps.AppendAt
namespace Go.Proofs.YtnjcofjphneccaaDoor
open Go.RowKit

theorem info5 : (Tryd.prog.info? 5).map (fun i => (i.zero, i.size, i.bytes)) = some (some (.int .u8 0), 1, 1) := by kernel_rfl
theorem info3 : (Tryd.prog.info? 3).map (fun i => (i.zero, i.size, i.bytes)) = some (some (.int .i64 0), 1, 8) := by kernel_rfl
/-- a byte, a number as values -/
def bv (b : UInt8) : Value := .int .u8 b.toNat
def nv (n : Nat) : Value := .int .i64 n
theorem wrap_hi (n : Nat) (hn : n < 65536) : ((UInt8.ofNat (n / 256)).toNat : Int) = (n : Int) / 256 := by
  rw [UInt8.toNat_ofNat']; omega
theorem wrap_lo (n : Nat) : ((UInt8.ofNat n).toNat : Int) = (n : Int) % 256 := by
  rw [UInt8.toNat_ofNat']; omega
/-- append of a literal onto a row of the call's own: what it leaves, in two words -/
theorem app_lit {P : Program} (w : World) {ops : Array Oper} {rest : List Oper} {o : Oper} {a : Act} {Q : Exit → Act → World → Prop} (hgd : o.guard = none) (s x : Operand) (t : TypeId)
    (ho : o.op = .call { callee := .builtin .append, args := #[s, x], argTypes := #[t, t] })
    (base : Nat) (e : TypeId) (i : TypeInfo) (z : Value) (bytes : Nat) (ht : P.underlying t = some (.slice e)) (hi : P.info? e = some i) (hz : i.zero = some z)
    (hsize : i.size = 1) (hby : i.bytes = bytes) (hzs : z.cells.size = 1)
    (v : Value) (n : Nat) (xs : List Value) (hs : a.eval s = v) (hown : w.ownsRow base e 1 v n xs)
    (arr : Array Value) (m : Nat) (hx : a.eval x = .slice (some ⟨w.heap.size, 0, none⟩) m m) (hm : arr.size = m) (h1 : ∀ u ∈ arr.toList, u.oneCell' = true)
    (h63 : n + m ≤ maxLen) (hbytes : (n + m) * bytes ≤ 140737488355328) (hbase : base ≤ w.heap.size)
    (h : ∀ v' w', w'.ownsRow base e 1 v' (n + m) (xs ++ arr.toList) → Below base w w' → wpList P ops Q rest (a.put o.dst v') w') : wpList P ops Q (o :: rest) a (w.alloc (.cells arr e)) := by
  refine wpList_append_own _ hgd s x t ho base e i z 1 bytes ht hi hz hsize hby hzs (by decide) v n xs hs (hown.alloc _) ⟨w.heap.size, 0, none⟩ m m arr.toList hx (by simpa using hm) ?_ h1 h63 hbytes (by simp; omega) ?_
  · intro j u hj
    have hadd : (⟨w.heap.size, 0, none⟩ : Addr).add j = ⟨w.heap.size, j, none⟩ := by unfold Addr.add; split <;> simp_all
    rw [hadd, World.cell?_alloc_at _ _ _ _ rfl]
    simpa using hj
  · intro v' w' hown' hg _
    refine h v' w' hown' ?_
    refine ((Below.refl base w).alloc hbase _).grown hg (by simp; omega) ?_
    intro k hk
    exact ((hown.alloc (.cells arr e)).lt k hk).1
/-- the same at a step of a statement that leaves its order open -/
theorem step_app {P : Program} (W : World) {ops : Array Oper} {o : Oper} {a : Act} {K : Act → World → Prop} {Q : Exit → Act → World → Prop} {E : Prop} (hgd : o.guard = none) (s x : Operand) (t : TypeId)
    (ho : o.op = .call { callee := .builtin .append, args := #[s, x], argTypes := #[t, t] })
    (base : Nat) (e : TypeId) (i : TypeInfo) (z : Value) (bytes : Nat) (ht : P.underlying t = some (.slice e)) (hi : P.info? e = some i) (hz : i.zero = some z)
    (hsize : i.size = 1) (hby : i.bytes = bytes) (hzs : z.cells.size = 1)
    (v : Value) (n : Nat) (xs : List Value) (hs : a.eval s = v) (hown : W.ownsRow base e 1 v n xs)
    (g : Nat) (arr : Array Value) (m : Nat) (hx : a.eval x = .slice (some ⟨g, 0, none⟩) m m) (hm : arr.size = m) (hnews : ∀ j u, arr[j]? = some u → W.cell? ⟨g, j, none⟩ = some u) (h1 : ∀ u ∈ arr.toList, u.oneCell' = true)
    (h63 : n + m ≤ maxLen) (hbytes : (n + m) * bytes ≤ 140737488355328) (hbase : base ≤ W.heap.size)
    (h : ∀ v' w', w'.ownsRow base e 1 v' (n + m) (xs ++ arr.toList) → Below base W w' → K (a.put o.dst v') w') : if Region.wanted o (yielded ops a.tmps) = true then Oper.wp P o a W K Q else E := by
  have hw : Region.wanted o (yielded ops a.tmps) = true := by simp [Region.wanted, hgd]
  rw [if_pos hw]
  refine wp_append_own W s x t ho base e i z 1 bytes ht hi hz hsize hby hzs (by decide) v n xs hs hown ⟨g, 0, none⟩ m m arr.toList hx (by simpa using hm) ?_ h1 h63 hbytes hbase ?_
  · intro j u hj
    have hadd : (⟨g, 0, none⟩ : Addr).add j = ⟨g, j, none⟩ := by unfold Addr.add; split <;> simp_all
    rw [hadd]
    exact hnews j u (by simpa using hj)
  · intro v' w' hown' hg _
    exact h v' w' hown' ((Below.refl base W).grown hg hbase fun k hk => (hown.lt k hk).1)
theorem new_cells (w : World) (arr : Array Value) (e : TypeId) (j : Nat) (u : Value) (h : arr[j]? = some u) : (w.alloc (.cells arr e)).cell? ⟨w.heap.size, j, none⟩ = some u := by
  rw [World.cell?_alloc_at _ _ _ _ rfl]
  simpa using h
theorem us_snoc (s : ByteArray) (k : Nat) (h : 2 * k + 1 < s.size) : (us s.data.toList).take (k + 1) = (us s.data.toList).take k ++ [(s[2 * k]'(by omega)).toNat * 256 + (s[2 * k + 1]'h).toNat] := by
  rw [List.take_add_one, us_get _ _ (by rw [size_list]; exact h)]
  rfl
theorem ref_unit (a b : UInt8) : IntKind.i64.wrap (IntKind.i64.wrap (IntKind.i64.wrap (a.toNat : Int) * 256) + IntKind.i64.wrap (b.toNat : Int)) = ((a.toNat * 256 + b.toNat : Nat) : Int) := by
  have ha := a.toNat_lt
  have hb := b.toNat_lt
  simp only [IntKind.wrap_i64]
  omega
/-- a slice value that reads as numbers, in blocks from B on -/
def RowN (w : World) (B : Nat) (A : Option Addr) (xs : List Nat) : Prop :=
  xs = [] ∨ ∃ g, A = some ⟨g, 0, none⟩ ∧ B ≤ g ∧ g < w.heap.size ∧ ∀ j (h : j < xs.length), w.cell? ⟨g, j, none⟩ = some (nv xs[j])
theorem RowN.below {w w' : World} {B : Nat} {A : Option Addr} {xs : List Nat} (h : RowN w B A xs) (hb : Below w.heap.size w w') : RowN w' B A xs := by
  rcases h with h | ⟨g, rfl, h1, h2, h3⟩
  · exact .inl h
  · exact .inr ⟨g, rfl, h1, Nat.lt_of_lt_of_le h2 hb.size, fun j hj => (hb.cell (p := ⟨g, j, none⟩) h2).trans (h3 j hj)⟩
theorem RowN.of_own {w : World} {B : Nat} {e : TypeId} {v : Value} {n : Nat} {xs : List Nat} (h : w.ownsRow B e 1 v n (xs.map nv)) : n = xs.length ∧ ∃ A c, v = .slice A n c ∧ RowN w B A xs := by
  have hl : n = xs.length := by have := h.1; simp at this; omega
  refine ⟨hl, ?_⟩
  rcases h.2 with ⟨rfl, h0⟩ | ⟨g, cap, cur, rfl, hb, hg, _⟩
  · subst h0
    exact ⟨_, _, rfl, .inl (List.eq_nil_of_length_eq_zero hl.symm)⟩
  · refine ⟨_, _, rfl, .inr ⟨g, rfl, hb, (Array.getElem?_eq_some_iff.1 hg).1, fun j hj => ?_⟩⟩
    have hc := h.cells (g := g) rfl j (nv xs[j]) (by simp [hj])
    have hadd : (⟨g, 0, none⟩ : Addr).add j = ⟨g, j, none⟩ := by unfold Addr.add; split <;> simp_all
    rw [hadd] at hc
    exact hc
/-- what a call that answers a list of numbers leaves -/
def GivesN (w : World) (xs : List Nat) (e : Ending) (w' : World) : Prop := ∃ A c, e = .returned (.slice A xs.length c) ∧ RowN w' w.heap.size A xs ∧ Below w.heap.size w w'
theorem list_any (s : ByteArray) (w : World) (hs : s.size ≤ 16777216) :
    Calls Tryd.prog 56 #[.string s] w (GivesN w (us s.data.toList)) := by
  obtain ⟨i0, hi, hz0, hz1, hz2⟩ := info_parts info3
  go_enter Tryd.func56, Tryd.ntmps56
  go_wp2
  go_loopw [3, 4] (fun v i wr => ∃ k : Nat, 2 * k ≤ s.size ∧ i = .int .i64 (2 * (k : Int)) ∧ wr.ownsRow w.heap.size 3 1 v k (((us s.data.toList).take k).map nv) ∧ Below w.heap.size w wr)
    (fun _ i _ => s.size - (intOf i).toNat)
  case atStart => exact ⟨0, by omega, rfl, World.ownsRow_nil _ _ _ _, Below.refl _ _⟩
  case round =>
    obtain ⟨k, hk, rfl, hown, hb⟩ := hrel
    have hbz := hb.size
    have e2 : IntKind.i64.wrap (2 * (k : Int) + 1) = 2 * (k : Int) + 1 := IntWalk.i64_in _ (by omega)
    have e3 : (2 * (k : Int)).toNat = 2 * k := by omega
    have e4 : (2 * (k : Int) + 1).toNat = 2 * k + 1 := by omega
    have e5 : 0 ≤ 2 * (k : Int) := by omega
    have e6 : 0 ≤ 2 * (k : Int) + 1 := by omega
    by_cases hlt : 2 * k + 1 < s.size
    · have e7 : 2 * (k : Int) < s.size := by omega
      have e8 : 2 * (k : Int) + 1 < s.size := by omega
      have hm1 : k + 1 ≤ maxLen := by unfold maxLen; omega
      have hm2 : (k + 1) * 8 ≤ 140737488355328 := by omega
      go_wp2
      go_region_law ((refine step_app _ rfl (.tmp 12) (.tmp 24) 67 (by rfl) w.heap.size 3 i0 _ 8 Tryd.underlying67 hi hz0 hz1 hz2 rfl _ k _ (by rfl) (hown.alloc _) _ _ 1 (by rfl) rfl (new_cells _ _ _) (by simp; rfl) hm1 hm2 (by simp; omega) ?_; intro v' w' hown' hb'))
      all_goals
        have H : Hid (w'.ownsRow w.heap.size 3 1 v' (k + 1) (((us s.data.toList).take (k + 1)).map nv) ∧ Below w.heap.size w w') := by
          refine ⟨?_, (hb.alloc hbz _).drew.trans hb'⟩
          rw [us_snoc s k hlt, List.map_append, List.map_singleton]
          rw [ref_unit] at hown'
          exact hown'
        clear hown' hb' hown hb
        go_wp2
        go_roundw
        case rel => exact ⟨k + 1, by omega, by go_num, H.out.1, H.out.2⟩
        case measure => simp [intOf]; omega
    · have HE : Hid ((us s.data.toList).take k = us s.data.toList) := Lib.hid (List.take_of_length_le (by rw [us_length, size_list]; omega))
      go_wp2
      go_ret
      rw [HE.out] at hown
      obtain ⟨hn, A, c, rfl, hr⟩ := RowN.of_own hown
      exact ⟨A, c, by rw [hn]; rfl, hr, hb⟩
/-- a slice of bytes of the call's own, as a string -/
theorem string_of_own {P : Program} (w : World) (src dst e : TypeId) {B n : Nat} {v : Value} {l : Bs} (hs : P.underlying src = some (.slice e)) (he : P.underlying e = some (.int .u8)) (hd : P.underlying dst = some .string)
    (hown : w.ownsRow B e 1 v n (l.map bv)) : (convert src dst v).run P w = .ok (.string ⟨l.toArray⟩) w := by
  have hl : n = l.length := by have := hown.1; simp at this; omega
  subst hl
  rcases hown.2 with ⟨rfl, h0⟩ | ⟨g, cap, cur, rfl, hb, hg, hnc, _, hcs, htake⟩
  · obtain rfl := List.eq_nil_of_length_eq_zero h0
    exact run_convert_bytes_nil w src e hs he _ _ dst hd
  · refine run_convert_bytes_back w src dst e _ _ l hs he hd fun j hj => ?_
    exact hown.cells (g := g) rfl j _ (by simp [bv, hj])
theorem atI_in {u : List Nat} {k : Nat} (h : k < u.length) : atI u k = (u[k] : Nat) := by
  unfold atI
  rw [if_pos ⟨by omega, by omega⟩, List.getD_eq_getElem?_getD, Int.toNat_natCast, List.getElem?_eq_getElem h]
  rfl
theorem atI_out {u : List Nat} {i : Int} (h : i < 0 ∨ (u.length : Int) ≤ i) : atI u i = -1 := by
  unfold atI
  rw [if_neg (by omega)]
end Go.Proofs.YtnjcofjphneccaaDoor
