/-
  The package's Text; ReadNum, the package's and the reference's, by contract.
-/
import Derived.Test.YtjjjbjepgieahaaE
namespace Go.Proofs.Ytjjjbjepgieahaa
open Go.RowKit

theorem elem25 : Try.prog.elem 25 = 5 := by kernel_rfl
theorem und25 : Try.prog.underlying 25 = some (.slice (Try.prog.elem 25)) := by rw [elem25]; exact Try.underlying25
theorem size5 (w : World) : (sizeOf (Try.prog.elem 25)).run Try.prog w = .ok 1 w := by
  obtain ⟨i0, hi, hz0, hz1, hz2⟩ := info_parts info5
  rw [elem25]
  simp [sizeOf, typeInfo, hi, hz1]
/-- the address of what is cut off ahead -/
def cutA (A : Option Addr) (c k : Nat) : Option Addr := if c = k then A else A.map (·.add k)
theorem cutA_row {g c k : Nat} (h : c ≠ k) : cutA (some ⟨g, 0, none⟩) c k = some ⟨g, k, none⟩ := by
  unfold cutA
  rw [if_neg h]
  show some (Addr.add _ k) = _
  rw [add_lit, Nat.zero_add]
theorem Byt.cut {w : World} {A : Option Addr} {l : Bs} (h : Byt w A l) {k c : Nat} (hk : k ≤ l.length) (hc : l.length ≤ c) : Byt w (cutA A c k) (l.drop k) := h.drop hk hc
/-- a slice of bytes cut ahead -/
theorem cut_law {w : World} {ops : Array Oper} {rest : List Oper} {o : Oper} {a : Act} {Q : Exit → Act → World → Prop} (hgd : o.guard = none) (x y : Operand)
    (ho : o.op = .slice 25 x (some y) none none) (A : Option Addr) (n c : Nat) (hx : a.eval x = .slice A n c) (k : Nat) (hy : a.eval y = .int .i64 k) (hk : k ≤ n)
    (h : wpList Try.prog ops Q rest (a.put o.dst (.slice (cutA A c k) (n - k) (c - k))) w) : wpList Try.prog ops Q (o :: rest) a w := by
  refine wpList_plain hgd fun K hK => ?_
  have hrun : (Instr.sliceAt 25 (.slice A n c) (some (.int .i64 k)) none none).run Try.prog w = .ok (.slice (cutA A c k) (n - k) (c - k)) w := by
    rw [run_sliceAt_slice w _ _ _ _ _ und25, run_slice_l w _ A n c und25 .i64 k (by omega) (by omega), size5]
    simp [Result.andThen, sliced, cutA]
  unfold Oper.wp
  simp [execOp, ho, hx, hy, hrun, Result.andThen]
  exact hK _ _ h

/-- a row of the call's own from a later base is one from an earlier base -/
theorem own_lower {w : World} {B B' : Nat} {e : TypeId} {size n : Nat} {v : Value} {xs : List Value} (h : w.ownsRow B e size v n xs) (hB : B' ≤ B) : w.ownsRow B' e size v n xs := by
  refine ⟨h.1, ?_⟩
  rcases h.2 with h0 | ⟨g, cap, cur, h1, h2, h3⟩
  · exact .inl h0
  · exact .inr ⟨g, cap, cur, h1, Nat.le_trans hB h2, h3⟩
theorem size_info : (Try.prog.info? 5).map (·.size) = some 1 := by kernel_rfl
set_option maxRecDepth 4000 in
set_option maxHeartbeats 400000 in
theorem text_any (s : ByteArray) (w : World) (hs : s.size ≤ 140737488351232) : Calls Try.prog 14 #[.string s] w (GivesB w (text s.data.toList)) := by
  obtain ⟨i0, hi, hz0, hz1, hz2⟩ := info_parts info5
  have hw := wrap_len hs
  have HN : Hid (∀ w : World, Calls Try.prog 12 #[.int .u64 s.size] w (GivesB w (num s.size))) := fun w => num_any s.size w (len_lim hs)
  have HT : Hid (text s.data.toList = num s.size ++ s.data.toList) := by
    rw [text, size_list]
    exact Lib.hid rfl
  have hlen := (num_length s.size).2
  generalize num s.size = l at *
  go_enter Try.func14, Try.ntmps14
  go_wp2_with fail
  refine (HN.out _).mono ?_
  rintro e w1 ⟨v, rfl, hown, hb⟩
  obtain ⟨hk, A, c, rfl, hlc, hY⟩ := Byt.of_own hown
  clear hw HN hk hown
  have hsum : IntKind.i64.wrap ((l.length : Int) + (s.size : Int)) = (l.length : Int) + (s.size : Int) := IntWalk.i64_in _ (by omega)
  go_wp2_with (at_make; refine wpList_make_full _ rfl _ _ 25 (by rfl) w1.heap.size 5 i0 _ 1 Try.underlying25 hi hz0 hz1 .i64 .i64 _ _ (l.length + s.size) (by rfl) (by rfl) ?c1 ?c1b ?c2 ?c3 (Nat.le_refl _) ?_)
  case c1 => omega
  case c1b => omega
  case c2 => rw [hz2]; omega
  case c3 => unfold maxLen; omega
  intro w2 hown2 hg2
  have hb2 : Below w1.heap.size w1 w2 := (Below.refl _ _).grown hg2 (Nat.le_refl _) (by intro k hk; cases hk)
  clear hg2 hsum
  have hzl := hown2.1
  generalize (madeCells _ _).toList = zs at *
  have HZ := Lib.hid hzl
  have hY2 := hY.below hb2
  have HL : Hid (w.heap.size ≤ w1.heap.size) := Lib.hid hb.size
  have HG : Hid (w1.heap.size ≤ w2.heap.size) := Lib.hid hb2.size
  generalize w1.heap.size = g at *
  clear hzl hY
  go_wp2_with (refine copy_bytes (rfl) (.tmp 15) (.tmp 16) 25 25 (by rfl) 5 Try.underlying25 size_info g g _ _ zs hown2 0 _ _ _ (by rfl) (fun _ => rfl) A c l (by rfl) hY2 ?d1 ?d2 ?_)
  case d1 => omega
  case d2 => omega
  intro w3 hown3 hg3
  have hb3 : Below g w1 w3 := hb2.grown hg3 HG.out fun k hk => by injection hk with hk; omega
  have HS : Hid ((zs.drop l.length).length = s.size) := by
    rw [List.length_drop, HZ.out]
    show _ = _
    omega
  have HG3 : Hid (g ≤ w3.heap.size) := Lib.hid (Nat.le_trans HG.out hg3.size)
  clear hg3 hown2 hb2 hY2
  generalize zs.drop l.length = ys at *
  have hsub : l.length + s.size - l.length = s.size := by omega
  go_wp2_with (first
    | (refine cut_law rfl (.tmp 18) (.tmp 20) (by rfl) (some ⟨g, 0, none⟩) _ _ (by rfl) l.length (by rfl) (by omega) ?_)
    | (refine copy_str rfl (.tmp 21) (.tmp 22) 25 9 (by rfl) 5 Try.underlying25 size_info g g _ _ _ hown3 l.length _ _ _ (by rfl) ?e1 s (by rfl) ?e2 ?e3 ?_))
  case e1 => intro h; exact cutA_row (by omega)
  case e2 => omega
  case e3 => omega
  intro w4 hown4 hg4
  have H : Hid (w4.ownsRow w.heap.size 5 1 (.slice (some ⟨g, 0, none⟩) (l.length + s.size) (l.length + s.size)) (text s.data.toList).length ((text s.data.toList).map bv) ∧ Below w.heap.size w w4) := by
    have hb4 : Below g w1 w4 := hb3.grown hg4 HG3.out fun k hk => by injection hk with hk; omega
    refine ⟨?_, hb.trans (hb4.mono HL.out)⟩
    rw [HT.out, List.length_append, List.map_append, size_list]
    have e : (l.map bv ++ ys).drop (l.length + s.size) = [] := List.drop_eq_nil_of_le (by rw [List.length_append, List.length_map, HS.out]; exact Nat.le_refl _)
    have := own_lower hown4 HL.out
    simpa [e] using this
  clear hown4 hg4 hown3 hb3 hb
  go_wp2
  go_ret
  exact ⟨_, rfl, H.out.1, H.out.2⟩

end Go.Proofs.Ytjjjbjepgieahaa
