/-
  The reference: own of an object; own of any node.
-/
import Derived.Test.YtgehgccgologpaaYb
import Derived.OwnWalk
namespace Go.Proofs.Ytgehgccgologpaa.Z
open Go.RowKit Go.Shelf Go.Proofs.Ytgehgccgologpaa Go.Proofs.Ytgehgccgologpaa.R Go.Proofs.Ytgehgccgologpaa.T

theorem wl_appS {ops : Array Oper} {rest : List Oper} {o : Oper} {a : Act} {w : World} {Q : Exit → Act → World → Prop} (hgd : o.guard = none) (s x : Operand)
    (ho : o.op = .call { callee := .builtin .append, args := #[s, x], argTypes := #[22, 22] })
    (C : Nat) (nv : Value) (L : List ByteArray) (hs : a.eval s = nv) (hown : OwnT w C nv L) (g : Nat) (y : ByteArray) (hx : a.eval x = .slice (some ⟨g, 0, none⟩) 1 1) (hc : w.cell? ⟨g, 0, none⟩ = some (.string y)) (hl : L.length ≤ 4194304) (hb : C ≤ w.heap.size)
    (h : ∀ nv' w', OwnT w' C nv' (L ++ [y]) → w.grownBy w' nv.ownBlock → wpList Try.prog ops Q rest (a.put o.dst nv') w') : wpList Try.prog ops Q (o :: rest) a w := by
  refine wpList_plain hgd fun K hK => ?_
  obtain ⟨i0, hi0, hz0, hz1, hz2⟩ := info_parts infoSt
  obtain ⟨nv', w', hr, q2, q3, -, -⟩ := run_append_own_at (P := Try.prog) w C 22 o.type 9 i0 _ 1 16 (by kernel_rfl) hi0 hz0 hz1 hz2 rfl (by decide) nv L.length (strV L) hown ⟨g, 0, none⟩ 1 1 [.string y] rfl
    (fun j u hj => by
      match j with
      | 0 => rw [add_lit]; simp at hj; subst hj; exact hc
      | j + 1 => simp at hj) (fun u hu => by simp at hu; subst hu; rfl) (by unfold maxLen; omega) (by omega) hb
  unfold Oper.wp execOp
  simp only [ho, resolve, invoke, builtin, Sem.run_bind, Sem.run_pure, Result.andThen_ok, List.map_toArray, List.map_cons, List.map_nil, hs, hx, hr]
  refine hK _ _ (h nv' w' ?_ q3)
  show World.ownsRow _ _ _ _ _ _ _
  rw [List.length_append, strV, List.map_append]
  exact q2
theorem OwnT.nil (w : World) (b : Nat) : OwnT w b (.slice none 0 0) [] := ⟨rfl, .inl ⟨rfl, rfl⟩⟩
set_option maxRecDepth 8000 in
set_option maxHeartbeats 1000000 in
theorem own_8 (v : V) (x : X) (a : Ar) (z : ArX) (w : World) (hx : Is w v x) (hk : v.k = 8) (hb : v.bulk ≤ 4194304) : Calls Try.prog 54 #[x.v, z.v a] w (AnsB w (!dup (v.l.map V.s))) := by
  obtain ⟨xka, xkc, xla, xlc, rfl, -, -, -, hrow⟩ := hx.open
  have HT := Lib.hid (opr_new w v xka xkc xla xlc a z)
  have HROW := Lib.hid fun w' (h : Below w.heap.size w w') => RowB.below hrow h
  have hbp := bulk_parts v
  have hll : v.l.length ≤ 4194304 := by have := length_le_bulks v.l; omega
  have hlli : (v.l.length : Int) ≤ 4194304 := by omega
  simp only [X.v, ArX.v, ArX.cells]
  rw [hk] at HT ⊢
  obtain ⟨W0, hW0, hop⟩ := HT.out
  obtain ⟨c0, c1, c2, c3, c4, c5⟩ := hop.n'.six
  have HW0 := Lib.hid hW0
  have HA := Lib.hid hop
  rw [hk] at c0
  clear hx hW0 hop HT hrow hbp hb hk
  go_enter Try.func54, Try.ntmps54
  go_upto_region 1 with (fail)
  rw [HW0.out]
  go_wp2_with fail
  go_loopw [7, 70] (fun kv i wr => ∃ j : Nat, j ≤ v.l.length ∧ i = .int .i64 j ∧ Hid (OwnT wr W0.heap.size kv ((v.l.take j).map V.s)) ∧ Hid (Below W0.heap.size W0 wr)) (fun _ i _ => v.l.length - (intOf i).toNat)
  case atStart => exact ⟨0, Nat.zero_le _, rfl, Lib.hid (OwnT.nil _ _), Lib.hid (Below.refl _ _)⟩
  case round =>
    obtain ⟨j, hj, rfl, hown, hbw⟩ := hrel
    by_cases hlt : j < v.l.length
    · obtain ⟨g, o, rfl, hg, y, hat, hy⟩ := (HROW.out wr (HA.out.bl.trans (hbw.out.mono HA.out.bl.size))).at_ hlt
      obtain ⟨yka, ykc, yla, ylc, rfl, -, -, -, -⟩ := hy.open
      have HNX : Hid ((v.l.take (j + 1)).map V.s = (v.l.take j).map V.s ++ [v.l[j].s]) := by
        show _ = _
        rw [List.take_succ_eq_append_getElem hlt, List.map_append]
        rfl
      generalize v.l[j] = u at *
      obtain ⟨d0, d1, d2, d3, d4, d5⟩ := hat.six
      have hlen : ((v.l.take j).map V.s).length ≤ 4194304 := by rw [List.length_map, List.length_take]; omega
      have HLEN := Lib.hid hlen
      clear hy hat hlen
      obtain ⟨cs, hcs⟩ : ∃ cs : Array Value, #[.int .i64 u.k, .string u.nm, .int .i64 u.n, .string u.s, .slice yka u.ks.length ykc, .slice yla u.l.length ylc] = cs := ⟨_, rfl⟩
      have hbA := below_alloc wr (.cells cs 25)
      have hbB := hbA.trans ((below_alloc (wr.alloc (.cells cs 25)) (.cells #[.string u.s] 9)).mono hbA.size)
      have hzB : ((wr.alloc (.cells cs 25)).alloc (.cells #[.string u.s] 9)).heap.size = wr.heap.size + 1 + 1 := by simp
      have hcB : ((wr.alloc (.cells cs 25)).alloc (.cells #[.string u.s] 9)).cell? ⟨wr.heap.size + 1, 0, none⟩ = some (.string u.s) := by simp
      rw [← hcs] at hbB hzB hcB
      have HB2 := Lib.hid hbB
      have HZ2 := Lib.hid hzB
      have HC2 := Lib.hid hcB
      have HOB := Lib.hid (own_sameB hown.out fun k hk => hbB.block k (World.ownsRow.lt hown.out k hk).2)
      clear hcs hbA hbB hzB hcB
      go_wp2_with (first
        | (at_builtin; refine wl_appS rfl _ _ (by rfl) W0.heap.size _ ((v.l.take j).map V.s) (by rfl) HOB.out (wr.heap.size + 1) u.s (by rfl) HC2.out HLEN.out ?k1 ?_; (case k1 => have := hbw.out.size; have := HZ2.out; omega); intro kv2 w3 h1 h2)
        | fail)
      have HG := Lib.hid ((hbw.out.trans (HB2.out.mono hbw.out.size)).grown h2 (by have := hbw.out.size; have := HZ2.out; omega) fun k hk => (hown.out.cells hk).1)
      go_roundw
      case rel => exact ⟨j + 1, hlt, by go_num, Lib.hid (by rw [HNX.out]; exact h1), HG⟩
      case measure => simp [intOf]; omega
    · obtain rfl : j = v.l.length := by omega
      rw [List.take_length] at hown
      obtain ⟨A2, c2, he, hc2, hst⟩ := hown.out.form
      rw [List.length_map] at he hc2
      subst he
      have HTW := Lib.hid (twice_any (v.l.map V.s) A2 v.l.length c2 wr hst (by rw [List.length_map]) hll hc2)
      have HB3 := Lib.hid (HA.out.bl.trans (hbw.out.mono HA.out.bl.size))
      clear hown hst hc2
      go_wp2_with fail
      refine HTW.out.mono ?_
      rintro e w4 ⟨rfl, rfl⟩
      go_wp2_with fail
      go_ret
      exact ⟨rfl, HB3.out⟩
/-- what own answers -/
def ownP (v : V) (a : Ar) : Bool :=
  if v.k = 23 ∨ v.k = 35 then !bar v.nm
  else if v.k = 39 ∨ v.k = 10 then !(bar v.nm || v.ks.any bar || dup v.ks)
  else if v.k = 20 ∨ v.k = 16 ∨ v.k = 30 then !hd v.l fun x => isNam x && bar x.nm
  else if v.k = 15 then !(decide (v.nm = delS) && hd v.l isNam)
  else if v.k = 8 then !dup (v.l.map V.s)
  else if v.k = 33 then a.inside
  else if v.k = 31 then (if v.nm.size = 0 then a.breaks else hasB a.labels v.nm)
  else if v.k = 32 then (if v.nm.size = 0 then a.loop else hasB a.loops v.nm)
  else if v.k = 38 then !hasB a.labels v.nm
  else true
theorem own_all (v : V) (x : X) (a : Ar) (z : ArX) (w : World) (hx : Is w v x) (ha : IsAr w w.heap.size a z) (hb : v.bulk ≤ 4194304) (hne : v.k = 20 ∨ v.k = 16 ∨ v.k = 30 ∨ v.k = 15 → ¬ v.l = []) : Calls Try.prog 54 #[x.v, z.v a] w (AnsB w (ownP v a)) := by
  unfold ownP
  split
  · rename_i h
    rcases h with h | h
    · exact own_23 v x a z w hx ha h
    · exact own_35 v x a z w hx ha h
  split
  · rename_i h
    rcases h with h | h
    · exact own_39 v x a z w hx ha h hb
    · exact own_10 v x a z w hx ha h hb
  split
  · rename_i h
    rcases h with h | h | h
    · exact own_20 v x a z w hx ha h hb (hne (.inl h))
    · exact own_16 v x a z w hx ha h hb (hne (.inr (.inl h)))
    · exact own_30 v x a z w hx ha h hb (hne (.inr (.inr (.inl h))))
  split
  · rename_i h
    by_cases hd' : v.nm = delS
    · obtain ⟨u, r, hl⟩ : ∃ u r, v.l = u :: r := by
        rcases hc : v.l with _ | ⟨u, r⟩
        · exact absurd hc (hne (.inr (.inr (.inr h))))
        · exact ⟨u, r, rfl⟩
      rw [decide_eq_true hd', Bool.true_and, hl]
      exact own_15t v x a z w hx ha h hb u r hl hd'
    · rw [decide_eq_false hd', Bool.false_and]
      exact own_15f v x a z w hx ha h hd'
  split
  · rename_i h
    exact own_8 v x a z w hx h hb
  split
  · rename_i h
    exact own_33 v x a z w hx ha h
  split
  · rename_i h
    split
    · rename_i hz
      exact own_31e v x a z w hx ha h hz
    · rename_i hz
      exact own_31n v x a z w hx ha h hz
  split
  · rename_i h
    split
    · rename_i hz
      exact own_32e v x a z w hx ha h hz
    · rename_i hz
      exact own_32n v x a z w hx ha h hz
  split
  · rename_i h
    exact own_38 v x a z w hx ha h
  · rename_i h1 h2 h3 h4 h5 h6 h7 h8 h9
    exact own_no v x a z w hx ha (by omega) (by omega) (by omega) (by omega) (by omega) (by omega) (by omega) (by omega) (by omega) (by omega) (by omega) (by omega) (by omega)
end Go.Proofs.Ytgehgccgologpaa.Z
