/-
  A row of names copied by append.
  The reference: may, given within.
-/
import Derived.Test.YtgehgccgologpaaYd
namespace Go.Proofs.Ytgehgccgologpaa.Z
open Go.RowKit Go.Shelf Go.Proofs.Ytgehgccgologpaa Go.Proofs.Ytgehgccgologpaa.R Go.Proofs.Ytgehgccgologpaa.T

theorem run_copyS (w : World) (ty : TypeId) (A : Option Addr) (c : Nat) (L : List ByteArray) (hA : Strs w A L) (hl : L.length ≤ 4194304) :
    ∃ nv w', (Builtin.append_ #[22, 22] ty #[.slice none 0 0, .slice A L.length c]).run Try.prog w = .ok nv w' ∧ OwnT w' w.heap.size nv L ∧ w.grownBy w' none ∧ (nv.ownBlock = none ∨ nv.ownBlock = some w.heap.size) := by
  obtain ⟨i0, hi0, hz0, hz1, hz2⟩ := info_parts infoSt
  by_cases h0 : L = []
  · subst h0
    have ht : Try.prog.underlying 22 = some (.slice 9) := by kernel_rfl
    refine ⟨.slice none 0 0, w, ?_, OwnT.nil _ _, ⟨rfl, rfl, rfl, Nat.le_refl _, fun _ _ _ => rfl⟩, .inl rfl⟩
    cases A <;> simp [Builtin.append_, Builtin.lenOf, Builtin.firstCells, run_underlying ht, sizeOf, typeInfo, hi0, loadCells, loadCellsFrom]
  · rcases hA with rfl | ⟨g, o, rfl, hg, hc⟩
    · exact absurd rfl h0
    · obtain ⟨nv, w', hr, q2, q3, -, q5⟩ := run_append_own_at (P := Try.prog) w w.heap.size 22 ty 9 i0 _ 1 16 (by kernel_rfl) hi0 hz0 hz1 hz2 rfl (by decide) (.slice none 0 0) 0 [] (OwnT.nil w _) ⟨g, o, none⟩ L.length c (strV L) (by simp)
        (fun j u hj => by
          rw [add_lit]
          obtain ⟨hj1, hj2⟩ := List.getElem?_eq_some_iff.1 hj
          rw [List.length_map] at hj1
          rw [hc j hj1, ← hj2, List.getElem_map]) (fun u hu => by obtain ⟨s, -, rfl⟩ := List.mem_map.1 hu; rfl) (by unfold maxLen; omega) (by omega) (Nat.le_refl _)
      refine ⟨nv, w', hr, ?_, q3, q5⟩
      rw [Nat.zero_add, List.nil_append] at q2
      exact q2
theorem step_copyS {ops : Array Oper} {o : Oper} {a : Act} {w : World} {K : Act → World → Prop} {Q : Exit → Act → World → Prop} {E : Prop} (hgd : o.guard = none) (s x : Operand)
    (ho : o.op = .call { callee := .builtin .append, args := #[s, x], argTypes := #[22, 22] }) (hs : a.eval s = .slice none 0 0) (A : Option Addr) (n c : Nat) (L : List ByteArray) (hx : a.eval x = .slice A n c) (hn : n = L.length) (hA : Strs w A L) (hl : n ≤ 4194304)
    (h : ∀ nv w', OwnT w' w.heap.size nv L → w.grownBy w' none → (nv.ownBlock = none ∨ nv.ownBlock = some w.heap.size) → K (a.put o.dst nv) w') :
    if Region.wanted o (yielded ops a.tmps) = true then Oper.wp Try.prog o a w K Q else E := by
  subst hn
  have hw : Region.wanted o (yielded ops a.tmps) = true := by simp [Region.wanted, hgd]
  rw [if_pos hw]
  obtain ⟨nv, w', hr, q2, q3, q5⟩ := run_copyS w o.type A c L hA hl
  unfold Oper.wp execOp
  simp only [ho, resolve, invoke, builtin, Sem.run_bind, Sem.run_pure, Result.andThen_ok, List.map_toArray, List.map_cons, List.map_nil, hs, hx, hr]
  exact h nv w' q2 q3 q5
theorem maysP_cut (l : List V) (a : Ar) (j : Nat) (h : j < l.length) : maysP (l.drop j) a = (mayP l[j] a && maysP (l.drop (j + 1)) a) := by
  rw [List.drop_eq_getElem_cons h, maysP]
theorem sizes_mem {l : List V} {j : Nat} (h : j < l.length) : l[j].size ≤ V.sizes l := by
  induction l generalizing j with
  | nil => exact absurd h (Nat.not_lt_zero _)
  | cons v r ih =>
    rw [V.sizes]
    cases j with
    | zero => simp
    | succ j =>
      have := ih (j := j) (by simpa using h)
      simp only [List.getElem_cons_succ]
      omega
def WithinOk : Prop := ∀ (v : V) (x : X) (a : Ar) (z : ArX) (w : World), Is w v x → IsAr w w.heap.size a z → v.bulk ≤ 4194304 → v.ok = true → a.labels.length < 4194304 → a.loops.length < 4194304 →
  Calls Try.prog 55 #[x.v, z.v a] w fun e w' => ∃ z' : ArX, e = .returned (z'.v (withinP v a)) ∧ IsAr w' w'.heap.size (withinP v a) z' ∧ Below w.heap.size w w'
theorem withinP_len (v : V) (a : Ar) : (withinP v a).labels.length ≤ a.labels.length + 1 ∧ (withinP v a).loops.length ≤ a.loops.length + 1 := by
  unfold withinP
  split
  · exact ⟨Nat.zero_le _, Nat.zero_le _⟩
  split
  · exact ⟨Nat.le_succ _, Nat.le_succ _⟩
  split
  · exact ⟨Nat.le_succ _, Nat.le_succ _⟩
  split
  · refine ⟨by simp, ?_⟩
    dsimp only
    split <;> simp
  · exact ⟨Nat.le_succ _, Nat.le_succ _⟩
set_option maxRecDepth 8000 in
set_option maxHeartbeats 2000000 in
theorem may_of (hw : WithinOk) : ∀ (n : Nat) (v : V), v.size ≤ n → ∀ (x : X) (a : Ar) (z : ArX) (w : World), Is w v x → IsAr w w.heap.size a z → v.bulk ≤ 4194304 → v.ok = true → a.labels.length + v.size ≤ 4194304 → a.loops.length + v.size ≤ 4194304 →
    Calls Try.prog 29 #[x.v, z.v a] w (AnsB w (mayP v a))
  | 0, v, h => by rw [R.size_eq] at h; omega
  | n + 1, v, hs => by
    intro x a z w hx ha hb hok hla hlo
    rw [R.size_eq] at hs hla hlo
    have HOW := Lib.hid fun w' (h : Below w.heap.size w w') => own_all v x a z w' (Is.below h _ _ hx) (ha.to h h.size) hb (ok_ne hok)
    have HWI := Lib.hid fun w' (h : Below w.heap.size w w') => hw v x a z w' (Is.below h _ _ hx) (ha.to h h.size) hb hok (by omega) (by omega)
    have hoks : V.oks v.l = true := by rw [ok_eq, Bool.and_eq_true] at hok; exact hok.2
    have hbp := bulk_parts v
    have hlen := withinP_len v a
    have HIH := Lib.hid fun (j : Nat) (hj : j < v.l.length) (y : X) (z' : ArX) (w' : World) (hy : Is w' v.l[j] y) (hz : IsAr w' w'.heap.size (withinP v a) z') =>
      have hsz := sizes_mem hj
      may_of hw n v.l[j] (by omega) y (withinP v a) z' w' hy hz (by have := bulk_le_of_mem (List.getElem_mem hj); omega) (oks_mem hoks (List.getElem_mem hj)) (by omega) (by omega)
    have hll : v.l.length ≤ 4194304 := by have := length_le_bulks v.l; omega
    have hlli : (v.l.length : Int) ≤ 4194304 := by omega
    obtain ⟨xka, xkc, xla, xlc, rfl, -, -, -, hrow⟩ := hx.open
    have HROW := Lib.hid fun w' (h : Below w.heap.size w w') => RowB.below hrow h
    have HT := Lib.hid (opr_new w v xka xkc xla xlc a z)
    have HMP := Lib.hid (mayP_eq v a)
    obtain ⟨b, hbd⟩ : ∃ b, withinP v a = b := ⟨_, rfl⟩
    rw [hbd] at HWI HIH HMP
    simp only [X.v, ArX.v, ArX.cells] at HOW HWI HIH ⊢
    obtain ⟨W0, hW0, hop⟩ := HT.out
    obtain ⟨c0, c1, c2, c3, c4, c5⟩ := hop.n'.six
    have r0 := hop.r0
    have r1 := hop.r1
    have r2 := hop.r2
    have r3 := hop.r3
    have r4 := hop.r4
    have HW0 := Lib.hid hW0
    have HA := Lib.hid hop
    clear hx ha hb hok hla hlo hoks hbp hlen hrow HT hbd hW0 hop hs
    go_enter Try.func29, Try.ntmps29
    go_upto_region 1 with (fail)
    rw [HW0.out]
    go_wp2_with fail
    refine (HOW.out _ HA.out.bl).mono ?_
    rintro e w1 ⟨rfl, hb1⟩
    have HA1 := Lib.hid (HA.out.low hb1)
    obtain ⟨c0, c1, c2, c3, c4, c5⟩ := HA1.out.n'.six
    have r0 := HA1.out.r0
    have r1 := HA1.out.r1
    have r2 := HA1.out.r2
    have r3 := HA1.out.r3
    have r4 := HA1.out.r4
    clear hb1
    cases ho : ownP v a with
    | false =>
      have HMF : Hid (mayP v a = false) := by show _ = _; rw [HMP.out, ho, Bool.false_and]
      clear ho
      go_wp2_with fail
      go_ret
      exact ⟨by rw [HMF.out]; rfl, HA1.out.bl⟩
    | true =>
      have HMT : Hid (mayP v a = maysP v.l b) := by show _ = _; rw [HMP.out, ho, Bool.true_and]
      clear ho
      go_wp2_with fail
      refine (HWI.out _ HA1.out.bl).mono ?_
      rintro e w2 ⟨⟨za, zc, zp, zd⟩, rfl, hz, hb2⟩
      have HA2 := Lib.hid (HA1.out.low hb2)
      have HZ := Lib.hid hz
      obtain ⟨c0, c1, c2, c3, c4, c5⟩ := HA2.out.n'.six
      have HB3 := Lib.hid (below_alloc w2 (.cells (ArX.cells ⟨za, zc, zp, zd⟩ b) 46))
      have HR3 := Lib.hid (rp_new (w := w2) (o := .cells (ArX.cells ⟨za, zc, zp, zd⟩ b) 46) (g := w2.heap.size) rfl)
      have HS3 : Hid ((w2.alloc (.cells (ArX.cells ⟨za, zc, zp, zd⟩ b) 46)).heap.size = w2.heap.size + 1) := by show _ = _; simp
      dsimp only [ArX.cells] at HB3 HR3 HS3
      have k5 := (HA2.out.low HB3.out).n'.c5
      clear hb2 hz
      go_wp2_with fail
      obtain ⟨w3, hw3⟩ : ∃ w3, w2.alloc (.cells #[.slice za b.labels.length zc, .slice zp b.loops.length zd, .bool b.loop, .bool b.breaks, .bool b.inside] 46) = w3 := ⟨_, rfl⟩
      rw [hw3] at HB3 HR3 HS3 k5 ⊢
      clear hw3 k5 c0 c1 c2 c3 c4 c5
      have HA3 := Lib.hid (HA2.out.low HB3.out)
      have HZ3 := Lib.hid (HZ.out.to HB3.out HB3.out.size)
      go_loopw [18] (fun i wr => ∃ j : Nat, j ≤ v.l.length ∧ i = .int .i64 j ∧ Hid (mayP v a = maysP (v.l.drop j) b) ∧ Hid (Below w3.heap.size w3 wr)) (fun i _ => v.l.length - (intOf i).toNat)
      case atStart => exact ⟨0, Nat.zero_le _, rfl, Lib.hid (by rw [HMT.out, List.drop_zero]), Lib.hid (Below.refl _ _)⟩
      case round =>
        obtain ⟨j, hj, rfl, hm, hbw⟩ := hrel
        by_cases hlt : j < v.l.length
        · have hba : Below w.heap.size w wr := HA3.out.bl.trans (hbw.out.mono HA3.out.bl.size)
          obtain ⟨g, o, rfl, hg, y, hat, hy⟩ := (HROW.out wr hba).at_ hlt
          have hbk := below_alloc wr (.cells y.cells 25)
          have hrb := (hbk.block _ (Nat.lt_of_lt_of_le (by have := HS3.out; omega) hbw.out.size)).trans ((hbw.out.block w2.heap.size (by have := HS3.out; omega)).trans HR3.out)
          have hzk : IsAr (wr.alloc (.cells y.cells 25)) (wr.alloc (.cells y.cells 25)).heap.size b ⟨za, zc, zp, zd⟩ := (HZ3.out.to hbw.out hbw.out.size).to hbk hbk.size
          have HC := Lib.hid (HIH.out j hlt y ⟨za, zc, zp, zd⟩ _ (Is.below hbk _ _ hy) hzk)
          have hcut := maysP_cut v.l b j hlt
          generalize v.l[j] = u at *
          have HBA := Lib.hid (hba.trans (hbk.mono hba.size))
          have HBB := Lib.hid (hbw.out.trans (hbk.mono hbw.out.size))
          obtain ⟨yk, ynm, yn, ys, yka, ykn, ykc, yla, yln, ylc⟩ := y
          dsimp only [X.cells] at HC HBA HBB hrb hat
          obtain ⟨d0, d1, d2, d3, d4, d5⟩ := hat.six
          have s0 : (wr.alloc (.cells #[.int .i64 yk, .string ynm, .int .i64 yn, .string ys, .slice yka ykn ykc, .slice yla yln ylc] 25)).cell? ⟨w2.heap.size, 0, none⟩ = some (.slice za b.labels.length zc) := (cell_of_row _ w2.heap.size 0 _ _ _ hrb).trans rfl
          have s1 : (wr.alloc (.cells #[.int .i64 yk, .string ynm, .int .i64 yn, .string ys, .slice yka ykn ykc, .slice yla yln ylc] 25)).cell? ⟨w2.heap.size, 1, none⟩ = some (.slice zp b.loops.length zd) := (cell_of_row _ w2.heap.size 1 _ _ _ hrb).trans rfl
          have s2 : (wr.alloc (.cells #[.int .i64 yk, .string ynm, .int .i64 yn, .string ys, .slice yka ykn ykc, .slice yla yln ylc] 25)).cell? ⟨w2.heap.size, 2, none⟩ = some (.bool b.loop) := (cell_of_row _ w2.heap.size 2 _ _ _ hrb).trans rfl
          have s3 : (wr.alloc (.cells #[.int .i64 yk, .string ynm, .int .i64 yn, .string ys, .slice yka ykn ykc, .slice yla yln ylc] 25)).cell? ⟨w2.heap.size, 3, none⟩ = some (.bool b.breaks) := (cell_of_row _ w2.heap.size 3 _ _ _ hrb).trans rfl
          have s4 : (wr.alloc (.cells #[.int .i64 yk, .string ynm, .int .i64 yn, .string ys, .slice yka ykn ykc, .slice yla yln ylc] 25)).cell? ⟨w2.heap.size, 4, none⟩ = some (.bool b.inside) := (cell_of_row _ w2.heap.size 4 _ _ _ hrb).trans rfl
          clear hba hy hat hbk hrb hzk
          cases hmu : mayP u b with
          | false =>
            rw [hmu] at HC
            have HF : Hid (mayP v a = false) := by show _ = _; rw [hm.out, hcut, hmu, Bool.false_and]
            clear hmu hcut
            go_wp2_with fail
            refine HC.out.mono ?_
            rintro e w5 ⟨rfl, hb5⟩
            have HB5 := Lib.hid (HBA.out.trans (hb5.mono HBA.out.size))
            clear hb5 s0 s1 s2 s3 s4 d0 d1 d2 d3 d4 d5
            go_wp2_with fail
            go_ret
            exact ⟨by rw [HF.out]; rfl, HB5.out⟩
          | true =>
            rw [hmu] at HC
            have HF : Hid (mayP v a = maysP (v.l.drop (j + 1)) b) := by show _ = _; rw [hm.out, hcut, hmu, Bool.true_and]
            clear hmu hcut
            go_wp2_with fail
            refine HC.out.mono ?_
            rintro e w5 ⟨rfl, hb5⟩
            have HB5 := Lib.hid (HBB.out.trans (hb5.mono HBB.out.size))
            clear hb5 s0 s1 s2 s3 s4 d0 d1 d2 d3 d4 d5
            go_wp2_with fail
            go_roundw
            case rel => exact ⟨j + 1, hlt, by go_num, HF, HB5⟩
            case measure => simp [intOf]; omega
        · obtain rfl : j = v.l.length := by omega
          rw [List.drop_length] at hm
          have HT2 : Hid (mayP v a = true) := by show _ = _; rw [hm.out, maysP]
          have HB5 := Lib.hid (HA3.out.bl.trans (hbw.out.mono HA3.out.bl.size))
          clear hm
          go_wp2_with fail
          go_ret
          exact ⟨by rw [HT2.out]; rfl, HB5.out⟩
end Go.Proofs.Ytgehgccgologpaa.Z
