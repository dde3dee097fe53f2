/-
  Laid by wip/prune.py out of wip/units: F H.
  Laid by wip/prune.py out of wip/units: D I J K L M.
  Laid by wip/prune.py out of wip/units: N Q.
-/
import Derived.Test.YtllpgoaanbiodaaGreatDoorMUC
import Derived.Test.YtllpgoaanbiodaaGreatDoorShelf
import Derived.Lib.ConvBytes
import Derived.Lib.Walk
import Derived.Lib.AtoiAllMem
import Derived.Laws.Strings3
import Derived.Laws.Closers25
import Derived.Laws.Closers25b
import Derived.Laws.AppendOwnNone
namespace Go.Proofs.YtllpgoaanbiodaaGreatDoor
open Go.RowKit

theorem hexGo_cons (acc : Nat) (c : UInt8) (r : Bs) : hexGo acc (c :: r) = match hexV c with | some d => hexGo (16 * acc + d) r | none => none := rfl
theorem own_below {w w' : World} {B : Nat} {e : TypeId} {size n : Nat} {v : Value} {xs : List Value} (h : w.ownsRow B e size v n xs) (hb : Below w.heap.size w w') : w'.ownsRow B e size v n xs :=
  h.kept (row := none) ⟨hb.os, hb.tape, hb.output, hb.size, fun k hk _ => hb.block k hk⟩ (by cases v.ownBlock <;> simp)
theorem appQ_any (B : Nat) (v : Value) (n : Nat) (xs : List Value) (u : Nat) (w : World) (hown : w.ownsRow B 5 1 v n xs) (hu : u < 65536) (hn : n ≤ 140737488355320) (hB : B ≤ w.heap.size) :
    Calls Tryz.prog 167 #[v, .int .i64 u] w fun e w' => ∃ v', e = .returned v' ∧ w'.ownsRow B 5 1 v' (n + (quoted u).length) (xs ++ (quoted u).map bv) ∧ Below B w w' := by
  by_cases h1 : u = 34 ∨ u = 92 ∨ u = 8 ∨ u = 9 ∨ u = 10 ∨ u = 12 ∨ u = 13
  · have e : (quoted u).length = 2 := by rcases h1 with rfl | rfl | rfl | rfl | rfl | rfl | rfl <;> rfl
    rw [e]
    exact appQ_two B v n xs u w hown hn hB h1
  · by_cases h2 : u < 32 ∨ 126 < u
    · have e : (quoted u).length = 6 := by
        unfold quoted
        rw [if_neg (by omega), if_neg (by omega), if_neg (by omega), if_neg (by omega), if_neg (by omega), if_neg (by omega), if_neg (by omega), if_pos (by omega)]
        rfl
      rw [e]
      exact appQ_hex B v n xs u w hown hu hn hB (by omega)
    · have e : (quoted u).length = 1 := by
        unfold quoted
        rw [if_neg (by omega), if_neg (by omega), if_neg (by omega), if_neg (by omega), if_neg (by omega), if_neg (by omega), if_neg (by omega), if_neg (by omega)]
        rfl
      rw [e]
      exact appQ_one B v n xs u w hown hn hB (by omega) (by omega) (by omega) (by omega)
set_option maxRecDepth 8000 in
set_option maxHeartbeats 1000000 in
theorem quote_any (s : ByteArray) (w : World) (hs : s.size ≤ 4194304) :
    Calls Tryz.prog 157 #[.string s] w fun e w' => e = .returned (quoteRes s.data.toList) ∧ Below w.heap.size w w' := by
  have hul : (us s.data.toList).length = s.size / 2 := by rw [us_length, size_list]
  have h16 : ∀ k (h : k < (us s.data.toList).length), (us s.data.toList)[k] < 65536 := fun k h => us_lt s.data.toList _ (List.getElem_mem h)
  have hm : s.size ≤ maxLen := by unfold maxLen; omega
  have HLen := Lib.hid fun w => len_any s w hm
  have HAt := Lib.hid fun i w => at_any s i w hm
  have hat : ∀ k (h : k < (us s.data.toList).length), atOf s k = ((us s.data.toList)[k] : Nat) := fun k h => atI_in h
  obtain ⟨i0, hi, hz0, hz1, hz2⟩ := info_parts info5
  by_cases heven : s.size % 2 = 0
  · have HC : Hid (∀ w, Calls Tryz.prog 51 #[.string s] w fun e w' => e = .returned (.bool true) ∧ w = w') := fun w => (check_any s w hm).mono fun e w' ⟨h1, h2⟩ => ⟨by rw [h1, decide_eq_true heven], h2⟩
    have HR0 := Lib.hid (quoteRes_even (l := s.data.toList) (by rw [size_list]; exact heven))
    generalize us s.data.toList = u at *
    have H16 := Lib.hid h16
    have HA := Lib.hid hat
    obtain ⟨m, hmm⟩ : ∃ m, m = s.size / 2 := ⟨_, rfl⟩
    rw [← hmm] at hul HLen
    have hm2 : m ≤ 2097152 := by omega
    have e1 : IntKind.i64.wrap ((m : Int) + 2) = (m : Int) + 2 := IntWalk.i64_in _ (by omega)
    clear h16 hat heven hmm hs hm
    obtain ⟨B0, hB0⟩ : ∃ B0, B0 = w.heap.size := ⟨_, rfl⟩
    rw [← hB0]
    have HB0 := Lib.hid hB0
    clear hB0
    go_enter Tryz.func157, Tryz.ntmps157
    go_wp2_with (first
      | (go_at_call 51; refine (HC.out _).mono ?_; rintro e w' ⟨rfl, rfl⟩)
      | (go_at_call 166; refine (HLen.out _).mono ?_; rintro e w' ⟨rfl, rfl⟩)
      | (at_make; refine wpList_make_own _ rfl _ _ 60 (by rfl) B0 5 i0 _ 1 Tryz.underlying60 hi hz0 hz1 .i64 .i64 _ (m + 2) (by rfl) (by rfl) ?c1 ?c2 ?c3 (by rw [HB0.out]; exact Nat.le_refl _) ?_))
    case c1 => omega
    case c2 => rw [hz2]; omega
    case c3 => unfold maxLen; omega
    intro w1 hown1 hg1
    have hb1 : Below B0 w w1 := (Below.refl _ _).grown hg1 (by rw [HB0.out]; exact Nat.le_refl _) (by intro k hk; cases hk)
    have hz1' : B0 ≤ w1.heap.size := by rw [HB0.out]; exact hb1.size
    clear hg1
    obtain ⟨v1, hv1⟩ : ∃ v1, v1 = Value.slice (some ⟨w.heap.size, 0, none⟩) 0 (m + 2) := ⟨_, rfl⟩
    rw [← hv1] at hown1 ⊢
    clear hv1
    go_wp2_with (first
      | (go_at_call 166; refine (HLen.out _).mono ?_; rintro e w' ⟨rfl, rfl⟩)
      | (at_builtin; refine app_lit _ rfl _ _ 60 (by rfl) B0 5 i0 _ 1 Tryz.underlying60 hi hz0 hz1 hz2 rfl _ _ _ (by rfl) hown1 _ 1 (by rfl) rfl ?c1 ?c2 ?c3 hz1' ?_))
    case c1 => rfl
    case c2 => unfold maxLen; omega
    case c3 => omega
    intro v2 w2 hown2 hb2
    have hb3 := hb1.trans hb2
    clear hown1 hb1 hz1' hb2
    go_wp2_with (go_at_call 166; refine (HLen.out _).mono ?_; rintro e w' ⟨rfl, rfl⟩)
    go_loopw [4, 17] (fun v x wr => ∃ (k n : Nat) (t : Bs), k ≤ m ∧ x = .int .i64 k ∧ wr.ownsRow B0 5 1 v n (t.map bv) ∧ n ≤ 1 + 6 * k ∧ Hid (t = 34 :: (u.take k).flatMap quoted) ∧ Below B0 w wr)
      (fun _ x _ => m - (intOf x).toNat)
    case atStart => exact ⟨0, 1, [34], by omega, rfl, hown2, by decide, rfl, hb3⟩
    case round =>
      obtain ⟨k, n, t, hk, rfl, hown, hn, hq, hb⟩ := hrel
      clear hown2 hb3
      by_cases hlt : k < m
      · have h16 := H16.out k (by omega)
        have hak := Lib.hid (HA.out k (by omega))
        have hql := quoted_length (u[k]'(by omega))
        have HF := Lib.hid (flat_snoc u k (by omega))
        have HQ : Hid (∀ v n xs w, w.ownsRow B0 5 1 v n xs → n ≤ 140737488355320 → B0 ≤ w.heap.size → Calls Tryz.prog 167 #[v, .int .i64 ((u[k]'(by omega) : Nat) : Int)] w fun e w' => ∃ v', e = .returned v' ∧ w'.ownsRow B0 5 1 v' (n + (quoted (u[k]'(by omega))).length) (xs ++ (quoted (u[k]'(by omega))).map bv) ∧ Below B0 w w') :=
          fun v n xs w h1 h2 h3 => appQ_any B0 v n xs _ w h1 h16 h2 h3
        generalize quoted (u[k]'(by omega)) = qt at *
        clear h16
        go_wp2_with fail
        refine (HAt.out _ _).mono ?_
        rintro e w3 ⟨rfl, hb3⟩
        rw [hak.out]
        have hown3 := own_below hown hb3
        have hb4 := hb.trans (hb3.mono (by rw [HB0.out]; exact hb.size))
        clear hown hb hb3
        go_wp2_with fail
        refine (HQ.out _ _ _ _ hown3 (by omega) (by rw [HB0.out]; exact hb4.size)).mono ?_
        rintro e w4 ⟨v4, rfl, hown4, hb5⟩
        have H : Hid (w4.ownsRow B0 5 1 v4 (n + qt.length) ((t ++ qt).map bv) ∧ Below B0 w w4) := ⟨by rw [List.map_append]; exact hown4, hb4.trans hb5⟩
        clear hown4 hb5 hb4 hown3
        go_wp2
        go_roundw
        case rel => exact ⟨k + 1, n + qt.length, t ++ qt, by omega, by go_num, H.out.1, by omega, by rw [HF.out, ← hq.out]; rfl, H.out.2⟩
        case measure => simp [intOf]; omega
      · have HE : Hid (u.take k = u) := Lib.hid (List.take_of_length_le (by omega))
        rw [HE.out] at hq
        have hbz : B0 ≤ wr.heap.size := by rw [HB0.out]; exact hb.size
        go_wp2_with (at_builtin; refine app_lit _ rfl _ _ 60 (by rfl) B0 5 i0 _ 1 Tryz.underlying60 hi hz0 hz1 hz2 rfl _ _ _ (by rfl) hown _ 1 (by rfl) rfl ?c1 ?c2 ?c3 hbz ?_)
        case c1 => rfl
        case c2 => unfold maxLen; omega
        case c3 => omega
        intro v4 w4 hown4 hb4
        have hb5 := hb.trans hb4
        have hcv := string_of_own (P := Tryz.prog) (l := t ++ [34]) w4 60 9 5 Tryz.underlying60 Tryz.underlying5 Tryz.underlying9 (by rw [List.map_append]; exact hown4)
        clear hown4 hb4 hb hown hbz
        go_wp2
        go_ret2
        refine ⟨?_, hb5⟩
        rw [HR0.out]
        unfold quote
        rw [← List.cons_append, ← hq.out]
        rfl
  · have HC : Hid (∀ w, Calls Tryz.prog 51 #[.string s] w fun e w' => e = .returned (.bool false) ∧ w = w') := fun w => (check_any s w hm).mono fun e w' ⟨h1, h2⟩ => ⟨by rw [h1, decide_eq_false heven], h2⟩
    have HR0 := Lib.hid (quoteRes_odd (l := s.data.toList) (by rw [size_list]; exact heven))
    clear h16 heven hul hat
    go_enter Tryz.func157, Tryz.ntmps157
    go_wp2_with (go_at_call 51; refine (HC.out _).mono ?_; rintro e w' ⟨rfl, rfl⟩)
    go_ret2
    exact ⟨by rw [HR0.out]; rfl, Below.refl _ _⟩
end Go.Proofs.YtllpgoaanbiodaaGreatDoor
namespace Go.Proofs.YtllpgoaanbiodaaGreatDoor
open Go.RowKit

theorem hexGo_lt : ∀ (l : Bs) (acc n : Nat), hexGo acc l = some n → n < (acc + 1) * 16 ^ l.length
  | [], acc, n, h => by simp only [hexGo, Option.some.injEq] at h; subst h; simp
  | c :: r, acc, n, h => by
    rw [hexGo_cons] at h
    cases hv : hexV c with
    | none => rw [hv] at h; cases h
    | some d =>
      rw [hv] at h
      have h1 := hexGo_lt r (16 * acc + d) n h
      have hd := hexV_lt hv
      have h2 : (16 * acc + d + 1) * 16 ^ r.length ≤ ((acc + 1) * 16) * 16 ^ r.length := Nat.mul_le_mul_right _ (by omega)
      rw [List.length_cons, Nat.pow_succ, Nat.mul_comm (16 ^ r.length) 16, ← Nat.mul_assoc]
      omega
def esc1 (r : Bs) : Option (List Nat × Nat) := match esc r with
  | some (l, n) => some (l, n + 1)
  | none => none
theorem esc_cons (c : UInt8) (r : Bs) : esc (c :: r) =
    if c = 10 then some ([], 1)
    else if c = 48 then (match r with
      | d :: _ => if 48 ≤ d.toNat ∧ d.toNat ≤ 57 then none else some ([0], 1)
      | [] => some ([0], 1))
    else if c = 120 then (if r.length < 2 then none else match hexGo 0 (r.take 2) with
      | some n => some ([n], 3)
      | none => none)
    else if c = 117 then (if r.length < 4 then none else match hexGo 0 (r.take 4) with
      | some n => some ([n], 5)
      | none => none)
    else match simpleV c with
      | some n => some ([n], 1)
      | none => none := rfl
theorem simpleV_nat (c : UInt8) (n : Nat) (hn : c.toNat = n) : simpleV c =
    if n = 110 then some 10 else if n = 116 then some 9 else if n = 114 then some 13 else if n = 98 then some 8 else if n = 102 then some 12 else if n = 118 then some 11
    else if 127 < n ∨ n = 13 ∨ n = 120 ∨ n = 117 ∨ (48 ≤ n ∧ n ≤ 57) ∨ n = 10 then none else some n := by
  subst hn
  unfold simpleV
  have e : ∀ k : UInt8, (c = k) = (c.toNat = k.toNat) := fun k => propext ⟨fun h => h ▸ rfl, fun h => UInt8.toNat_inj.1 h⟩
  simp only [e]
  rfl
theorem byte_ne {c k : UInt8} (h : ¬ c.toNat = k.toNat) : ¬ c = k := fun e => h (e ▸ rfl)
theorem unit1_cons (c : UInt8) (r : Bs) : unit1 (c :: r) = if c = 92 then esc1 r else if c = 10 ∨ c = 13 ∨ 127 < c.toNat then none else some ([c.toNat], 1) := rfl
theorem simpleV_lt {c : UInt8} {n : Nat} (h : simpleV c = some n) : n < 65536 := by
  have hc := c.toNat_lt
  rw [simpleV_nat c _ rfl] at h
  repeat' split at h
  all_goals simp at h
  all_goals omega
theorem hex_lt {l : Bs} {n d : Nat} (h : hexGo 0 (l.take d) = some n) (hd : d ≤ 4) : n < 65536 := by
  have h1 := hexGo_lt _ _ _ h
  have h2 : 16 ^ (l.take d).length ≤ 16 ^ 4 := Nat.pow_le_pow_right (by decide) (by rw [List.length_take]; omega)
  omega
theorem esc_form {l : Bs} {ls : List Nat} {n : Nat} (h : esc l = some (ls, n)) : (ls = [] ∨ ∃ x, ls = [x] ∧ x < 65536) ∧ 1 ≤ n ∧ n ≤ l.length := by
  cases l with
  | nil => cases h
  | cons c r =>
    rw [esc_cons] at h
    by_cases h1 : c = 10
    · rw [if_pos h1] at h
      simp only [Option.some.injEq, Prod.mk.injEq] at h
      exact ⟨.inl h.1.symm, by omega, by simp; omega⟩
    rw [if_neg h1] at h
    by_cases h2 : c = 48
    · rw [if_pos h2] at h
      cases r with
      | nil =>
        simp only [Option.some.injEq, Prod.mk.injEq] at h
        exact ⟨.inr ⟨0, h.1.symm, by decide⟩, by omega, by simp; omega⟩
      | cons d t =>
        simp only at h
        split at h
        · cases h
        · simp only [Option.some.injEq, Prod.mk.injEq] at h
          exact ⟨.inr ⟨0, h.1.symm, by decide⟩, by omega, by simp; omega⟩
    rw [if_neg h2] at h
    by_cases h3 : c = 120
    · rw [if_pos h3] at h
      split at h
      · cases h
      · split at h
        · rename_i m hm
          simp only [Option.some.injEq, Prod.mk.injEq] at h
          exact ⟨.inr ⟨m, h.1.symm, hex_lt hm (by decide)⟩, by omega, by simp; omega⟩
        · cases h
    rw [if_neg h3] at h
    by_cases h4 : c = 117
    · rw [if_pos h4] at h
      split at h
      · cases h
      · split at h
        · rename_i m hm
          simp only [Option.some.injEq, Prod.mk.injEq] at h
          exact ⟨.inr ⟨m, h.1.symm, hex_lt hm (by decide)⟩, by omega, by simp; omega⟩
        · cases h
    rw [if_neg h4] at h
    split at h
    · rename_i m hm
      simp only [Option.some.injEq, Prod.mk.injEq] at h
      exact ⟨.inr ⟨m, h.1.symm, simpleV_lt hm⟩, by omega, by simp; omega⟩
    · cases h
theorem unit1_form {l : Bs} {ls : List Nat} {n : Nat} (h : unit1 l = some (ls, n)) : (ls = [] ∨ ∃ x, ls = [x] ∧ x < 65536) ∧ 1 ≤ n ∧ n ≤ l.length := by
  cases l with
  | nil => cases h
  | cons c r =>
    rw [unit1_cons] at h
    split at h
    · unfold esc1 at h
      split at h
      · rename_i ls' n' he
        simp only [Option.some.injEq, Prod.mk.injEq] at h
        obtain ⟨h1, h2, h3⟩ := esc_form he
        exact ⟨h.1 ▸ h1, by omega, by simp; omega⟩
      · cases h
    · split at h
      · cases h
      · simp only [Option.some.injEq, Prod.mk.injEq] at h
        have := c.toNat_lt
        exact ⟨.inr ⟨c.toNat, h.1.symm, by omega⟩, by omega, by simp; omega⟩
theorem rdGo_nil (q : UInt8) (f : Nat) (out : List Nat) (k : Nat) : rdGo q f [] out k = none := by cases f <;> rfl
theorem rdGo_quote (q : UInt8) (f : Nat) (r : Bs) (out : List Nat) (k : Nat) : rdGo q (f + 1) (q :: r) out k = some (out, k + 1) := by
  unfold rdGo
  rw [if_pos rfl]
theorem rdGo_none {q c : UInt8} {f : Nat} {r : Bs} {out : List Nat} {k : Nat} (hc : ¬ c = q) (h : unit1 (c :: r) = none) : rdGo q (f + 1) (c :: r) out k = none := by
  unfold rdGo
  rw [if_neg hc, h]
theorem rdGo_some {q c : UInt8} {f : Nat} {r : Bs} {out ls : List Nat} {k n : Nat} (hc : ¬ c = q) (h : unit1 (c :: r) = some (ls, n)) : rdGo q (f + 1) (c :: r) out k = rdGo q f ((c :: r).drop n) (out ++ ls) (k + n) := by
  conv => lhs; unfold rdGo
  rw [if_neg hc, h]
theorem index_run (s : ByteArray) (k : Nat) (x : UInt8) (w : World) (hk : s.data.toList[k]? = some x) : (Instr.index 9 (.string s) (.int .i64 (k : Int))).run Tryz.prog w = .ok (.int .u8 ((x.toNat : Nat) : Int)) w := by
  have hk2 : k < s.size := by rw [← size_list]; exact (List.getElem?_eq_some_iff.1 hk).1
  rw [run_index_string w 9 s .i64 k Tryz.underlying9, dif_pos ⟨by omega, by omega⟩]
  congr 2
  rw [List.getElem?_eq_getElem (by rw [size_list]; exact hk2)] at hk
  have hk3 : s.data.toList[k]'(by rw [size_list]; exact hk2) = x := Option.some.inj hk
  rw [← hk3]
  rfl
theorem notEmpty {s : ByteArray} {c : UInt8} {r : Bs} (hl : s.data.toList = c :: r) : s.toList.isEmpty = false := by
  rw [← decide_eq_emptyBytes]
  exact decide_eq_false (fun h => by rw [h] at hl; cases hl)
/-- append of what stands in cells, onto a row of the call's own -/
theorem app_at {P : Program} (W : World) {ops : Array Oper} {rest : List Oper} {o : Oper} {a : Act} {Q : Exit → Act → World → Prop} (hgd : o.guard = none) (s x : Operand) (t : TypeId)
    (ho : o.op = .call { callee := .builtin .append, args := #[s, x], argTypes := #[t, t] })
    (base : Nat) (e : TypeId) (i : TypeInfo) (z : Value) (bytes : Nat) (ht : P.underlying t = some (.slice e)) (hi : P.info? e = some i) (hz : i.zero = some z)
    (hsize : i.size = 1) (hby : i.bytes = bytes) (hzs : z.cells.size = 1)
    (v : Value) (n : Nat) (xs : List Value) (hs : a.eval s = v) (hown : W.ownsRow base e 1 v n xs)
    (g : Nat) (u : Value) (hx : a.eval x = .slice (some ⟨g, 0, none⟩) 1 1) (hnew : W.cell? ⟨g, 0, none⟩ = some u) (h1 : u.oneCell' = true)
    (h63 : n + 1 ≤ maxLen) (hbytes : (n + 1) * bytes ≤ 140737488355328) (hbase : base ≤ W.heap.size)
    (h : ∀ v' w', w'.ownsRow base e 1 v' (n + 1) (xs ++ [u]) → Below base W w' → wpList P ops Q rest (a.put o.dst v') w') : wpList P ops Q (o :: rest) a W := by
  refine wpList_append_own W hgd s x t ho base e i z 1 bytes ht hi hz hsize hby hzs (by decide) v n xs hs hown ⟨g, 0, none⟩ 1 1 [u] hx rfl ?_ (by intro y hy; simp at hy; rw [hy]; exact h1) h63 hbytes hbase ?_
  · intro j y hj
    match j, hj with
    | 0, hj =>
      simp at hj
      subst hj
      exact hnew
  · intro v' w' hown' hg _
    exact h v' w' hown' ((Below.refl base W).grown hg hbase fun k hk => (hown.lt k hk).1)
end Go.Proofs.YtllpgoaanbiodaaGreatDoor
namespace Go.Proofs.YtllpgoaanbiodaaGreatDoor
open Go.RowKit

theorem quoteRes_pair (l : Bs) : ∃ t e, quoteRes l = .tuple #[.string t, .int .i64 e] := by
  unfold quoteRes
  split
  · exact ⟨_, _, rfl⟩
  · exact ⟨_, _, rfl⟩
theorem hexB_hexV : ∀ n : Fin 16, hexV (hexB n.val) = some n.val := by decide +kernel
theorem hexV_hexB (n : Nat) (h : n < 16) : hexV (hexB n) = some n := hexB_hexV ⟨n, h⟩
theorem hex4 (n : Nat) (h : n < 65536) : hexGo 0 [hexB (n / 4096), hexB (n / 256 % 16), hexB (n / 16 % 16), hexB (n % 16)] = some n := by
  simp only [hexGo_cons, hexV_hexB _ (show n / 4096 < 16 by omega), hexV_hexB _ (show n / 256 % 16 < 16 by omega), hexV_hexB _ (show n / 16 % 16 < 16 by omega), hexV_hexB _ (show n % 16 < 16 by omega)]
  show some _ = some n
  congr 1
  omega
/-- one unit's text is read as this unit, whatever stands behind it; it does not begin with the quote -/
theorem unit1_quoted (n : Nat) (h : n < 65536) (r : Bs) : unit1 (quoted n ++ r) = some ([n], (quoted n).length) ∧ ∃ c t, quoted n = c :: t ∧ ¬ c = 34 := by
  unfold quoted
  by_cases h1 : n = 34
  · subst h1; exact ⟨rfl, 92, [34], rfl, by decide⟩
  rw [if_neg h1]
  by_cases h2 : n = 92
  · subst h2; exact ⟨rfl, 92, [92], rfl, by decide⟩
  rw [if_neg h2]
  by_cases h3 : n = 8
  · subst h3; exact ⟨rfl, 92, [98], rfl, by decide⟩
  rw [if_neg h3]
  by_cases h4 : n = 9
  · subst h4; exact ⟨rfl, 92, [116], rfl, by decide⟩
  rw [if_neg h4]
  by_cases h5 : n = 10
  · subst h5; exact ⟨rfl, 92, [110], rfl, by decide⟩
  rw [if_neg h5]
  by_cases h6 : n = 12
  · subst h6; exact ⟨rfl, 92, [102], rfl, by decide⟩
  rw [if_neg h6]
  by_cases h7 : n = 13
  · subst h7; exact ⟨rfl, 92, [114], rfl, by decide⟩
  rw [if_neg h7]
  by_cases h8 : n < 32 ∨ 126 < n
  · rw [if_pos h8]
    refine ⟨?_, 92, _, rfl, by decide⟩
    have e : esc (117 :: hexB (n / 4096) :: hexB (n / 256 % 16) :: hexB (n / 16 % 16) :: hexB (n % 16) :: r) = some ([n], 5) := by
      rw [esc_cons, if_neg (by decide), if_neg (by decide), if_neg (by decide), if_pos rfl, if_neg (by simp)]
      simp only [List.take_succ_cons, List.take_zero, hex4 n h]
    show unit1 (92 :: 117 :: hexB (n / 4096) :: hexB (n / 256 % 16) :: hexB (n / 16 % 16) :: hexB (n % 16) :: r) = some ([n], 6)
    rw [unit1_cons, if_pos rfl]
    unfold esc1
    rw [e]
  · rw [if_neg h8]
    have hn : (UInt8.ofNat n).toNat = n := by rw [UInt8.toNat_ofNat']; omega
    have ne : ∀ k : UInt8, ¬ n = k.toNat → ¬ UInt8.ofNat n = k := fun k hk => byte_ne (by rw [hn]; exact hk)
    have e34 := ne 34 (by simp; omega)
    have e10 := ne 10 (by simp; omega)
    have e13 := ne 13 (by simp; omega)
    refine ⟨?_, _, [], rfl, e34⟩
    show unit1 (UInt8.ofNat n :: r) = some ([n], 1)
    rw [unit1_cons, if_neg (ne 92 (by simp; omega)), if_neg (by intro hx; rcases hx with hx | hx | hx; exact e10 hx; exact e13 hx; omega), hn]
theorem rd_quoted : ∀ (u : List Nat) (f : Nat) (out : List Nat) (k : Nat) (behind : Bs), (∀ n ∈ u, n < 65536) → u.length < f →
    rdGo 34 f (u.flatMap quoted ++ 34 :: behind) out k = some (out ++ u, k + (u.flatMap quoted).length + 1)
  | [], f, out, k, behind, _, hf => by
    obtain ⟨f, rfl⟩ : ∃ g, f = g + 1 := ⟨f - 1, by simp at hf; omega⟩
    simp [rdGo_quote]
  | n :: u, f, out, k, behind, hu, hf => by
    obtain ⟨f, rfl⟩ : ∃ g, f = g + 1 := ⟨f - 1, by omega⟩
    obtain ⟨h1, c, t, h2, h3⟩ := unit1_quoted n (hu n (by simp)) (u.flatMap quoted ++ 34 :: behind)
    have ih := rd_quoted u f (out ++ [n]) (k + (quoted n).length) behind (fun m hm => hu m (by simp [hm])) (by simp at hf; omega)
    rw [List.flatMap_cons, List.append_assoc, h2, List.cons_append]
    rw [h2, List.cons_append] at h1
    rw [rdGo_some h3 h1]
    have hd : (c :: (t ++ (u.flatMap quoted ++ 34 :: behind))).drop (c :: t).length = u.flatMap quoted ++ 34 :: behind := by simp
    rw [hd, ← h2, ih]
    simp only [List.append_assoc, List.singleton_append, List.length_append]
    congr 2
    omega
theorem read_quote (u : List Nat) (behind : Bs) (hu : ∀ n ∈ u, n < 65536) : read (quote u ++ behind) = some (u, (quote u).length) := by
  have hlen : u.length ≤ (u.flatMap quoted).length := by
    clear hu
    induction u with
    | nil => simp
    | cons n u ih =>
      have := quoted_length n
      rw [List.flatMap_cons, List.length_append, List.length_cons]
      omega
  have e : quote u ++ behind = 34 :: (u.flatMap quoted ++ 34 :: behind) := by
    unfold quote
    simp
  rw [e]
  show (if (34 : UInt8) = 39 ∨ (34 : UInt8) = 34 then rdGo 34 ((u.flatMap quoted ++ 34 :: behind).length + 1) (u.flatMap quoted ++ 34 :: behind) [] 1 else none) = _
  rw [if_pos (.inr rfl), rd_quoted u _ [] 1 behind hu (by rw [List.length_append, List.length_cons]; omega)]
  unfold quote
  simp only [List.nil_append, List.length_cons, List.length_append, List.length_nil]
  congr 2
  omega
theorem quote_length (u : List Nat) : (quote u).length ≤ 2 + 6 * u.length := by
  unfold quote
  have : (u.flatMap quoted).length ≤ 6 * u.length := by
    induction u with
    | nil => simp
    | cons n u ih =>
      have := quoted_length n
      rw [List.flatMap_cons, List.length_append, List.length_cons]
      omega
  simp only [List.length_cons, List.length_append, List.length_nil]
  omega
end Go.Proofs.YtllpgoaanbiodaaGreatDoor
