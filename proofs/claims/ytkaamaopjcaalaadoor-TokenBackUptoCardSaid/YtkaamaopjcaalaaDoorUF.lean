/-
  Laid by wip/prune.py out of wip/units: M.
-/
import Derived.Test.YtkaamaopjcaalaaDoorUE
import Derived.Laws.AppendOwnNone
namespace Go.Proofs.YtkaamaopjcaalaaDoor
open Go.RowKit

/-- what escaped leaves -/
def GivesE (w : World) (o : Option (List Nat × Nat)) (e : Ending) (w' : World) : Prop := match o with
  | none => e = .returned (.tuple #[.slice none 0 0, .int .i64 (-1)]) ∧ Below w.heap.size w w'
  | some ([], n) => e = .returned (.tuple #[.slice none 0 0, .int .i64 n]) ∧ Below w.heap.size w w'
  | some (x :: _, n) => ∃ g, e = .returned (.tuple #[.slice (some ⟨g, 0, none⟩) 1 1, .int .i64 n]) ∧ w'.cell? ⟨g, 0, none⟩ = some (nv x) ∧ Below w.heap.size w w'
theorem givesE_one (w : World) (x n : Nat) : GivesE w (some ([x], n)) (.returned (.tuple #[.slice (some ⟨w.heap.size, 0, none⟩) 1 1, .int .i64 n])) (w.alloc (.cells #[.int .i64 (x : Int)] 3)) :=
  ⟨_, rfl, new_cells w #[.int .i64 (x : Int)] _ 0 _ rfl, (Below.refl _ _).alloc (Nat.le_refl _) _⟩
theorem simple_link (c : UInt8) (n : Nat) (hn : c.toNat = n) : simpleI n = optI (simpleV c) := by
  rw [simpleV_nat c n hn]
  unfold simpleI
  repeat' split
  all_goals rfl
theorem hexEsc (r : Bs) (d : Nat) : (if r.length < d then none else match hexGo 0 (r.take d) with
      | some n => some ([n], d + 1)
      | none => none : Option (List Nat × Nat)) = match digGo 0 r d with
      | some n => some ([n], d + 1)
      | none => none := by
  rw [digGo_eq]
  by_cases h : r.length < d
  · rw [if_pos h, if_pos h]
  · rw [if_neg h, if_neg h]
set_option maxRecDepth 8000 in
set_option maxHeartbeats 2000000 in
theorem escaped_any (s : ByteArray) (a : Nat) (I : Int) (hI : I = (a : Int)) (w : World) (hs : s.size ≤ 33554432) (ha : a ≤ s.size) :
    Calls Tryd.prog 62 #[.string s, .int .i64 I] w (GivesE w (esc (s.data.toList.drop a))) := by
  subst hI
  cases hx : s.data.toList.drop a with
  | nil =>
    have h1 : s.size ≤ a := by
      have := congrArg List.length hx
      rw [List.length_drop, size_list] at this
      simp at this
      omega
    obtain rfl : a = s.size := by omega
    clear hx h1
    go_enter Tryd.func62, Tryd.ntmps62
    go_wp2
    go_ret2
    exact ⟨rfl, Below.refl _ _⟩
  | cons c r =>
    have hlen : r.length + 1 = s.size - a := by
      have := congrArg List.length hx
      rw [List.length_drop, size_list] at this
      simp at this
      omega
    have hr : s.data.toList.drop (a + 1) = r := by
      rw [← List.drop_drop, hx]
      rfl
    have hk0 : s.data.toList[a]? = some c := by
      have := congrArg (fun l => l[0]?) hx
      simpa using this
    obtain ⟨n, hn, hcn⟩ : ∃ n : Nat, c.toNat = n ∧ c = UInt8.ofNat n := ⟨c.toNat, rfl, by simp⟩
    have hn256 : n < 256 := by rw [← hn]; exact c.toNat_lt
    have ia : ∀ w, (Instr.index 9 (.string s) (.int .i64 (a : Int))).run Tryd.prog w = .ok (.int .u8 (n : Int)) w := fun w => by
      rw [← hn]
      exact index_at s a _ c w rfl hk0
    have hlt : a < s.size := by omega
    have HX := Lib.hid fun D d hd hd4 w => digits_any s (a + 1) d D ((a : Int) + 1) (by omega) hd hd4 w hs (by omega)
    rw [hr] at HX
    have HIX := Lib.hid (index_at s)
    have HR := Lib.hid hr
    have HN := Lib.hid hn
    have HC := Lib.hid hcn
    have HL := Lib.hid hlen
    have hcase : n = 10 ∨ n = 48 ∨ n = 120 ∨ n = 117 ∨ (¬ n = 10 ∧ ¬ n = 48 ∧ ¬ n = 120 ∧ ¬ n = 117) := by omega
    clear hx hlen hr hk0 hn hcn
    rcases hcase with rfl | rfl | rfl | rfl | ⟨h1, h2, h3, h4⟩
    · rw [HC.out]
      go_enter Tryd.func62, Tryd.ntmps62
      go_wp2
      go_ret2
      exact ⟨rfl, Below.refl _ _⟩
    · cases r with
      | nil =>
        have hz2 : a + 1 = s.size := by have := HL.out; simp at this; omega
        have hz3 : (s.size : Int) ≤ (a : Int) + 1 := by omega
        rw [HC.out]
        clear hz2
        go_enter Tryd.func62, Tryd.ntmps62
        go_wp2
        go_ret2
        exact givesE_one _ 0 1
      | cons d t =>
        have hz2 : (a : Int) + 1 < s.size := by have := HL.out; simp at this; omega
        have hk1 : s.data.toList[a + 1]? = some d := by
          have := congrArg (fun l => l[0]?) HR.out
          simpa using this
        have ib : ∀ w, (Instr.index 9 (.string s) (.int .i64 ((a : Int) + 1))).run Tryd.prog w = .ok (.int .u8 ((d.toNat : Nat) : Int)) w := fun w => HIX.out (a + 1) _ d w (by omega) hk1
        clear hk1
        by_cases hd : 48 ≤ d.toNat ∧ d.toNat ≤ 57
        · have HV : Hid (esc (c :: d :: t) = none) := by
            show esc (c :: d :: t) = none
            rw [HC.out, esc_cons, if_neg (by decide), if_pos (by decide)]
            simp only
            rw [if_pos hd]
          obtain ⟨hd1, hd2⟩ := hd
          rw [HV.out]
          go_enter Tryd.func62, Tryd.ntmps62
          go_wp2
          go_ret2
          exact ⟨rfl, Below.refl _ _⟩
        · have HV : Hid (esc (c :: d :: t) = some ([0], 1)) := by
            show esc (c :: d :: t) = _
            rw [HC.out, esc_cons, if_neg (by decide), if_pos (by decide)]
            simp only
            rw [if_neg hd]
          rw [HV.out]
          rcases (show d.toNat < 48 ∨ 57 < d.toNat by omega) with hd1 | hd1
          all_goals
            go_enter Tryd.func62, Tryd.ntmps62
            go_wp2
            go_ret2
            exact givesE_one _ 0 1
    · have HV : Hid (esc (c :: r) = match digGo 0 r 2 with | some n => some ([n], 3) | none => none) := by
        show esc (c :: r) = _
        rw [HC.out, ← hexEsc]
        rfl
      rw [HV.out]
      cases hg : digGo 0 r 2 with
      | none =>
        have HD : Hid (∀ w, Calls Tryd.prog 74 #[.string s, .int .i64 ((a : Int) + 1), .int .i64 2] w fun e w' => e = .returned (.int .i64 (-1)) ∧ w = w') := fun w => by
          have := HX.out 2 2 rfl (by decide) w
          rw [hg] at this
          exact this
        clear hg HX
        go_enter Tryd.func62, Tryd.ntmps62
        go_wp2_with (go_at_call 74; refine (HD.out _).mono ?_; rintro e w' ⟨rfl, rfl⟩)
        go_ret2
        exact ⟨rfl, Below.refl _ _⟩
      | some m =>
        have HD : Hid (∀ w, Calls Tryd.prog 74 #[.string s, .int .i64 ((a : Int) + 1), .int .i64 2] w fun e w' => e = .returned (.int .i64 m) ∧ w = w') := fun w => by
          have := HX.out 2 2 rfl (by decide) w
          rw [hg] at this
          exact this
        clear hg HX
        go_enter Tryd.func62, Tryd.ntmps62
        go_wp2_with (go_at_call 74; refine (HD.out _).mono ?_; rintro e w' ⟨rfl, rfl⟩)
        go_ret2
        exact givesE_one _ m 3
    · have HV : Hid (esc (c :: r) = match digGo 0 r 4 with | some n => some ([n], 5) | none => none) := by
        show esc (c :: r) = _
        rw [HC.out, ← hexEsc]
        rfl
      rw [HV.out]
      cases hg : digGo 0 r 4 with
      | none =>
        have HD : Hid (∀ w, Calls Tryd.prog 74 #[.string s, .int .i64 ((a : Int) + 1), .int .i64 4] w fun e w' => e = .returned (.int .i64 (-1)) ∧ w = w') := fun w => by
          have := HX.out 4 4 rfl (by decide) w
          rw [hg] at this
          exact this
        clear hg HX
        go_enter Tryd.func62, Tryd.ntmps62
        go_wp2_with (go_at_call 74; refine (HD.out _).mono ?_; rintro e w' ⟨rfl, rfl⟩)
        go_ret2
        exact ⟨rfl, Below.refl _ _⟩
      | some m =>
        have HD : Hid (∀ w, Calls Tryd.prog 74 #[.string s, .int .i64 ((a : Int) + 1), .int .i64 4] w fun e w' => e = .returned (.int .i64 m) ∧ w = w') := fun w => by
          have := HX.out 4 4 rfl (by decide) w
          rw [hg] at this
          exact this
        clear hg HX
        go_enter Tryd.func62, Tryd.ntmps62
        go_wp2_with (go_at_call 74; refine (HD.out _).mono ?_; rintro e w' ⟨rfl, rfl⟩)
        go_ret2
        exact givesE_one _ m 5
    · have ne : ∀ k : UInt8, ¬ n = k.toNat → ¬ c = k := fun k hk => byte_ne (by rw [HN.out]; exact hk)
      have HV : Hid (esc (c :: r) = match simpleV c with | some n => some ([n], 1) | none => none) := by
        show esc (c :: r) = _
        rw [esc_cons, if_neg (ne 10 (by simp; omega)), if_neg (ne 48 (by simp; omega)), if_neg (ne 120 (by simp; omega)), if_neg (ne 117 (by simp; omega))]
        rfl
      have hlink := simple_link c n HN.out
      have b : ∀ m : Int, ¬ (n : Int) = m → ((n : Int) == m) = false := fun m hm => by rw [beq_eq_false_iff_ne]; exact hm
      have b1 := b 10 (by omega)
      have b2 := b 48 (by omega)
      have b3 := b 120 (by omega)
      have b4 := b 117 (by omega)
      rw [HV.out]
      cases hg : simpleV c with
      | none =>
        have HD : Hid (∀ w, Calls Tryd.prog 75 #[.int .u8 n] w fun e w' => e = .returned (.int .i64 (-1)) ∧ w = w') := fun w => by
          have := simple_any n hn256 w
          rw [hlink, hg] at this
          exact this
        clear hg HX hlink b ne h1 h2 h3 h4
        go_enter Tryd.func62, Tryd.ntmps62
        go_wp2_with (go_at_call 75; refine (HD.out _).mono ?_; rintro e w' ⟨rfl, rfl⟩)
        go_ret2
        exact ⟨rfl, Below.refl _ _⟩
      | some m =>
        have HD : Hid (∀ w, Calls Tryd.prog 75 #[.int .u8 n] w fun e w' => e = .returned (.int .i64 m) ∧ w = w') := fun w => by
          have := simple_any n hn256 w
          rw [hlink, hg] at this
          exact this
        clear hg HX hlink b ne h1 h2 h3 h4
        go_enter Tryd.func62, Tryd.ntmps62
        go_wp2_with (go_at_call 75; refine (HD.out _).mono ?_; rintro e w' ⟨rfl, rfl⟩)
        go_ret2
        exact givesE_one _ m 1
/-- append of what stands in cells, onto a row of the call's own -/
theorem app_at {P : Program} (W : World) {ops : Array Oper} {rest : List Oper} {o : Oper} {a : Act} {Q : Exit → Act → World → Prop} (hgd : o.guard = none) (s x : Operand) (t : TypeId)
    (ho : o.op = .call { callee := .builtin .append, args := #[s, x], argTypes := #[t, t] })
    (base : Nat) (e : TypeId) (i : TypeInfo) (z : Value) (bytes : Nat) (ht : P.underlying t = some (.slice e)) (hi : P.info? e = some i) (hz : i.zero = some z)
    (hsize : i.size = 1) (hby : i.bytes = bytes) (hzs : z.cells.size = 1)
    (v : Value) (n : Nat) (xs : List Value) (hs : a.eval s = v) (hown : W.ownsRow base e 1 v n xs)
    (g : Nat) (u : Value) (hx : a.eval x = .slice (some ⟨g, 0, none⟩) 1 1) (hnew : W.cell? ⟨g, 0, none⟩ = some u) (h1 : u.oneCell' = true)
    (h63 : n + 1 ≤ maxLen) (hbytes : (n + 1) * bytes ≤ 140737488355328) (hbase : base ≤ W.heap.size)
    (h : ∀ v' w', w'.ownsRow base e 1 v' (n + 1) (xs ++ [u]) → Below base W w' → wpList P ops Q rest (a.put o.dst v') w') : wpList P ops Q (o :: rest) a W := by
  refine wpList_append_own W hgd s x t ho base e i z 1 bytes ht hi hz hsize hby hzs (by decide) v n xs hs hown ⟨g, 0, none⟩ 1 1 [u] hx rfl ?_ (by intro y hy; simp at hy; rw [hy]; exact h1) h63 hbytes hbase ?_
  · intro j y hj
    match j, hj with
    | 0, hj =>
      simp at hj
      subst hj
      exact hnew
  · intro v' w' hown' hg _
    exact h v' w' hown' ((Below.refl base W).grown hg hbase fun k hk => (hown.lt k hk).1)
set_option maxRecDepth 8000 in
set_option maxHeartbeats 2000000 in
theorem refRead_any (s : ByteArray) (w : World) (hs : s.size ≤ 8388608) :
    Calls Tryd.prog 42 #[.string s] w fun e w' => e = .returned (readRes (read s.data.toList)) ∧ Below w.heap.size w w' := by
  obtain ⟨i0', hi, hz0, hz1, hz2⟩ := info_parts info3
  cases hl : s.data.toList with
  | nil =>
    obtain rfl : s = ⟨#[]⟩ := by apply ByteArray.ext; apply Array.toList_inj.1; exact hl
    go_enter Tryd.func42, Tryd.ntmps42
    go_wp2
    go_ret3
    exact ⟨rfl, Below.refl _ _⟩
  | cons q r =>
    have hz : s.size = r.length + 1 := by rw [← size_list, hl]; simp
    have hemp := notEmpty hl
    obtain ⟨n, hn, hcn⟩ : ∃ n : Nat, q.toNat = n ∧ q = UInt8.ofNat n := ⟨q.toNat, rfl, by simp⟩
    have hn256 : n < 256 := by rw [← hn]; exact q.toNat_lt
    have i0 : ∀ w, (Instr.index 9 (.string s) (.int .i64 0)).run Tryd.prog w = .ok (.int .u8 (n : Int)) w := fun w => by
      rw [← hn]
      exact index_run s 0 q w (by rw [hl]; rfl)
    have HL := Lib.hid hl
    have HN := Lib.hid hn
    have HC := Lib.hid hcn
    have HZ := Lib.hid hz
    have hsz1 : 0 < s.size := by omega
    have hlen0 : (q :: r).length = s.size := hz.symm
    have HLen := Lib.hid hlen0
    clear hl hn hcn hz hlen0
    by_cases hq : n = 39 ∨ n = 34
    · have HR : Hid (read (q :: r) = rdGo q (r.length + 1) r [] 1) := by
        show (if q = 39 ∨ q = 34 then rdGo q (r.length + 1) r [] 1 else none) = _
        rw [if_pos]
        rcases hq with h | h
        · exact .inl (by rw [HC.out, h]; rfl)
        · exact .inr (by rw [HC.out, h]; rfl)
      have HIX := Lib.hid (index_run s)
      have HE := Lib.hid fun a I hI w ha => escaped_any s a I hI w (by omega) ha
      rcases hq with rfl | rfl
      all_goals
        go_enter Tryd.func42, Tryd.ntmps42
        go_wp2
        go_loopw [5, 6] (fun v x wr => ∃ (k m f : Nat) (out : List Nat), k ≤ s.size ∧ x = .int .i64 k ∧ wr.ownsRow w.heap.size 3 1 v m (out.map nv) ∧ m ≤ k ∧ Below w.heap.size w wr ∧ Hid (s.size - k < f ∧ read (q :: r) = rdGo q f ((q :: r).drop k) out k ∧ ∀ x ∈ out, x < 65536))
          (fun _ x _ => s.size - (intOf x).toNat)
        case atStart => exact ⟨1, 0, r.length + 1, [], by omega, rfl, World.ownsRow_nil _ _ _ _, by omega, Below.refl _ _, by have := HZ.out; omega, HR.out, by simp⟩
        case round =>
          obtain ⟨k, m, f, out, hk, rfl, hown, hm, hb, hh⟩ := hrel
          by_cases hlt : k < s.size
          · have hkl : k < (q :: r).length := by rw [HLen.out]; exact hlt
            obtain ⟨c, hc⟩ : ∃ c, (q :: r)[k]? = some c := ⟨(q :: r)[k], List.getElem?_eq_getElem hkl⟩
            have hdrop : (q :: r).drop k = c :: (q :: r).drop (k + 1) := by
              rw [List.drop_eq_getElem_cons hkl]
              congr 1
              rw [List.getElem?_eq_getElem hkl] at hc
              exact Option.some.inj hc
            obtain ⟨n, hn, hcn⟩ : ∃ n : Nat, c.toNat = n ∧ c = UInt8.ofNat n := ⟨c.toNat, rfl, by simp⟩
            have ia : ∀ w, (Instr.index 9 (.string s) (.int .i64 (k : Int))).run Tryd.prog w = .ok (.int .u8 (n : Int)) w := fun w => by
              rw [← hn]
              exact HIX.out k c w (by rw [HL.out]; exact hc)
            obtain ⟨hf, hrd, hu⟩ := hh.out
            rw [hdrop] at hrd
            obtain ⟨f, rfl⟩ : ∃ g, f = g + 1 := ⟨f - 1, by omega⟩
            have HB := Lib.hid hb
            have hn2 : n < 256 := by rw [← hn]; exact c.toNat_lt
            clear hh hc hkl
            by_cases hcq : c = q
            · subst hcq
              rw [rdGo_quote] at hrd
              have HV : Hid (readRes (read (c :: r)) = .tuple #[.string ⟨(bs out).toArray⟩, .int .i64 ((k + 1 : Nat) : Int), .int .i64 0]) := by
                show readRes (read (c :: r)) = _
                rw [hrd]
                rfl
              rw [← hn, HN.out] at ia
              obtain ⟨hm', A, cc, rfl, hrn⟩ := RowN.of_own hown
              have HM : Hid (∀ w', Below w.heap.size w w' → RowN w' w.heap.size A out → Calls Tryd.prog 61 #[.slice A m cc] w' fun e w'' => e = .returned (.string ⟨(bs out).toArray⟩) ∧ Below w'.heap.size w' w'') := fun w' _ hr' => by
                rw [hm']
                exact make_any cc out A _ w' hr' hu (by rw [← hm']; omega)
              have HRn := Lib.hid hrn
              clear hrd hu hdrop hown hm hf hrn hm' hcn hn
              go_wp2_with (go_at_call 61; refine (HM.out _ HB.out HRn.out).mono ?_; rintro e w' ⟨rfl, hb2⟩)
              go_ret3
              exact ⟨by rw [HV.out]; rfl, HB.out.trans (hb2.mono HB.out.size)⟩
            · have bq : ∀ k : Int, (q.toNat : Int) = k → ((n : Int) == k) = false := by
                intro k hk
                rw [beq_eq_false_iff_ne]
                intro h
                exact hcq (UInt8.toNat_inj.1 (by omega))
              have bcq := bq _ (by rw [HN.out])
              have ne : ∀ k : UInt8, ¬ n = k.toNat → ¬ c = k := fun k hk => byte_ne (by rw [hn]; exact hk)
              have hu1 := unit1_cons c ((q :: r).drop (k + 1))
              have hcase : n = 10 ∨ n = 13 ∨ 127 < n ∨ n = 92 ∨ (¬ n = 10 ∧ ¬ n = 13 ∧ ¬ n = 92 ∧ n ≤ 127) := by omega
              have bnd : ∀ j : Int, ¬ (n : Int) = j → ((n : Int) == j) = false := fun j hj => by rw [beq_eq_false_iff_ne]; exact hj
              have HO := Lib.hid hown
              have HNE := Lib.hid ne
              have HU1 := Lib.hid hu1
              have HCN := Lib.hid hcn
              have HNN := Lib.hid hn
              have HLD : Hid ((q :: r).drop (k + 1) = s.data.toList.drop (k + 1)) := by
                show (q :: r).drop (k + 1) = s.data.toList.drop (k + 1)
                rw [HL.out]
              clear hown ne hu1 hcn hn bq hb
              by_cases hbad : n = 10 ∨ n = 13 ∨ 127 < n
              · have hun : unit1 (c :: (q :: r).drop (k + 1)) = none := by
                  rw [HU1.out, if_neg (HNE.out 92 (by simp; omega)), if_pos]
                  rcases hbad with h | h | h
                  · exact .inl (by rw [HCN.out, h]; rfl)
                  · exact .inr (.inl (by rw [HCN.out, h]; rfl))
                  · exact .inr (.inr (by rw [HNN.out]; exact h))
                have HV : Hid (readRes (read (q :: r)) = .tuple #[.string ⟨#[]⟩, .int .i64 0, .int .i64 10]) := by
                  show readRes (read (q :: r)) = _
                  rw [hrd, rdGo_none hcq hun]
                  rfl
                clear hrd hun hdrop hf hcase
                rcases hbad with h | h | h
                · have c10 : ((n : Int) == 10) = true := by rw [beq_iff_eq]; omega
                  clear h bnd
                  go_wp2
                  go_ret3
                  exact ⟨by rw [HV.out]; rfl, HB.out⟩
                · have c10 := bnd 10 (by omega)
                  have c13 : ((n : Int) == 13) = true := by rw [beq_iff_eq]; omega
                  clear h bnd
                  go_wp2
                  go_ret3
                  exact ⟨by rw [HV.out]; rfl, HB.out⟩
                · have c10 := bnd 10 (by omega)
                  have c13 := bnd 13 (by omega)
                  clear bnd
                  go_wp2
                  go_ret3
                  exact ⟨by rw [HV.out]; rfl, HB.out⟩
              · have c10 := bnd 10 (by omega)
                have c13 := bnd 13 (by omega)
                have c127 : n ≤ 127 := by omega
                by_cases h92 : n = 92
                · have hun : unit1 (c :: (q :: r).drop (k + 1)) = esc1 ((q :: r).drop (k + 1)) := by rw [HU1.out, if_pos (by rw [HCN.out, h92]; rfl)]
                  have c92 : ((n : Int) == 92) = true := by rw [beq_iff_eq]; omega
                  have HEk := Lib.hid fun w => HE.out (k + 1) ((k : Int) + 1) (by omega) w (by omega)
                  rw [← HLD.out] at HEk
                  clear hbad hcase bnd h92
                  rcases ho : esc ((q :: r).drop (k + 1)) with _ | ⟨ls, j⟩
                  · have hun2 : unit1 (c :: (q :: r).drop (k + 1)) = none := by
                      rw [hun]
                      unfold esc1
                      rw [ho]
                    have HV : Hid (readRes (read (q :: r)) = .tuple #[.string ⟨#[]⟩, .int .i64 0, .int .i64 10]) := by
                      show readRes (read (q :: r)) = _
                      rw [hrd, rdGo_none hcq hun2]
                      rfl
                    rw [ho] at HEk
                    clear hrd hun hun2 hdrop hf ho
                    go_wp2_with fail
                    refine (HEk.out _).mono ?_
                    rintro e w2 ⟨rfl, hb2⟩
                    go_wp2
                    go_ret3
                    exact ⟨by rw [HV.out]; rfl, HB.out.trans (hb2.mono HB.out.size)⟩
                  · obtain ⟨hls, hn1, hn2⟩ := esc_form ho
                    have hun2 : unit1 (c :: (q :: r).drop (k + 1)) = some (ls, j + 1) := by
                      rw [hun]
                      unfold esc1
                      rw [ho]
                    rw [rdGo_some hcq hun2] at hrd
                    have hdd : (c :: (q :: r).drop (k + 1)).drop (j + 1) = (q :: r).drop (k + (1 + j)) := by
                      rw [List.drop_succ_cons, List.drop_drop]
                      congr 1
                      omega
                    rw [hdd, show k + (j + 1) = k + (1 + j) by omega] at hrd
                    rw [List.length_drop, HLen.out] at hn2
                    have hj0 : ¬ (j : Int) < 0 := by omega
                    rcases hls with rfl | ⟨x, rfl, hx16⟩
                    · have H : Hid (s.size - (k + (1 + j)) < f ∧ read (q :: r) = rdGo q f ((q :: r).drop (k + (1 + j))) out (k + (1 + j)) ∧ ∀ x ∈ out, x < 65536) := ⟨by omega, by rw [hrd, List.append_nil], hu⟩
                      rw [ho] at HEk
                      clear hrd hun hun2 hdrop hf ho hdd hu
                      go_wp2_with fail
                      refine (HEk.out _).mono ?_
                      rintro e w2 ⟨rfl, hb2⟩
                      have ho2 := own_below HO.out hb2
                      go_wp2_with (at_builtin; refine wpList_append_own_none rfl _ _ 58 (by rfl) w.heap.size 3 i0' 1 Tryd.underlying58 hi _ m _ (by rfl) ho2 rfl ?_)
                      go_roundw
                      case rel => exact ⟨k + (1 + j), m, f, out, by omega, by go_num, ho2, by omega, HB.out.trans (hb2.mono HB.out.size), H.out⟩
                      case measure => simp [intOf]; omega
                    · have H : Hid (s.size - (k + (1 + j)) < f ∧ read (q :: r) = rdGo q f ((q :: r).drop (k + (1 + j))) (out ++ [x]) (k + (1 + j)) ∧ ∀ y ∈ out ++ [x], y < 65536) := by
                        refine ⟨by omega, hrd, ?_⟩
                        intro y hy
                        rcases List.mem_append.1 hy with hy | hy
                        · exact hu y hy
                        · simp at hy; omega
                      rw [ho] at HEk
                      clear hrd hun hun2 hdrop hf ho hdd hu
                      go_wp2_with fail
                      refine (HEk.out _).mono ?_
                      rintro e w2 ⟨g, rfl, hg, hb2⟩
                      have ho2 := own_below HO.out hb2
                      have hb3 := HB.out.trans (hb2.mono HB.out.size)
                      have hbz := hb3.size
                      go_wp2_with (at_builtin; refine app_at _ rfl _ _ 58 (by rfl) w.heap.size 3 i0' _ 8 Tryd.underlying58 hi hz0 hz1 hz2 rfl _ m _ (by rfl) ho2 g (nv x) rfl hg rfl ?c1 ?c2 hbz ?_)
                      case c1 => unfold maxLen; omega
                      case c2 => omega
                      intro v3 w3 ho3 hb4
                      have H2 : Hid (w3.ownsRow w.heap.size 3 1 v3 (m + 1) ((out ++ [x]).map nv) ∧ Below w.heap.size w w3) := ⟨by rw [map_nv_snoc]; exact ho3, hb3.trans hb4⟩
                      clear ho3 hb4 hb3 ho2 hg hb2
                      go_wp2
                      go_roundw
                      case rel => exact ⟨k + (1 + j), m + 1, f, out ++ [x], by omega, by go_num, H2.out.1, by omega, H2.out.2, H.out⟩
                      case measure => simp [intOf]; omega
                · have hun : unit1 (c :: (q :: r).drop (k + 1)) = some ([n], 1) := by
                    have e10 := HNE.out 10 (by simp; omega)
                    have e13 := HNE.out 13 (by simp; omega)
                    rw [HU1.out, if_neg (HNE.out 92 (by simp; omega)), if_neg (by rw [HNN.out]; intro h; rcases h with h | h | h; exact e10 h; exact e13 h; omega), HNN.out]
                  have c92 := bnd 92 (by omega)
                  rw [rdGo_some hcq hun] at hrd
                  have H : Hid (s.size - (k + 1) < f ∧ read (q :: r) = rdGo q f ((q :: r).drop (k + 1)) (out ++ [n]) (k + 1) ∧ ∀ y ∈ out ++ [n], y < 65536) := by
                    refine ⟨by omega, hrd, ?_⟩
                    intro y hy
                    rcases List.mem_append.1 hy with hy | hy
                    · exact hu y hy
                    · simp at hy; omega
                  have hbz := HB.out.size
                  have ho2 := HO.out
                  clear hrd hun hdrop hf hu bnd hcase hbad h92
                  go_wp2_with (at_builtin; refine app_lit _ rfl _ _ 58 (by rfl) w.heap.size 3 i0' _ 8 Tryd.underlying58 hi hz0 hz1 hz2 rfl _ m _ (by rfl) ho2 _ 1 (by rfl) rfl ?c1 ?c2 ?c3 hbz ?_)
                  case c1 => rfl
                  case c2 => unfold maxLen; omega
                  case c3 => omega
                  intro v3 w3 ho3 hb4
                  have H2 : Hid (w3.ownsRow w.heap.size 3 1 v3 (m + 1) ((out ++ [n]).map nv) ∧ Below w.heap.size w w3) := ⟨by rw [map_nv_snoc]; exact ho3, HB.out.trans hb4⟩
                  clear ho3 hb4 ho2
                  go_wp2
                  go_roundw
                  case rel => exact ⟨k + 1, m + 1, f, out ++ [n], by omega, by go_num, H2.out.1, by omega, H2.out.2, H.out⟩
                  case measure => simp [intOf]; omega
          · obtain rfl : k = s.size := by omega
            obtain ⟨hf, hrd, hu⟩ := hh.out
            rw [List.drop_eq_nil_of_le (by rw [HLen.out]; exact Nat.le_refl _), rdGo_nil] at hrd
            have HV : Hid (readRes (read (q :: r)) = .tuple #[.string ⟨#[]⟩, .int .i64 0, .int .i64 10]) := by
              show readRes (read (q :: r)) = _
              rw [hrd]
              rfl
            clear hrd hu hh hown hm hf
            go_wp2
            go_ret3
            exact ⟨by rw [HV.out]; rfl, hb⟩
    · have HR : Hid (readRes (read (q :: r)) = .tuple #[.string ⟨#[]⟩, .int .i64 0, .int .i64 10]) := by
        show readRes (if q = 39 ∨ q = 34 then rdGo q (r.length + 1) r [] 1 else none) = _
        rw [if_neg]
        · rfl
        · intro h
          rcases h with h | h
          · exact hq (.inl (by rw [← HN.out, h]; rfl))
          · exact hq (.inr (by rw [← HN.out, h]; rfl))
      have b1 : ((n : Int) != 39) = true := by rw [bne_iff_ne]; omega
      have b2 : ((n : Int) != 34) = true := by rw [bne_iff_ne]; omega
      go_enter Tryd.func42, Tryd.ntmps42
      go_wp2
      go_ret3
      exact ⟨by rw [HR.out]; rfl, Below.refl _ _⟩
end Go.Proofs.YtkaamaopjcaalaaDoor
