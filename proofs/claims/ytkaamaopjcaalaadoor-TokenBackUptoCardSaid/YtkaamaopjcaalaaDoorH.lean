/-
  The reference's blanks, by contract.
-/
import Derived.Test.YtkaamaopjcaalaaDoorG
import Derived.Test.YtkaamaopjcaalaaDoorQ
namespace Go.Proofs.YtkaamaopjcaalaaDoor.T
open Go.RowKit Go.Proofs.YtkaamaopjcaalaaDoor

theorem fresh_add (l : Bs) (k n : Nat) : fresh l (k + n) = (fresh l k || fresh (l.drop k) n) := by
  unfold fresh
  rw [List.take_add, List.any_append]
theorem fresh_one (c : UInt8) (r : Bs) : fresh (c :: r) 1 = el c := by
  unfold fresh
  simp
theorem fresh_run (l : Bs) : fresh l (run nel l) = false := by
  unfold fresh
  rw [List.any_eq_false]
  intro x hx
  have := run_all (p := nel) l x hx
  unfold nel at this
  simpa using this
theorem fin_at : ∀ {q : Bs} {i : Nat}, fin q = some i → q.take (i + 2) = q.take i ++ [42, 47]
  | [], i, h => by simp [fin] at h
  | c :: r, i, h => by
    unfold fin at h
    split at h
    · rename_i hc
      injection h with h
      subst h
      cases r with
      | nil => simp at hc
      | cons d t =>
        obtain ⟨rfl, hd⟩ := hc
        injection hd with hd
        subst hd
        rfl
    · cases hf : fin r with
      | none => rw [hf] at h; simp at h
      | some j =>
        rw [hf] at h
        simp only [Option.map_some, Option.some.injEq] at h
        subst h
        have := fin_at hf
        rw [show j + 1 + 2 = (j + 2) + 1 by omega, List.take_succ_cons, List.take_succ_cons, this]
        rfl
theorem fresh_block {q : Bs} {i : Nat} (h : fin q = some i) : fresh (47 :: 42 :: q) (i + 4) = (q.take i).any el := by
  unfold fresh
  rw [show i + 4 = (i + 2) + 1 + 1 by omega, List.take_succ_cons, List.take_succ_cons, fin_at h]
  simp [el]
/-- how far the star and slash has been looked for -/
def Sk (q : Bs) (i : Nat) : Prop := i ≤ q.length ∧ fin q = (fin (q.drop i)).map (· + i)
theorem Sk.zero (q : Bs) : Sk q 0 := ⟨Nat.zero_le _, by cases h : fin q <;> simp [h]⟩
theorem Sk.step {q : Bs} {i : Nat} {c : UInt8} {r : Bs} (h : Sk q i) (hd : q.drop i = c :: r) (hn : ¬ (c = 42 ∧ r.head? = some 47)) : Sk q (i + 1) := by
  obtain ⟨h1, h2⟩ := h
  have hl : i < q.length := by
    rcases Nat.lt_or_ge i q.length with h | h
    · exact h
    · rw [List.drop_of_length_le h] at hd; cases hd
  have e : q.drop (i + 1) = r := by rw [Nat.add_comm, ← List.drop_drop, List.drop_drop, Nat.add_comm, ← List.drop_drop, hd]; rfl
  refine ⟨hl, ?_⟩
  have e2 : fin (c :: r) = (fin r).map (· + 1) := if_neg hn
  rw [h2, hd, e, e2]
  cases fin r with
  | none => rfl
  | some j => simp only [Option.map_some, Option.some.injEq]; omega
theorem Sk.done {q : Bs} {i : Nat} {c : UInt8} {r : Bs} (h : Sk q i) (hd : q.drop i = c :: r) (hn : c = 42 ∧ r.head? = some 47) : fin q = some i := by
  have e2 : fin (c :: r) = some 0 := if_pos hn
  rw [h.2, hd, e2]
  simp
theorem Sk.out {q : Bs} {i : Nat} (h : Sk q i) (hd : q.length ≤ i) : fin q = none := by
  rw [h.2, List.drop_of_length_le hd]
  rfl
/-- what blanks answers -/
def blV (a : Nat) (l : Bs) (x : Nat × Bool) : Value := .tuple #[.int .i64 ((a + x.1 : Nat) : Int), .bool (x.2 && fresh l x.1), .bool x.2]
theorem blV_eq {a p n : Nat} {l : Bs} {c b : Bool} {x : Nat × Bool} (h : x = (n, c)) (hp : p = a + n) (hb : b = (c && fresh l n)) : blV a l x = .tuple #[.int .i64 (p : Nat), .bool b, .bool c] := by
  subst h hp hb; rfl
theorem nat_ne {c : UInt8} {n k : Nat} (hn : c.toNat = n) (hk : k < 256) (h : ¬ n = k) : ¬ c = UInt8.ofNat k := by
  intro e
  subst e
  apply h
  rw [← hn]
  simp
  omega
def At2 (a p : Nat) (l : Bs) (k : Nat) (b : Bool) : Prop := p = a + k ∧ b = fresh l k ∧ At l k
theorem At2.step {a p k n : Nat} {l : Bs} {b b' : Bool} (h : At2 a p l k b) (hw : ws1 (l.drop k) = some (some n)) (hb : b' = (b || fresh (l.drop k) n)) : At2 a (p + n) l (k + n) b' := by
  obtain ⟨h1, h2, h3⟩ := h
  refine ⟨by omega, ?_, h3.step hw⟩
  rw [hb, h2, fresh_add]
set_option maxRecDepth 8000 in
set_option maxHeartbeats 4000000 in
theorem blanks_any (s : ByteArray) (a : Nat) (w : World) (hs : s.size ≤ 1000000) (ha : a ≤ s.size) :
    Calls Tryd.prog 27 #[.string s, .int .i64 (a : Nat)] w fun e w' => e = .returned (blV a (s.data.toList.drop a) (spc (s.data.toList.drop a))) ∧ w = w' := by
  have HL : Hid (∀ k p, p = a + k → (s.data.toList.drop a).drop k = s.data.toList.drop p) := Lib.hid fun k p h => by rw [List.drop_drop, h]
  have HEm := Lib.hid (size_list s)
  have HIX := Lib.hid (index_run s)
  have HBG := Lib.hid fun p (h : p ≤ s.size) (g : ByteArray) (hg : g.size ≤ 16) w => begins_any s p g w (by omega) h hg
  have H0 : Hid (At2 a a (s.data.toList.drop a) 0 false) := Lib.hid ⟨rfl, rfl, At.zero _⟩
  generalize s.data.toList = L at *
  generalize L.drop a = l at *
  go_enter Tryd.func27, Tryd.ntmps27
  go_wp2_with fail
  go_loopw [1, 7] (fun v f wr => ∃ (p k : Nat) (b : Bool), p ≤ s.size ∧ v = .int .i64 p ∧ f = .bool b ∧ Hid (At2 a p l k b) ∧ w = wr)
    (fun v _ _ => s.size - (intOf v).toNat)
  case atStart => exact ⟨a, 0, false, ha, rfl, rfl, H0, rfl⟩
  case round =>
    obtain ⟨p, k, b, hp, rfl, rfl, hA, rfl⟩ := hrel
    by_cases hlt : p < s.size
    · have hlk := HL.out k p hA.out.1
      obtain ⟨c, r, hcr⟩ := drop_cons (l := L) (k := p) (by rw [HEm.out]; exact hlt)
      have hget : L[p]? = some c := by
        have : (L.drop p)[0]? = some c := by rw [hcr]; rfl
        rw [List.getElem?_drop] at this
        exact this
      have ix := fun w => HIX.out p c w hget
      have HLn : Hid (r.length + 1 = s.size - p) := Lib.hid (by rw [← HEm.out, ← List.length_drop, hcr]; rfl)
      rw [hcr] at hlk
      have hw1 := (congrArg ws1 hlk).trans (ws1_cons c r)
      have HB1 := Lib.hid fun w => HBG.out p hp ⟨#[47, 47]⟩ (by decide) w
      have HB2 := Lib.hid fun w => HBG.out p hp ⟨#[47, 42]⟩ (by decide) w
      have e1 : (ByteArray.mk #[47, 47]).data.toList.isPrefixOf (L.drop p) = decide (c = 47 ∧ r.head? = some 47) := by rw [hcr]; exact prefix_two c 47 47 r
      have e2 : (ByteArray.mk #[47, 42]).data.toList.isPrefixOf (L.drop p) = decide (c = 47 ∧ r.head? = some 42) := by rw [hcr]; exact prefix_two c 47 42 r
      rw [e1] at HB1
      rw [e2] at HB2
      have hws : ws c = decide (9 ≤ c.toNat ∧ c.toNat ≤ 13 ∨ c.toNat = 32) := rfl
      have hel : el c = decide (c.toNat = 10 ∨ c.toNat = 13) := rfl
      have hf1 := fresh_one c r
      obtain ⟨n, hn⟩ : ∃ n, c.toNat = n := ⟨_, rfl⟩
      rw [hn] at hws hel ix
      have cases6 : n = 10 ∨ n = 13 ∨ n = 9 ∨ n = 11 ∨ n = 12 ∨ n = 32 ∨ (¬ n = 10 ∧ ¬ n = 13 ∧ ¬ n = 9 ∧ ¬ n = 11 ∧ ¬ n = 12 ∧ ¬ n = 32) := by omega
      rcases cases6 with rfl | rfl | rfl | rfl | rfl | rfl | ⟨n1, n2, n3, n4, n5, n6⟩
      case inl | inr.inl =>
        have HV := Lib.hid (hA.out.step (n := 1) (b' := true) (by rw [hw1, hws]; rfl) (by rw [hlk, hf1, hel]; simp))
        clear hA hlk hcr hget hw1 e1 e2 hws hel hf1 hn
        go_wp2_with fail
        go_roundw
        case rel => exact ⟨p + 1, k + 1, true, by omega, by go_num, rfl, HV, by first | rfl | trivial⟩
        case measure => simp [intOf]; omega
      case inr.inr.inl | inr.inr.inr.inl | inr.inr.inr.inr.inl | inr.inr.inr.inr.inr.inl =>
        have HV := Lib.hid (hA.out.step (n := 1) (b' := b) (by rw [hw1, hws]; rfl) (by rw [hlk, hf1, hel]; simp))
        clear hA hlk hcr hget hw1 e1 e2 hws hel hf1 hn
        go_wp2_with fail
        go_roundw
        case rel => exact ⟨p + 1, k + 1, b, by omega, by go_num, rfl, HV, by first | rfl | trivial⟩
        case measure => simp [intOf]; omega
      case inr.inr.inr.inr.inr.inr =>
        have hwf : ws c = false := by rw [hws]; exact decide_eq_false (by omega)
        have b1 : ((n : Int) == 10) = false := ne_i (by omega)
        have b2 : ((n : Int) == 13) = false := ne_i (by omega)
        have b3 : ((n : Int) == 9) = false := ne_i (by omega)
        have b4 : ((n : Int) == 11) = false := ne_i (by omega)
        have b5 : ((n : Int) == 12) = false := ne_i (by omega)
        have b6 : ((n : Int) == 32) = false := ne_i (by omega)
        clear n1 n2 n3 n4 n5 n6 hws hel
        by_cases h1 : c = 47 ∧ r.head? = some 47
        · rw [decide_eq_true h1] at HB1
          have hV := hA.out.step (n := run nel (c :: r)) (b' := b) (by rw [hw1, if_neg (by rw [hwf]; decide), if_pos h1]) (by rw [hlk, fresh_run]; simp)
          have HIXr : Hid (∀ i x w, (c :: r)[i]? = some x → (Instr.index 9 (.string s) (.int .i64 ((p + i : Nat) : Int))).run Tryd.prog w = .ok (.int .u8 ((x.toNat : Nat) : Int)) w) := Lib.hid fun i x w hx => HIX.out (p + i) x w (by
            rw [← hcr, List.getElem?_drop] at hx
            exact hx)
          have HV := Lib.hid hV
          have HR1 : Hid (0 < run nel (c :: r)) := Lib.hid (by rw [run_go (by rw [h1.1]; rfl)]; omega)
          clear hA hlk hcr hget hw1 e1 e2 hf1 HB2 h1 hwf hV
          go_wp2_with (go_at_call 40; refine (HB1.out _).mono ?_; rintro e w' ⟨rfl, rfl⟩)
          go_loopw [1] (fun v wr => ∃ (q i : Nat), q ≤ s.size ∧ v = .int .i64 q ∧ Hid (q = p + i ∧ ∀ b ∈ (c :: r).take i, nel b = true) ∧ w = wr)
            (fun v _ => s.size - (intOf v).toNat)
          case atStart => exact ⟨p, 0, hp, rfl, Lib.hid ⟨rfl, by simp⟩, rfl⟩
          case round =>
            obtain ⟨q, i, hq, rfl, hI, rfl⟩ := hrel
            by_cases hlq : q < s.size
            · have hqi := hI.out.1
              have hlt' : i < (c :: r).length := by have := HLn.out; simp only [List.length_cons]; omega
              have ix2 := fun w => HIXr.out i _ w (List.getElem?_eq_getElem hlt')
              rw [← hqi] at ix2
              have HE : Hid (nel (c :: r)[i] = false → At2 a q l (k + i) b ∧ p < q) := Lib.hid fun h => by
                have := run_eq hlt' hI.out.2 h
                have hv := HV.out
                have hr := HR1.out
                rw [this] at hv hr
                rw [hqi]
                exact ⟨hv, by omega⟩
              have HS : Hid (nel (c :: r)[i] = true → q + 1 = p + (i + 1) ∧ ∀ b ∈ (c :: r).take (i + 1), nel b = true) := Lib.hid fun h => ⟨by omega, fun b hb => by
                rw [List.take_succ_eq_append_getElem hlt', List.mem_append, List.mem_singleton] at hb
                rcases hb with hb | rfl
                · exact hI.out.2 b hb
                · exact h⟩
              have hnel : nel (c :: r)[i] = !decide ((c :: r)[i].toNat = 10 ∨ (c :: r)[i].toNat = 13) := rfl
              generalize (c :: r)[i] = x at *
              generalize x.toNat = m at *
              have cs : m = 10 ∨ m = 13 ∨ (¬ m = 10 ∧ ¬ m = 13) := by omega
              rcases cs with rfl | rfl | ⟨m1, m2⟩
              · have HV2 := Lib.hid (HE.out (by rw [hnel]; decide))
                clear hI hlt' HS HE hnel hqi
                have hpq := HV2.out.2
                go_wp2_with fail
                go_roundw
                case rel => exact ⟨q, k + i, b, hq, rfl, rfl, HV2.out.1, by first | rfl | trivial⟩
                case measure => simp [intOf]; omega
              · have HV2 := Lib.hid (HE.out (by rw [hnel]; decide))
                clear hI hlt' HS HE hnel hqi
                have hpq := HV2.out.2
                go_wp2_with fail
                go_roundw
                case rel => exact ⟨q, k + i, b, hq, rfl, rfl, HV2.out.1, by first | rfl | trivial⟩
                case measure => simp [intOf]; omega
              · have b7 : ((m : Int) == 10) = false := ne_i (by omega)
                have b8 : ((m : Int) == 13) = false := ne_i (by omega)
                have b7' : ((m : Int) != 10) = true := by rw [bne, b7]; rfl
                have b8' : ((m : Int) != 13) = true := by rw [bne, b8]; rfl
                have HV2 := Lib.hid (HS.out (by rw [hnel, decide_eq_false (by omega)]; rfl))
                clear hI hlt' HS HE hnel hqi m1 m2
                go_wp2_with fail
                go_roundw
                case rel => exact ⟨q + 1, i + 1, by omega, by go_num, HV2, by first | rfl | trivial⟩
                case measure => simp [intOf]; omega
            · obtain rfl : q = s.size := by omega
              have hV2 : At2 a s.size l (k + i) b ∧ p < s.size := by
                have hqi := hI.out.1
                have hi : (c :: r).length = i := by have := HLn.out; simp only [List.length_cons]; omega
                have := run_full (p := nel) (l := c :: r) fun b hb => hI.out.2 b (by rw [← hi, List.take_length]; exact hb)
                have hv := HV.out
                rw [this, hi, ← hqi] at hv
                exact ⟨hv, hlt⟩
              have HV2 := Lib.hid hV2
              clear hI hV2
              have hpq := HV2.out.2
              go_wp2_with fail
              go_roundw
              case rel => exact ⟨s.size, k + i, b, Nat.le_refl _, rfl, rfl, HV2.out.1, by first | rfl | trivial⟩
              case measure => simp [intOf]; omega
        · rw [decide_eq_false h1] at HB1
          by_cases h2 : c = 47 ∧ r.head? = some 42
          · rw [decide_eq_true h2] at HB2
            have hr0 : r ≠ [] := by intro e; rw [e] at h2; simp at h2
            obtain ⟨d, q, rfl⟩ := List.exists_cons_of_ne_nil hr0
            have hdq : c = 47 ∧ d = 42 := by
              obtain ⟨h2a, h2b⟩ := h2
              injection h2b with h2b
              exact ⟨h2a, h2b⟩
            have hW2 : ws1 (l.drop k) = match fin q with
              | some j => some (some (j + 4))
              | none => none := by rw [hw1, if_neg (by rw [hwf]; decide), if_neg h1, if_pos h2]; rfl
            have HLq : Hid (q.length + 2 = s.size - p) := Lib.hid (by have := HLn.out; simp only [List.length_cons] at this; omega)
            have hdr : ∀ i, L.drop (p + 2 + i) = q.drop i := fun i => by
              rw [Nat.add_assoc, ← List.drop_drop, hcr, Nat.add_comm 2 i]
              rfl
            have HIXr : Hid (∀ i x w, q[i]? = some x → (Instr.index 9 (.string s) (.int .i64 ((p + 2 + i : Nat) : Int))).run Tryd.prog w = .ok (.int .u8 ((x.toNat : Nat) : Int)) w) := Lib.hid fun i x w hx => HIX.out (p + 2 + i) x w (by
              have : (L.drop (p + 2 + i))[0]? = (q.drop i)[0]? := by rw [hdr]
              rw [List.getElem?_drop, List.getElem?_drop] at this
              exact this.trans hx)
            have HBr : Hid (∀ i w, p + 2 + i ≤ s.size → Calls Tryd.prog 40 #[.string s, .int .i64 ((p + 2 + i : Nat) : Int), .string ⟨#[42, 47]⟩] w fun e w' => e = .returned (.bool (Lib.hasPrefix (q.drop i) [42, 47])) ∧ w = w') := Lib.hid fun i w h => by
              have := HBG.out (p + 2 + i) h ⟨#[42, 47]⟩ (by decide) w
              rw [hdr] at this
              exact this
            have HVn : Hid (fin q = none → blV a l (spc l) = .tuple #[.int .i64 (p : Nat), .bool false, .bool false]) := Lib.hid fun h => blV_eq (hA.out.2.2.opened (by rw [hW2, h])) hA.out.1 rfl
            have HVs : Hid (∀ i, fin q = some i → At2 a (p + (i + 4)) l (k + (i + 4)) (b || (q.take i).any el)) := Lib.hid fun i h => hA.out.step (by rw [hW2, h]) (by rw [hlk, hdq.1, hdq.2, fresh_block h])
            have HSz := Lib.hid (Sk.zero q)
            have hp2 : p + 2 ≤ s.size := by have := HLq.out; omega
            clear hA hlk hcr hget hw1 e1 e2 hf1 h1 hwf h2 hdq hW2 hr0 hdr
            clear HIX HBG
            go_wp2_with fail
            refine (HB1.out _).mono ?_
            rintro e w' ⟨rfl, rfl⟩
            go_wp2_with fail
            refine (HB2.out _).mono ?_
            rintro e w' ⟨rfl, rfl⟩
            go_wp2_with fail
            go_loopw [9, 10] (fun v f wr => ∃ (e i : Nat) (lb : Bool), e ≤ s.size ∧ v = .int .i64 e ∧ f = .bool lb ∧ Hid (e = p + 2 + i ∧ Sk q i ∧ lb = (q.take i).any el) ∧ w = wr)
              (fun v _ _ => s.size - (intOf v).toNat)
            case atStart => exact ⟨p + 2, 0, false, hp2, by go_num, rfl, Lib.hid ⟨rfl, HSz.out, rfl⟩, rfl⟩
            case round =>
              obtain ⟨e, i, lb, he, rfl, rfl, hI, rfl⟩ := hrel
              by_cases hlq : e < s.size
              · have hqi := hI.out.1
                have hi : i < q.length := by have := HLq.out; omega
                obtain ⟨x, rr, hxr⟩ := drop_cons (l := q) (k := i) hi
                have hgx : q[i]? = some x := by
                  have : (q.drop i)[0]? = some x := by rw [hxr]; rfl
                  rw [List.getElem?_drop] at this
                  exact this
                have ix2 := fun w => HIXr.out i _ w hgx
                have HB3 := Lib.hid fun w => HBr.out i w (by omega)
                rw [hxr, prefix_two, ← hqi] at HB3
                rw [← hqi] at ix2
                by_cases h3 : x = 42 ∧ rr.head? = some 47
                · rw [decide_eq_true h3] at HB3
                  have hv := HVs.out i (hI.out.2.1.done hxr h3)
                  rw [← hI.out.2.2] at hv
                  have HV : Hid (At2 a (e + 2) l (k + (i + 4)) (b || lb)) := Lib.hid (by rw [show e + 2 = p + (i + 4) by omega]; exact hv)
                  have hpe : p < e + 2 ∧ e + 2 ≤ s.size := by
                    refine ⟨by omega, ?_⟩
                    have := HLq.out
                    have hr : rr ≠ [] := by intro e; rw [e] at h3; simp at h3
                    have hl : (q.drop i).length = rr.length + 1 := by rw [hxr]; rfl
                    have := List.length_pos_iff.2 hr
                    rw [List.length_drop] at hl
                    omega
                  clear hI hxr hgx h3 hv hqi hi
                  obtain ⟨hpe1, hpe2⟩ := hpe
                  cases b <;> cases lb
                  all_goals
                    go_wp2_with fail
                    refine (HB3.out _).mono ?_
                    rintro e w' ⟨rfl, rfl⟩
                    go_wp2_with fail
                    go_roundw
                    case rel => exact ⟨_, _, _, hpe2, by go_num, rfl, HV, by first | rfl | trivial⟩
                    case measure => simp [intOf]; omega
                · rw [decide_eq_false h3] at HB3
                  have HK := Lib.hid (hI.out.2.1.step hxr h3)
                  have hlb : (q.take (i + 1)).any el = (lb || el x) := by
                    rw [List.take_succ_eq_append_getElem hi, List.any_append, hI.out.2.2]
                    have : q[i] = x := by rw [List.getElem?_eq_getElem hi] at hgx; exact Option.some.inj hgx
                    rw [this]
                    simp
                  have hel : el x = decide (x.toNat = 10 ∨ x.toNat = 13) := rfl
                  rw [hel] at hlb
                  have hpe : e + 1 = p + 2 + (i + 1) := by omega
                  have HP := Lib.hid hpe
                  clear hI hxr hgx h3 hqi hel hpe
                  generalize x.toNat = m at *
                  have cs : m = 10 ∨ m = 13 ∨ (¬ m = 10 ∧ ¬ m = 13) := by omega
                  rcases cs with rfl | rfl | ⟨m1, m2⟩
                  · have HLb : Hid ((q.take (i + 1)).any el = true) := Lib.hid (by rw [hlb]; simp)
                    clear hlb
                    cases lb
                    all_goals
                      go_wp2_with fail
                      refine (HB3.out _).mono ?_
                      rintro e w' ⟨rfl, rfl⟩
                      go_wp2_with fail
                      go_roundw
                      case rel => exact ⟨_, i + 1, true, hlq, by go_num, rfl, Lib.hid ⟨HP.out, HK.out, HLb.out.symm⟩, by first | rfl | trivial⟩
                      case measure => simp [intOf]; omega
                  · have HLb : Hid ((q.take (i + 1)).any el = true) := Lib.hid (by rw [hlb]; simp)
                    clear hlb
                    cases lb
                    all_goals
                      go_wp2_with fail
                      refine (HB3.out _).mono ?_
                      rintro e w' ⟨rfl, rfl⟩
                      go_wp2_with fail
                      go_roundw
                      case rel => exact ⟨_, i + 1, true, hlq, by go_num, rfl, Lib.hid ⟨HP.out, HK.out, HLb.out.symm⟩, by first | rfl | trivial⟩
                      case measure => simp [intOf]; omega
                  · have HLb : Hid ((q.take (i + 1)).any el = lb) := Lib.hid (by rw [hlb, decide_eq_false (by omega)]; simp)
                    have b7 : ((m : Int) == 10) = false := ne_i (by omega)
                    have b8 : ((m : Int) == 13) = false := ne_i (by omega)
                    clear hlb m1 m2
                    cases lb
                    all_goals
                      go_wp2_with fail
                      refine (HB3.out _).mono ?_
                      rintro e w' ⟨rfl, rfl⟩
                      go_wp2_with fail
                      go_roundw
                      case rel => exact ⟨_, i + 1, _, hlq, by go_num, rfl, Lib.hid ⟨HP.out, HK.out, HLb.out.symm⟩, by first | rfl | trivial⟩
                      case measure => simp [intOf]; omega
              · obtain rfl : e = s.size := by omega
                have HV := Lib.hid (HVn.out (hI.out.2.1.out (by have := HLq.out; have := hI.out.1; omega)))
                clear hI
                go_wp2_with fail
                try rw [Exit.noGoto_ret]
                go_ret3
                exact ⟨by rw [HV.out]; rfl, rfl⟩
          · rw [decide_eq_false h2] at HB2
            have HV := Lib.hid (blV_eq (b := b) (hA.out.2.2.off (by rw [hw1, if_neg (by rw [hwf]; decide), if_neg h1, if_neg h2])) hA.out.1 (by rw [Bool.true_and]; exact hA.out.2.1))
            clear hA hlk hcr hget hw1 e1 e2 hf1 h1 h2 hwf
            go_wp2_with fail
            refine (HB1.out _).mono ?_
            rintro e w' ⟨rfl, rfl⟩
            go_wp2_with fail
            refine (HB2.out _).mono ?_
            rintro e w' ⟨rfl, rfl⟩
            go_wp2_with fail
            try rw [Exit.noGoto_ret]
            go_ret3
            exact ⟨by rw [HV.out]; rfl, rfl⟩
    · obtain rfl : p = s.size := by omega
      have hlk := HL.out k _ hA.out.1
      have HV := Lib.hid (blV_eq (b := b) (hA.out.2.2.off (by rw [hlk, List.drop_of_length_le (by rw [HEm.out]; exact Nat.le_refl _)]; rfl)) hA.out.1 (by rw [Bool.true_and]; exact hA.out.2.1))
      clear hlk
      go_wp2_with fail
      go_ret3
      exact ⟨by rw [HV.out]; rfl, rfl⟩
end Go.Proofs.YtkaamaopjcaalaaDoor.T
