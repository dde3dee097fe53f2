/-
  Laid by wip/prune.py out of wip/units: D E H L.
-/
import Derived.Test.YtkaamaopjcaalaaDoorUD
import Derived.Deep.DeepCutAuto
namespace Go.Proofs.YtkaamaopjcaalaaDoor
open Go.RowKit

theorem own_below {w w' : World} {B : Nat} {e : TypeId} {size n : Nat} {v : Value} {xs : List Value} (h : w.ownsRow B e size v n xs) (hb : Below w.heap.size w w') : w'.ownsRow B e size v n xs :=
  h.kept (row := none) ⟨hb.os, hb.tape, hb.output, hb.size, fun k hk _ => hb.block k hk⟩ (by cases v.ownBlock <;> simp)
theorem simpleV_lt {c : UInt8} {n : Nat} (h : simpleV c = some n) : n < 65536 := by
  have hc := c.toNat_lt
  rw [simpleV_nat c _ rfl] at h
  repeat' split at h
  all_goals simp at h
  all_goals omega
theorem hex_lt {l : Bs} {n d : Nat} (h : hexGo 0 (l.take d) = some n) (hd : d ≤ 4) : n < 65536 := by
  have h1 := hexGo_lt _ _ _ h
  have h2 : 16 ^ (l.take d).length ≤ 16 ^ 4 := Nat.pow_le_pow_right (by decide) (by rw [List.length_take]; omega)
  omega
theorem esc_form {l : Bs} {ls : List Nat} {n : Nat} (h : esc l = some (ls, n)) : (ls = [] ∨ ∃ x, ls = [x] ∧ x < 65536) ∧ 1 ≤ n ∧ n ≤ l.length := by
  cases l with
  | nil => cases h
  | cons c r =>
    rw [esc_cons] at h
    by_cases h1 : c = 10
    · rw [if_pos h1] at h
      simp only [Option.some.injEq, Prod.mk.injEq] at h
      exact ⟨.inl h.1.symm, by omega, by simp; omega⟩
    rw [if_neg h1] at h
    by_cases h2 : c = 48
    · rw [if_pos h2] at h
      cases r with
      | nil =>
        simp only [Option.some.injEq, Prod.mk.injEq] at h
        exact ⟨.inr ⟨0, h.1.symm, by decide⟩, by omega, by simp; omega⟩
      | cons d t =>
        simp only at h
        split at h
        · cases h
        · simp only [Option.some.injEq, Prod.mk.injEq] at h
          exact ⟨.inr ⟨0, h.1.symm, by decide⟩, by omega, by simp; omega⟩
    rw [if_neg h2] at h
    by_cases h3 : c = 120
    · rw [if_pos h3] at h
      split at h
      · cases h
      · split at h
        · rename_i m hm
          simp only [Option.some.injEq, Prod.mk.injEq] at h
          exact ⟨.inr ⟨m, h.1.symm, hex_lt hm (by decide)⟩, by omega, by simp; omega⟩
        · cases h
    rw [if_neg h3] at h
    by_cases h4 : c = 117
    · rw [if_pos h4] at h
      split at h
      · cases h
      · split at h
        · rename_i m hm
          simp only [Option.some.injEq, Prod.mk.injEq] at h
          exact ⟨.inr ⟨m, h.1.symm, hex_lt hm (by decide)⟩, by omega, by simp; omega⟩
        · cases h
    rw [if_neg h4] at h
    split at h
    · rename_i m hm
      simp only [Option.some.injEq, Prod.mk.injEq] at h
      exact ⟨.inr ⟨m, h.1.symm, simpleV_lt hm⟩, by omega, by simp; omega⟩
    · cases h
theorem unit1_form {l : Bs} {ls : List Nat} {n : Nat} (h : unit1 l = some (ls, n)) : (ls = [] ∨ ∃ x, ls = [x] ∧ x < 65536) ∧ 1 ≤ n ∧ n ≤ l.length := by
  cases l with
  | nil => cases h
  | cons c r =>
    rw [unit1_cons] at h
    split at h
    · unfold esc1 at h
      split at h
      · rename_i ls' n' he
        simp only [Option.some.injEq, Prod.mk.injEq] at h
        obtain ⟨h1, h2, h3⟩ := esc_form he
        exact ⟨h.1 ▸ h1, by omega, by simp; omega⟩
      · cases h
    · split at h
      · cases h
      · simp only [Option.some.injEq, Prod.mk.injEq] at h
        have := c.toNat_lt
        exact ⟨.inr ⟨c.toNat, h.1.symm, by omega⟩, by omega, by simp; omega⟩
theorem rdGo_nil (q : UInt8) (f : Nat) (out : List Nat) (k : Nat) : rdGo q f [] out k = none := by cases f <;> rfl
theorem rdGo_quote (q : UInt8) (f : Nat) (r : Bs) (out : List Nat) (k : Nat) : rdGo q (f + 1) (q :: r) out k = some (out, k + 1) := by
  unfold rdGo
  rw [if_pos rfl]
theorem rdGo_none {q c : UInt8} {f : Nat} {r : Bs} {out : List Nat} {k : Nat} (hc : ¬ c = q) (h : unit1 (c :: r) = none) : rdGo q (f + 1) (c :: r) out k = none := by
  unfold rdGo
  rw [if_neg hc, h]
theorem rdGo_some {q c : UInt8} {f : Nat} {r : Bs} {out ls : List Nat} {k n : Nat} (hc : ¬ c = q) (h : unit1 (c :: r) = some (ls, n)) : rdGo q (f + 1) (c :: r) out k = rdGo q f ((c :: r).drop n) (out ++ ls) (k + n) := by
  conv => lhs; unfold rdGo
  rw [if_neg hc, h]
/-- what Read answers -/
def readRes (o : Option (List Nat × Nat)) : Value := match o with
  | some (u, n) => .tuple #[.string ⟨(bs u).toArray⟩, .int .i64 n, .int .i64 0]
  | none => .tuple #[.string ⟨#[]⟩, .int .i64 0, .int .i64 10]
theorem index_run (s : ByteArray) (k : Nat) (x : UInt8) (w : World) (hk : s.data.toList[k]? = some x) : (Instr.index 9 (.string s) (.int .i64 (k : Int))).run Tryd.prog w = .ok (.int .u8 ((x.toNat : Nat) : Int)) w := by
  have hk2 : k < s.size := by rw [← size_list]; exact (List.getElem?_eq_some_iff.1 hk).1
  rw [run_index_string w 9 s .i64 k Tryd.underlying9, dif_pos ⟨by omega, by omega⟩]
  congr 2
  rw [List.getElem?_eq_getElem (by rw [size_list]; exact hk2)] at hk
  have hk3 : s.data.toList[k]'(by rw [size_list]; exact hk2) = x := Option.some.inj hk
  rw [← hk3]
  rfl
theorem notEmpty {s : ByteArray} {c : UInt8} {r : Bs} (hl : s.data.toList = c :: r) : s.toList.isEmpty = false := by
  rw [← decide_eq_emptyBytes]
  exact decide_eq_false (fun h => by rw [h] at hl; cases hl)
set_option maxRecDepth 8000 in
set_option maxHeartbeats 2000000 in
theorem read_any (s : ByteArray) (w : World) (hs : s.size ≤ 33554432) (hE : ErrAt w) :
    Calls Tryd.prog 58 #[.string s] w fun e w' => e = .returned (readRes (read s.data.toList)) ∧ Below w.heap.size w w' := by
  have HE := Lib.hid hE
  clear hE
  cases hl : s.data.toList with
  | nil =>
    obtain rfl : s = ⟨#[]⟩ := by apply ByteArray.ext; apply Array.toList_inj.1; exact hl
    go_enter Tryd.func58, Tryd.ntmps58
    go_wp2
    go_ret3
    exact ⟨rfl, Below.refl _ _⟩
  | cons q r =>
    have hz : s.size = r.length + 1 := by rw [← size_list, hl]; simp
    have hemp := notEmpty hl
    obtain ⟨n, hn, hcn⟩ : ∃ n : Nat, q.toNat = n ∧ q = UInt8.ofNat n := ⟨q.toNat, rfl, by simp⟩
    have hn256 : n < 256 := by rw [← hn]; exact q.toNat_lt
    have i0 : ∀ w, (Instr.index 9 (.string s) (.int .i64 0)).run Tryd.prog w = .ok (.int .u8 (n : Int)) w := fun w => by
      rw [← hn]
      exact index_run s 0 q w (by rw [hl]; rfl)
    have HL := Lib.hid hl
    have HN := Lib.hid hn
    have HC := Lib.hid hcn
    have HZ := Lib.hid hz
    have hz1 : 0 < s.size := by omega
    have hlen0 : (q :: r).length = s.size := hz.symm
    have HLen := Lib.hid hlen0
    clear hl hn hcn hz hlen0
    by_cases hq : n = 39 ∨ n = 34
    · have HR : Hid (read (q :: r) = rdGo q (r.length + 1) r [] 1) := by
        show (if q = 39 ∨ q = 34 then rdGo q (r.length + 1) r [] 1 else none) = _
        rw [if_pos]
        rcases hq with h | h
        · exact .inl (by rw [HC.out, h]; rfl)
        · exact .inr (by rw [HC.out, h]; rfl)
      have HIX := Lib.hid (index_run s)
      rcases hq with rfl | rfl
      all_goals
        go_enter Tryd.func58, Tryd.ntmps58
        go_wp2
        go_loopw [5, 6] (fun v x wr => ∃ (k m f : Nat) (out : List Nat), k ≤ s.size ∧ x = .int .i64 k ∧ wr.ownsRow w.heap.size 5 1 v m ((bs out).map bv) ∧ m ≤ 2 * k ∧ Below w.heap.size w wr ∧ Hid (s.size - k < f ∧ read (q :: r) = rdGo q f ((q :: r).drop k) out k ∧ ∀ x ∈ out, x < 65536))
          (fun _ x _ => s.size - (intOf x).toNat)
        case atStart => exact ⟨1, 0, r.length + 1, [], by omega, rfl, World.ownsRow_nil _ _ _ _, by omega, Below.refl _ _, by have := HZ.out; omega, HR.out, by simp⟩
        case round =>
          obtain ⟨k, m, f, out, hk, rfl, hown, hm, hb, hh⟩ := hrel
          by_cases hlt : k < s.size
          · have hkl : k < (q :: r).length := by rw [HLen.out]; exact hlt
            obtain ⟨c, hc⟩ : ∃ c, (q :: r)[k]? = some c := ⟨(q :: r)[k], List.getElem?_eq_getElem hkl⟩
            have hdrop : (q :: r).drop k = c :: (q :: r).drop (k + 1) := by
              rw [List.drop_eq_getElem_cons hkl]
              congr 1
              rw [List.getElem?_eq_getElem hkl] at hc
              exact Option.some.inj hc
            have ia : ∀ w, (Instr.index 9 (.string s) (.int .i64 (k : Int))).run Tryd.prog w = .ok (.int .u8 ((c.toNat : Nat) : Int)) w := fun w => HIX.out k c w (by rw [HL.out]; exact hc)
            obtain ⟨hf, hrd, hu⟩ := hh.out
            rw [hdrop] at hrd
            obtain ⟨f, rfl⟩ : ∃ g, f = g + 1 := ⟨f - 1, by omega⟩
            clear hh hc hkl
            have hdt : decide ((k : Int) < (s.size : Int)) = true := by simp; omega
            by_cases hcq : c = q
            · subst hcq
              rw [rdGo_quote] at hrd
              have HV : Hid (readRes (read (c :: r)) = .tuple #[.string ⟨(bs out).toArray⟩, .int .i64 ((k + 1 : Nat) : Int), .int .i64 0]) := by
                show readRes (read (c :: r)) = _
                rw [hrd]
                rfl
              have hcv := fun nn => string_of_own (P := Tryd.prog) (wr.drewN nn) 57 9 5 Tryd.underlying57 Tryd.underlying5 Tryd.underlying9 (own_below hown (below_drewN _ _ nn))
              have k0 : (0 : Int) ≤ (k : Int) := by omega
              rw [HN.out] at ia
              have bne : ((k : Int) == (s.size : Int)) = false := by rw [beq_eq_false_iff_ne]; omega
              clear hrd hu hdrop hown hm hf
              go_wp2
              go_quiet (fail)
              go_wp2
              go_ret3
              exact ⟨by rw [HV.out]; rfl, hb.trans (below_drewN _ _ _)⟩
            · have bcq : (((c.toNat : Nat) : Int) != (q.toNat : Int)) = true := by
                rw [bne_iff_ne]
                intro h
                exact hcq (UInt8.toNat_inj.1 (by omega))
              rw [HN.out] at bcq
              have hx : (s.extract k s.size).data.toList = c :: (q :: r).drop (k + 1) := by
                rw [← hdrop, ← HL.out]
                simp
                exact List.take_of_length_le (by rw [List.length_drop, size_list]; exact Nat.le_refl _)
              have HU := Lib.hid fun w hE => readUnit_any (s.extract k s.size) c ((q :: r).drop (k + 1)) hx w (by rw [ByteArray.size_extract]; omega) hE
              have hlen : (c :: (q :: r).drop (k + 1)).length = s.size - k := by rw [← hdrop, List.length_drop, HLen.out]
              have HB := Lib.hid hb
              have k0 : (0 : Int) ≤ (k : Int) := by omega
              clear hx hdrop
              rcases ho : unit1 (c :: (q :: r).drop (k + 1)) with _ | ⟨ls, n⟩
              · have HV : Hid (readRes (read (q :: r)) = .tuple #[.string ⟨#[]⟩, .int .i64 0, .int .i64 10]) := by
                  show readRes (read (q :: r)) = _
                  rw [hrd, rdGo_none hcq ho]
                  rfl
                have e0 : unitV none = .tuple #[.int .i64 0, .int .i64 0] := rfl
                rw [ho, e0] at HU
                clear hrd hu ho hown hm hf hb hlen hcq e0
                go_wp2
                go_quiet (fail)
                go_wp2_with (go_at_call 72; refine (HU.out _ (HE.out.below (HB.out.trans (below_drewN _ _ _)))).mono ?_; rintro e w' ⟨rfl, hb2⟩)
                go_ret3
                exact ⟨by rw [HV.out]; rfl, HB.out.trans ((below_drewN _ _ _).trans (hb2.mono HB.out.size))⟩
              · obtain ⟨hls, hn1, hn2⟩ := unit1_form ho
                rw [rdGo_some hcq ho] at hrd
                have hdd : (c :: (q :: r).drop (k + 1)).drop n = (q :: r).drop (k + n) := by
                  obtain ⟨n, rfl⟩ : ∃ m, n = m + 1 := ⟨n - 1, by omega⟩
                  rw [List.drop_succ_cons, List.drop_drop]
                  congr 1
                  omega
                rw [hdd] at hrd
                rw [hlen] at hn2
                have bn0 : ((n : Int) == 0) = false := by rw [beq_eq_false_iff_ne]; omega
                rcases hls with rfl | ⟨x, rfl, hx16⟩
                · have e0 : unitV (some ([], n)) = .tuple #[.int .i64 (-1), .int .i64 n] := rfl
                  rw [ho, e0] at HU
                  have H : Hid (s.size - (k + n) < f ∧ read (q :: r) = rdGo q f ((q :: r).drop (k + n)) out (k + n) ∧ ∀ x ∈ out, x < 65536) := ⟨by omega, by rw [hrd, List.append_nil], hu⟩
                  have HO := Lib.hid hown
                  clear hrd hu ho hf hb hlen hcq e0 hdd hown
                  go_wp2
                  go_quiet (fail)
                  go_wp2_with (go_at_call 72; refine (HU.out _ (HE.out.below (HB.out.trans (below_drewN _ _ _)))).mono ?_; rintro e w' ⟨rfl, hb2⟩)
                  go_roundw
                  case rel => exact ⟨k + n, m, f, out, by omega, by go_num, own_below (own_below HO.out (below_drewN _ _ _)) hb2, by omega, HB.out.trans ((below_drewN _ _ _).trans (hb2.mono HB.out.size)), H.out⟩
                  case measure => simp [intOf]; omega
                · have e0 : unitV (some ([x], n)) = .tuple #[.int .i64 x, .int .i64 n] := rfl
                  rw [ho, e0] at HU
                  have H : Hid (s.size - (k + n) < f ∧ read (q :: r) = rdGo q f ((q :: r).drop (k + n)) (out ++ [x]) (k + n) ∧ ∀ y ∈ out ++ [x], y < 65536) := by
                    refine ⟨by omega, hrd, ?_⟩
                    intro y hy
                    rcases List.mem_append.1 hy with hy | hy
                    · exact hu y hy
                    · simp at hy; omega
                  have bx : ((x : Int) != -1) = true := by rw [bne_iff_ne]; omega
                  have HO := Lib.hid hown
                  clear hrd hu ho hf hb hlen hcq e0 hdd hown
                  go_wp2
                  go_quiet (fail)
                  go_wp2_with fail
                  refine (HU.out _ (HE.out.below (HB.out.trans (below_drewN _ _ _)))).mono ?_
                  rintro e w' ⟨rfl, hb2⟩
                  have ho2 := own_below (own_below HO.out (below_drewN _ _ _)) hb2
                  have hb3 := HB.out.trans ((below_drewN _ _ _).trans (hb2.mono HB.out.size))
                  go_wp2_with (go_at_call 73; refine (appendUnit_any w.heap.size _ _ _ x _ ho2 hx16 (by omega) hb3.size).mono ?_; rintro e w3 ⟨v3, rfl, ho3, hb4⟩)
                  have H2 : Hid (w3.ownsRow w.heap.size 5 1 v3 (m + 2) ((bs (out ++ [x])).map bv) ∧ Below w.heap.size w w3) := ⟨by rw [bs_append, List.map_append]; exact ho3, hb3.trans hb4⟩
                  go_roundw
                  case rel => exact ⟨k + n, m + 2, f, out ++ [x], by omega, by go_num, H2.out.1, by omega, H2.out.2, H.out⟩
                  case measure => simp [intOf]; omega
          · obtain rfl : k = s.size := by omega
            obtain ⟨hf, hrd, hu⟩ := hh.out
            rw [List.drop_eq_nil_of_le (by rw [HLen.out]; exact Nat.le_refl _), rdGo_nil] at hrd
            have HV : Hid (readRes (read (q :: r)) = .tuple #[.string ⟨#[]⟩, .int .i64 0, .int .i64 10]) := by
              show readRes (read (q :: r)) = _
              rw [hrd]
              rfl
            have hdt : decide ((s.size : Int) < (s.size : Int)) = false := by simp
            clear hrd hu hh hown hm hf
            go_wp2
            go_quiet (fail)
            go_wp2
            go_ret3
            exact ⟨by rw [HV.out]; rfl, hb.trans (below_drewN _ _ _)⟩
    · have HR : Hid (readRes (read (q :: r)) = .tuple #[.string ⟨#[]⟩, .int .i64 0, .int .i64 10]) := by
        show readRes (if q = 39 ∨ q = 34 then rdGo q (r.length + 1) r [] 1 else none) = _
        rw [if_neg]
        · rfl
        · intro h
          rcases h with h | h
          · exact hq (.inl (by rw [← HN.out, h]; rfl))
          · exact hq (.inr (by rw [← HN.out, h]; rfl))
      have b1 : ((n : Int) != 39) = true := by rw [bne_iff_ne]; omega
      have b2 : ((n : Int) != 34) = true := by rw [bne_iff_ne]; omega
      go_enter Tryd.func58, Tryd.ntmps58
      go_wp2
      go_ret3
      exact ⟨by rw [HR.out]; rfl, Below.refl _ _⟩
end Go.Proofs.YtkaamaopjcaalaaDoor
