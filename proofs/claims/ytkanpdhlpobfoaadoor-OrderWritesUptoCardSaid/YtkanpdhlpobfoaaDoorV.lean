/-
  The reference's Decode, by contract.
-/
import Derived.Test.YtkanpdhlpobfoaaDoorU
namespace Go.Proofs.YtkanpdhlpobfoaaDoor
open Go.RowKit
open K (Pt)

/-- what stands ahead, and how long it is; 0: nothing stands there -/
def nx (l : Bs) : Pt × Nat := if l.head? = some 16 then numR l else if l.head? = some 32 then txtR l else (⟨false, 0, ⟨#[]⟩⟩, 0)
theorem nx_num (r : Bs) : nx (16 :: r) = numR (16 :: r) := rfl
theorem nx_txt (r : Bs) : nx (32 :: r) = txtR (32 :: r) := rfl
theorem nx_other {c : UInt8} {r : Bs} (h1 : c ≠ 16) (h2 : c ≠ 32) : nx (c :: r) = (⟨false, 0, ⟨#[]⟩⟩, 0) := by
  unfold nx
  rw [if_neg (by simpa using h1), if_neg (by simpa using h2)]
theorem nx_hd : ∀ l : Bs, ((nx l).2 = 0 ∧ K.hd l = none) ∨ (0 < (nx l).2 ∧ K.hd l = some ((nx l).1, l.drop (nx l).2) ∧ (nx l).2 ≤ l.length ∧ (nx l).1.s.size + 1 ≤ (nx l).2)
  | [] => .inl ⟨rfl, rfl⟩
  | c :: r => by
    by_cases h1 : c = 16
    · subst h1
      rw [nx_num]
      unfold numR
      by_cases h : 8 ≤ r.length
      · right
        rw [if_neg (by simp only [List.length_cons]; omega), K.hd, if_pos rfl, if_pos h]
        refine ⟨by simp, rfl, by simp only [List.length_cons]; omega, by show 0 + 1 ≤ 9; omega⟩
      · left
        rw [if_pos (by simp only [List.length_cons]; omega), K.hd, if_pos rfl, if_neg h]
        exact ⟨rfl, rfl⟩
    · by_cases h2 : c = 32
      · subst h2
        rw [nx_txt]
        cases hu : K.unesc r with
        | none =>
          left
          rw [txtR_none (by exact hu), K.hd, if_neg (by decide), if_pos rfl, hu]
          exact ⟨rfl, rfl⟩
        | some q =>
          right
          obtain ⟨t, z⟩ := q
          have he := K.esc_un r.length r t z (Nat.le_refl _) hu
          have hl : r.length = (K.esc t).length + 2 + z.length := by
            rw [he]
            simp only [List.length_append, List.length_cons]
            omega
          have hel : t.length ≤ (K.esc t).length := by rw [esc_length]; omega
          have hn : (32 :: r).length - z.length = (K.esc t).length + 3 := by simp only [List.length_cons]; omega
          rw [txtR_some (t := t) (z := z) (by exact hu), K.hd, if_neg (by decide), if_pos rfl, hu]
          simp only [hn]
          refine ⟨by omega, ?_, by simp only [List.length_cons]; omega, by show t.length + 1 ≤ _; omega⟩
          have hd : (32 :: r).drop ((K.esc t).length + 3) = z := by
            rw [show (K.esc t).length + 3 = (K.esc t).length + 2 + 1 by omega, List.drop_succ_cons, he, List.drop_append, List.drop_eq_nil_of_le (by omega), show (K.esc t).length + 2 - (K.esc t).length = 2 by omega]
            rfl
          rw [hd]
          rfl
      · left
        rw [nx_other h1 h2]
        refine ⟨rfl, ?_⟩
        rw [K.hd, if_neg h1, if_neg h2]
/-- k' has been read, what follows is read behind it -/
def Unk (u : Option (List Pt)) (k' : List Pt) (t : Bs) : Prop := u = (K.dec t).map (k' ++ ·)
theorem Unk.start (l : Bs) : Unk (K.dec l) [] l := by
  unfold Unk
  cases K.dec l <;> simp
theorem Unk.step {u : Option (List Pt)} {k' : List Pt} {t : Bs} (h : Unk u k' t) (h0 : 0 < (nx t).2) (hm : (nx t).1.may = true) : Unk u (k' ++ [(nx t).1]) (t.drop (nx t).2) := by
  rcases nx_hd t with ⟨h1, _⟩ | ⟨_, h2, _, _⟩
  · omega
  · unfold Unk at *
    rw [h, K.dec_step h2 hm]
    cases K.dec (t.drop (nx t).2) <;> simp
theorem Unk.none {u : Option (List Pt)} {k' : List Pt} {t : Bs} (h : Unk u k' t) (ht : t ≠ []) (h0 : (nx t).2 = 0 ∨ (nx t).1.may = false) : u = Option.none := by
  have hd : K.dec t = Option.none := K.dec_none ht fun p x hp => by
    rcases nx_hd t with ⟨_, h2⟩ | ⟨h1, h2, _, _⟩
    · rw [h2] at hp; cases hp
    · rw [h2] at hp
      injection hp with hp
      injection hp with hp _
      rcases h0 with h0 | h0
      · omega
      · rw [← hp]; exact h0
  unfold Unk at h
  rw [h, hd]
  rfl
theorem Unk.done {u : Option (List Pt)} {k' : List Pt} (h : Unk u k' []) : u = some k' := by
  unfold Unk at h
  rw [h]
  have : K.dec [] = some [] := rfl
  rw [this]
  simp

set_option maxRecDepth 8000 in
set_option maxHeartbeats 2000000 in
theorem refDecode_any (s : ByteArray) (w : World) (hs : s.size ≤ 1048576) :
    Calls Tryd.prog 19 #[.string s] w (DecR s w) := by
  have hsl := size_list s
  have HSL := Lib.hid hsl
  have HU := Lib.hid (Unk.start s.data.toList)
  have HD : Hid (decO s = if s.size ≤ 256 then K.dec s.data.toList else none) := Lib.hid rfl
  generalize K.dec s.data.toList = un at *
  clear hsl
  go_enter Tryd.func19, Tryd.ntmps19
  go_wp2_with fail
  go_loopw [4, 5] (fun v i wr => ∃ (j : Nat) (k' : List Pt), j ≤ s.size ∧ i = .int .i64 j ∧ OwnP wr w.heap.size v k' ∧ bulk k' ≤ j ∧ Hid (Unk un k' (s.data.toList.drop j)) ∧ Below w.heap.size w wr)
    (fun _ i _ => s.size - (intOf i).toNat)
  case atStart => exact ⟨0, [], by omega, rfl, OwnP.nil _ _, by simp [bulk], HU, Below.refl _ _⟩
  case round =>
    obtain ⟨j, k', hj, rfl, hO, hbk, hU, hbw⟩ := hrel
    by_cases hlt : j < s.size
    · have hjl : j < s.data.toList.length := by rw [HSL.out]; exact hlt
      have hx := idx_any s j hjl
      have hdr : s.data.toList.drop j = s.data.toList[j] :: s.data.toList.drop (j + 1) := List.drop_eq_getElem_cons hjl
      obtain ⟨t, ht⟩ : ∃ t, t = s.data.toList.drop j := ⟨_, rfl⟩
      rw [← ht] at hdr hU
      have htl : t.length + j = s.size := by rw [ht, List.length_drop, HSL.out]; omega
      have hext : (s.extract j s.size).data.toList = t := by rw [ext_end, ht]
      have hes := ext_size s j s.size (Nat.le_refl _)
      have HNum := Lib.hid fun w => refNumber_any (s.extract j s.size) w (by omega)
      have HTxt := Lib.hid fun w => refText_any (s.extract j s.size) w (by omega)
      rw [hext] at HNum HTxt
      have HTD : Hid (∀ n, s.data.toList.drop (j + n) = t.drop n) := Lib.hid fun n => by rw [ht, List.drop_drop]
      generalize s.data.toList[j] = b at *
      generalize s.data.toList.drop (j + 1) = r at *
      have HTL := Lib.hid htl
      have HR := Lib.hid hdr
      have HZr := Lib.hid (hp_new (w := wr) (o := zrow) rfl)
      unfold zrow at HZr
      clear ht hext hes hdr htl
      go_upto_block 2 with (fail)
      go_cut [7] (fun n wx => n = .int .i64 (nx t).2 ∧ wx.heap[wr.heap.size]? = some (.cells #[.bool (nx t).1.t, .int .i64 (nx t).1.n, .string (nx t).1.s] 39 (0, 0)) ∧ Below wr.heap.size wr wx)
      case first =>
        by_cases h16 : b = 16
        · skip
          have HN := Lib.hid (nx_num r)
          subst h16
          have hx' : ∀ w, (Instr.index 9 (.string s) (.int .i64 j)).run Tryd.prog w = .ok (.int .u8 16) w := hx
          rw [← HR.out] at HN
          obtain ⟨q, hq⟩ : ∃ q, q = numR t := ⟨_, rfl⟩
          rw [← hq] at HN HNum
          have HQ := Lib.hid hq
          clear hq hx
          obtain ⟨⟨pt, pn, ps⟩, m⟩ := q
          simp only [pV] at HNum
          go_wp2_with fail
          refine (HNum.out _).mono ?_
          rintro e w1 ⟨rfl, hb1⟩
          have hz := (hb1.block wr.heap.size (by simp)).trans HZr.out
          obtain ⟨t0, t1, t2, t3⟩ := zrow_cells hz
          have f0 := t3 0
          have f1 := t3 1
          have f2 := t3 2
          have HZ2 := Lib.hid hz
          have HB2 := Lib.hid (((below_alloc wr (.cells #[.bool false, .int .i64 0, .string ⟨#[]⟩] 39)).trans (hb1.mono (by simp))).trans ((put3_fr w1 wr.heap.size ⟨pt, pn, ps⟩).mono fun q (hq : q < wr.heap.size) => by show q ≠ wr.heap.size; omega).below)
          clear hb1 hz t3
          go_wp2_with fail
          rw [← put3_lit]
          go_meet
          rw [HN.out]
          exact ⟨rfl, put3_row HZ2.out _, HB2.out⟩
        · by_cases h32 : b = 32
          · skip
            have HN := Lib.hid (nx_txt r)
            subst h32
            have hx' : ∀ w, (Instr.index 9 (.string s) (.int .i64 j)).run Tryd.prog w = .ok (.int .u8 32) w := hx
            rw [← HR.out] at HN
            obtain ⟨q, hq⟩ : ∃ q, q = txtR t := ⟨_, rfl⟩
            rw [← hq] at HN HTxt
            have HQ := Lib.hid hq
            clear hq hx
            obtain ⟨⟨pt, pn, ps⟩, m⟩ := q
            simp only [pV] at HTxt
            go_wp2_with fail
            refine (HTxt.out _).mono ?_
            rintro e w1 ⟨rfl, hb1⟩
            have hz := (hb1.block wr.heap.size (by simp)).trans HZr.out
            obtain ⟨t0, t1, t2, t3⟩ := zrow_cells hz
            have f0 := t3 0
            have f1 := t3 1
            have f2 := t3 2
            have HZ2 := Lib.hid hz
            have HB2 := Lib.hid (((below_alloc wr (.cells #[.bool false, .int .i64 0, .string ⟨#[]⟩] 39)).trans (hb1.mono (by simp))).trans ((put3_fr w1 wr.heap.size ⟨pt, pn, ps⟩).mono fun q (hq : q < wr.heap.size) => by show q ≠ wr.heap.size; omega).below)
            clear hb1 hz t3
            go_wp2_with fail
            rw [← put3_lit]
            go_meet
            rw [HN.out]
            exact ⟨rfl, put3_row HZ2.out _, HB2.out⟩
          · have HN := Lib.hid (nx_other (r := r) h16 h32)
            rw [← HR.out] at HN
            have c1 : ((b.toNat : Int) == 16) = false := by
              rw [beq_eq_false_iff_ne]
              intro h
              exact h16 (UInt8.toNat_inj.1 (by have : (16 : UInt8).toNat = 16 := rfl; omega))
            have c2 : ((b.toNat : Int) == 32) = false := by
              rw [beq_eq_false_iff_ne]
              intro h
              exact h32 (UInt8.toNat_inj.1 (by have : (32 : UInt8).toNat = 32 := rfl; omega))
            clear h16 h32
            go_wp2_with fail
            go_meet
            rw [HN.out]
            exact ⟨rfl, HZr.out, below_alloc _ _⟩
      case rest =>
        obtain ⟨rfl, hz, hb⟩ := hcut
        have hne : t ≠ [] := by rw [HR.out]; simp
        have HNone := Lib.hid fun h => Unk.none hU.out hne h
        have HStep := Lib.hid fun h h' => Unk.step hU.out h h'
        have HX := nx_hd t
        have hO2 := own_below hO hb
        have hb2 := hbw.trans (hb.mono hbw.size)
        have hgt : wr.heap.size < wc.heap.size := (Array.getElem?_eq_some_iff.1 hz).1
        have hbk2 : (nx t).2 ≠ 0 → (nx t).1.s.size + 1 ≤ (nx t).2 ∧ (nx t).2 ≤ t.length := fun h => by
          rcases HX with ⟨h1, _⟩ | ⟨_, _, h3, h4⟩
          · exact absurd h1 h
          · exact ⟨h4, h3⟩
        have HTDm := Lib.hid (HTD.out (nx t).2)
        generalize t.drop (nx t).2 = t' at *
        generalize hq : (nx t).1 = q at *
        generalize hm : (nx t).2 = m at *
        have HZ : Hid (∀ w', Below wc.heap.size wc w' → At0 w' wr.heap.size q) := Lib.hid fun w' h => by
          have h' := (h.block _ hgt).trans hz
          exact ⟨by rw [cell_of_row _ _ _ _ _ _ h']; rfl, by rw [cell_of_row _ _ _ _ _ _ h']; rfl, by rw [cell_of_row _ _ _ _ _ _ h']; rfl⟩
        obtain ⟨e0, e1, e2⟩ := HZ.out wc (Below.refl _ _)
        have HM := Lib.hid fun w (h : q.s.size ≤ maxLen) => refMay_any q w h
        clear hq hm hz hb hU hO hbw HX hx HZr HNum HTxt HTD HR hne
        by_cases h0 : m = 0
        · have hb0 : ((m : Int) == 0) = true := by rw [beq_iff_eq]; omega
          have hdn : decO s = none := by rw [HD.out, HNone.out (.inl h0)]; split <;> rfl
          have HDN := Lib.hid hdn
          clear h0 hdn hbk2
          go_wp2_with fail
          go_ret2
          exact ⟨hb2, .inr ⟨HDN.out, rfl⟩⟩
        · have hb0 : ((m : Int) == 0) = false := by rw [beq_eq_false_iff_ne]; omega
          obtain ⟨h1, h2⟩ := hbk2 h0
          have htl := HTL.out
          have HM' := Lib.hid fun w => HM.out w (by unfold maxLen; omega)
          obtain ⟨B, hB⟩ : ∃ B, B = q.may := ⟨_, rfl⟩
          rw [← hB] at HM'
          have HB := Lib.hid hB
          obtain ⟨qt, qn, qs⟩ := q
          simp only [pV] at *
          clear h0 hB HM
          cases B with
          | false =>
            have hdn : decO s = none := by rw [HD.out, HNone.out (.inr HB.out.symm)]; split <;> rfl
            have HDN := Lib.hid hdn
            clear hdn
            go_wp2_with fail
            refine (HM'.out _).mono ?_
            rintro e w2 ⟨rfl, hb3⟩
            have hb4 := hb2.trans (hb3.mono hb2.size)
            clear hb3 hb2 e0 e1 e2
            go_wp2_with fail
            go_ret2
            exact ⟨hb4, .inr ⟨HDN.out, rfl⟩⟩
          | true =>
            have HSt := Lib.hid (HStep.out (by omega) HB.out.symm)
            rw [← HTDm.out] at HSt
            go_wp2_with fail
            refine (HM'.out _).mono ?_
            rintro e w2 ⟨rfl, hb3⟩
            obtain ⟨g0, g1, g2⟩ := HZ.out _ hb3
            have hO3 := own_below hO2 hb3
            have hb4 := hb2.trans (hb3.mono hb2.size)
            clear hb3 hb2 e0 e1 e2 hO2
            go_wp2_with (at_builtin; refine app_part rfl (.tmp 41) (.tmp 43) (by rfl) w.heap.size hb4.size _ k' (by rfl) hO3 _ 1 ⟨qt, qn, qs⟩ _ (by rfl) ?g1 rfl ?a1 ?c1 ?_)
            case g1 => rfl
            case a1 => rfl
            case c1 => have := length_le_bulk k'; omega
            intro v' w3 hO4 hb5
            have hb6 := hb4.trans hb5
            clear hO3 hb4 hb5 g0 g1 g2
            go_wp2_with fail
            go_roundw
            case rel => exact ⟨j + m, _, by omega, by go_num, hO4, by rw [bulk_append]; simp only [bulk]; omega, HSt, hb6⟩
            case measure => simp [intOf]; omega
    · obtain rfl : j = s.size := by omega
      have hun : un = some k' := by
        have := hU.out
        rw [List.drop_eq_nil_of_le (by rw [HSL.out]; exact Nat.le_refl _)] at this
        exact this.done
      obtain ⟨A, c, rfl, hlc, hR⟩ := hO.open
      by_cases h256 : s.size ≤ 256
      · have hdn : decO s = some k' := by rw [HD.out, if_pos h256, hun]
        have HDN := Lib.hid hdn
        have h256' : (s.size : Int) ≤ 256 := by omega
        have HRo := Lib.hid hR
        clear hdn hun hO h256 hR hU
        go_wp2_with fail
        go_ret2
        exact ⟨hbw, .inl ⟨k', A, c, HDN.out, rfl, hlc, HRo.out⟩⟩
      · have hdn : decO s = none := by rw [HD.out, if_neg h256]
        have HDN := Lib.hid hdn
        have h256' : 256 < (s.size : Int) := by omega
        clear hdn hun hO h256 hR hU
        go_wp2_with fail
        go_ret2
        exact ⟨hbw, .inr ⟨HDN.out, rfl⟩⟩
end Go.Proofs.YtkanpdhlpobfoaaDoor
