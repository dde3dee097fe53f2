/-
  Decode, by contract.
-/
import Derived.Test.YtkanpdhlpobfoaaDoorP
import Derived.Deep.CutBlock
import Derived.Deep.DeepCutAuto
namespace Go.Proofs.YtkanpdhlpobfoaaDoor
open Go.RowKit
open K (Pt)

/-- the key that Decode answers, if it answers one -/
def decO (s : ByteArray) : Option (List Pt) := if s.size ≤ 256 then K.dec s.data.toList else none
/-- what Decode answers, and leaves -/
def DecR (s : ByteArray) (w : World) (e : Ending) (w' : World) : Prop :=
  Below w.heap.size w w' ∧ ((∃ k A c, decO s = some k ∧ e = .returned (.tuple #[.slice A k.length c, .int .i64 0]) ∧ k.length ≤ c ∧ Row w' A k) ∨ (decO s = none ∧ e = .returned (.tuple #[.slice none 0 0, .int .i64 22])))
/-- behind the loop -/
def Got (s : ByteArray) (w : World) (v : Value) (wx : World) : Prop := ∃ k' : List Pt, OwnP wx w.heap.size v k' ∧ bulk k' ≤ 256 ∧ (∀ k, K.dec s.data.toList = some k → k = k') ∧ Below w.heap.size w wx
theorem first_byte (t : ByteArray) (h : 0 < t.size) (b : UInt8) (r : Bs) (hr : t.data.toList = b :: r) (w : World) : (Instr.index 9 (.string t) (.int .i64 0)).run Tryd.prog w = .ok (.int .u8 (b.toNat : Nat)) w := by
  rw [run_index_string w 9 t .i64 0 Tryd.underlying9, dif_pos ⟨by omega, by omega⟩]
  have e : t[(0 : Int).toNat]'(by simpa using h) = b := by
    show t.data.toList[0]'(by rw [size_list]; exact h) = b
    simp [hr]
  rw [e]

theorem ext_list (t : ByteArray) (i j : Nat) : (t.extract i j).data.toList = (t.data.toList.drop i).take (j - i) := by
  rw [ByteArray.data_extract, Array.toList_extract, List.extract_eq_take_drop]
theorem ext_size (t : ByteArray) (i j : Nat) (h : j ≤ t.size) : (t.extract i j).size = j - i := by
  rw [ByteArray.size_extract]
  omega
theorem ext_end (t : ByteArray) (i : Nat) : (t.extract i t.size).data.toList = t.data.toList.drop i := by
  rw [ext_list, List.take_of_length_le]
  rw [List.length_drop, size_list]
  exact Nat.le_refl _
set_option maxRecDepth 8000 in
set_option maxHeartbeats 2000000 in
theorem dec_loop (s : ByteArray) (w : World) (hM : Ml w) (hs : s.size ≤ 256) :
    Calls Tryd.prog 18 #[.string s] w (DecR s w) := by
  have h1 : (s.size : Int) ≤ 256 := by omega
  have HS := Lib.hid (Inv.start s.data.toList)
  go_enter Tryd.func18, Tryd.ntmps18
  go_wp2_with fail
  go_step3
  go_wp2_with fail
  go_step3
  go_upto_block 0 with (fail)
  go_cut [4] (fun v wx => Got s w v wx)
  case first =>
    go_wp2_with fail
    go_loopw [4, 5] (fun v l wr => ∃ (k' : List Pt) (t : ByteArray), l = .string t ∧ OwnP wr w.heap.size v k' ∧ bulk k' + t.size ≤ 256 ∧ Hid (Inv s.data.toList k' t.data.toList) ∧ Below w.heap.size w wr)
      (fun _ l _ => match l with | .string x => x.size | _ => 0)
    case atStart => exact ⟨[], s, rfl, OwnP.nil _ _, by simpa [bulk] using hs, HS, Below.refl _ _⟩
    case round =>
      obtain ⟨k', t, rfl, hO, hbk, hI, hbw⟩ := hrel
      by_cases ht : t.size = 0
      · obtain rfl : t = ⟨#[]⟩ := ByteArray.ext (Array.eq_empty_of_size_eq_zero ht)
        have HD := Lib.hid (Inv.done hI.out)
        go_wp2_with fail
        go_meet
        exact ⟨k', hO, by omega, HD.out, hbw⟩
      · have hne := empty_not ht
        obtain ⟨hne1, hne2⟩ := hne
        obtain ⟨b, r, hr⟩ : ∃ b r, t.data.toList = b :: r := by
          cases e : t.data.toList with
          | nil => rw [← size_list, e] at ht; exact absurd rfl ht
          | cons b r => exact ⟨b, r, rfl⟩
        have hx := fun w => first_byte t (by omega) b r hr w
        have hrl : r.length + 1 = t.size := by rw [← size_list, hr]; rfl
        have HL := Lib.hid hrl
        have hI' := hI.out
        rw [hr] at hI'
        have hnn : b :: r ≠ [] := by simp
        by_cases h16 : b = 16
        · subst h16
          have hx' : ∀ w, (Instr.index 9 (.string t) (.int .i64 0)).run Tryd.prog w = .ok (.int .u8 16) w := hx
          by_cases h9 : t.size < 9
          · have HD := Lib.hid (hI'.stop hnn (hd_short (by omega)))
            have h9' : (t.size : Int) < 9 := by omega
            clear hx hrl hI hI' hnn hr
            go_wp2_with fail
            go_meet
            exact ⟨k', hO, by omega, HD.out, hbw⟩
          · have h9' : 9 ≤ (t.size : Int) := by omega
            have HN := Lib.hid fun w => readNum_any (t.extract 1 9) w (by rw [ext_size _ _ _ (by omega)])
            have he1 : (t.extract 1 9).data.toList = r.take 8 := by rw [ext_list, hr]; rfl
            have he2 : (t.extract 9 t.size).data.toList = r.drop 8 := by rw [ext_end, hr]; rfl
            have hz2 := ext_size t 9 t.size (Nat.le_refl _)
            have HI := Lib.hid (hI'.step hnn fun p x hp => hd_num (by omega) p x hp)
            rw [← he2] at HI
            rw [he1] at HN
            generalize (K.pv (r.take 8) : Int) - 9223372036854775808 = n at *
            clear hx hrl hI hI' hnn hr he1 he2
            have HZ := Lib.hid hz2
            clear hz2 h9 ht
            go_wp2_with (first
              | (go_at_call 28; refine (HN.out _).mono ?_; rintro e w' ⟨rfl, rfl⟩)
              | (at_builtin; refine app_part rfl (.tmp 24) (.tmp 29) (by rfl) w.heap.size hbw.size _ k' (by rfl) hO _ 1 ⟨false, n, ⟨#[]⟩⟩ _ (by rfl) ?g1 rfl ?a1 ?c1 ?_))
            case g1 => rfl
            case a1 => rfl
            case c1 => have := length_le_bulk k'; omega
            intro v' w' hO' hb'
            have hb2 := hbw.trans hb'
            clear hO hbw hb'
            go_wp2_with fail
            go_roundw
            case rel => exact ⟨_, _, rfl, hO', by rw [bulk_append, HZ.out]; show bulk k' + (0 + 1 + 0) + (t.size - 9) ≤ 256; omega, HI, hb2⟩
            case measure =>
              show (t.extract 9 t.size).size < t.size
              rw [HZ.out]
              omega
        · by_cases h32 : b = 32
          · subst h32
            have hx' : ∀ w, (Instr.index 9 (.string t) (.int .i64 0)).run Tryd.prog w = .ok (.int .u8 32) w := hx
            have he1 : (t.extract 1 t.size).data.toList = r := by rw [ext_end, hr]; rfl
            have hM1 := hM.below hbw
            obtain ⟨m, hm⟩ := hM1
            have HC := Lib.hid (Tryd.strings_Cut (t.extract 1 t.size) ⟨#[0, 1]⟩ m wr (by rw [ext_size _ _ _ (Nat.le_refl _)]; omega) hm)
            rw [he1] at HC
            have hsep : (ByteArray.mk #[0, 1]).data.toList = [0, 1] := rfl
            rw [hsep] at HC
            have HCut := Lib.hid fun h => cut_room (r := r) h
            have HStop := Lib.hid fun h => hI'.stop hnn (hd_uncut (r := r) h)
            have HStep := Lib.hid (hI'.step hnn fun p x hp => hd_cut (r := r) p x hp)
            generalize hc1 : (Lib.cut r [0, 1]).1 = tx at *
            generalize hc2 : (Lib.cut r [0, 1]).2.1 = rs at *
            generalize hc3 : (Lib.cut r [0, 1]).2.2 = B at *
            clear hx hrl hI hI' hnn hr hc1 hc2 hc3 he1 hm hsep
            cases B with
            | false =>
              have HD := Lib.hid (HStop.out rfl)
              go_wp2_with fail
              refine HC.out.mono ?_
              rintro e w1 ⟨rfl, n, rfl⟩
              go_wp2_with fail
              go_meet
              exact ⟨k', own_below hO (below_drewN _ _ _), by omega, HD.out, hbw.trans (below_drewN _ _ _)⟩
            | true =>
              have HRoom := Lib.hid (HCut.out rfl)
              have htx : tx.length ≤ 256 := by have := HRoom.out; have := HL.out; omega
              have HT := Lib.hid fun w' h => readText_any ⟨tx.toArray⟩ w' h (by show tx.length ≤ _; omega)
              have hal := K.all_length tx
              have HMl := Lib.hid fun w' (h : Below wr.heap.size wr w') => (hM.below hbw).below h
              generalize Lib.replaceAll tx [0, 255] [0] = tr at *
              go_wp2_with fail
              refine HC.out.mono ?_
              rintro e w1 ⟨rfl, n, rfl⟩
              have hO1 := own_below hO (below_drewN wr.heap.size wr n)
              have hb1 := hbw.trans (below_drewN w.heap.size wr n)
              have HM1 := Lib.hid (HMl.out _ (below_drewN wr.heap.size wr n))
              clear hO hbw HMl
              generalize wr.drewN n = w1 at *
              go_wp2_with fail
              refine (HT.out _ HM1.out).mono ?_
              rintro e w2 ⟨rfl, hb2⟩
              have hO2 := own_below hO1 hb2
              have hb3 := hb1.trans (hb2.mono hb1.size)
              clear hO1 hb1 hb2
              go_wp2_with (at_builtin; refine app_part rfl (.tmp 44) (.tmp 48) (by rfl) w.heap.size hb3.size _ k' (by rfl) hO2 _ 1 ⟨true, 0, ⟨tr.toArray⟩⟩ _ (by rfl) ?g1 rfl ?a1 ?c1 ?_)
              case g1 => rfl
              case a1 => rfl
              case c1 => have := length_le_bulk k'; omega
              intro v' w' hO' hb'
              have hb4 := hb3.trans hb'
              clear hO2 hb3 hb'
              go_wp2_with fail
              go_roundw
              case rel =>
                refine ⟨_, ⟨rs.toArray⟩, rfl, hO', ?_, HStep, hb4⟩
                rw [bulk_append]
                show bulk k' + (tr.length + 1 + 0) + rs.length ≤ 256
                have := HRoom.out
                have := HL.out
                omega
              case measure =>
                show rs.length < t.size
                have := HRoom.out
                have := HL.out
                omega
          · have HD := Lib.hid (hI'.stop hnn (hd_other h16 h32))
            have c1 : ((b.toNat : Int) == 16) = false := by
              rw [beq_eq_false_iff_ne]
              intro h
              exact h16 (UInt8.toNat_inj.1 (by have : (16 : UInt8).toNat = 16 := rfl; omega))
            have c2 : ((b.toNat : Int) == 32) = false := by
              rw [beq_eq_false_iff_ne]
              intro h
              exact h32 (UInt8.toNat_inj.1 (by have : (32 : UInt8).toNat = 32 := rfl; omega))
            clear hrl hI hI' hnn hr h16 h32
            go_wp2_with fail
            go_meet
            exact ⟨k', hO, by omega, HD.out, hbw⟩
  case rest =>
    obtain ⟨k', hO, hbk, hD, hb⟩ := hcut
    obtain ⟨A, c, rfl, hlc, hR⟩ := hO.open
    have HR := Lib.hid hR
    have HE := Lib.hid fun w' (h : Below wc.heap.size wc w') => hR.below h
    have HC := Lib.hid (encode_any A k' c wc hR (by omega) (hM.below hb))
    have hdo : decO s = K.dec s.data.toList := by unfold decO; rw [if_pos hs]
    have HD := Lib.hid hD
    clear hO hR hD
    cases hdec : K.dec s.data.toList with
    | some k =>
      obtain rfl := HD.out k hdec
      have hk := (K.dec_iff _ _).1 hdec
      have hchk : K.chk k = 0 := K.chk_of hk.2 (by rw [hk.1, size_list]; exact hs)
      have hV := encV_good hchk
      rw [hk.1] at hV
      have es : (⟨s.data.toList.toArray⟩ : ByteArray) = s := by cases s; rfl
      rw [es] at hV
      rw [hV] at HC
      have HDo := Lib.hid (hdo.trans hdec)
      clear hV hchk hk hdec hdo es HD
      go_wp2_with fail
      refine HC.out.mono ?_
      rintro e w1 ⟨rfl, hb1⟩
      have HB := Lib.hid (hb.trans (hb1.mono hb.size))
      have HR1 := Lib.hid (HE.out _ hb1)
      clear hb hb1 HE HR
      go_wp2_with fail
      try rw [Exit.noGoto_ret]
      go_ret2
      exact ⟨HB.out, .inl ⟨k, A, c, HDo.out, rfl, hlc, HR1.out⟩⟩
    | none =>
      have HDo := Lib.hid (hdo.trans hdec)
      have hcase : K.chk k' = 0 ∨ K.chk k' = 2 ∨ K.chk k' = 50 := chk_cases k'
      have HNe : Hid (K.chk k' = 0 → ¬ (⟨(K.encs k').toArray⟩ : ByteArray) = s) := Lib.hid fun h0 he => by
        have hk := K.chk_zero h0
        have : K.encs k' = s.data.toList := by rw [← he]
        rw [(K.dec_iff _ _).2 ⟨this, hk.1⟩] at hdec
        cases hdec
      have HV0 : Hid (K.chk k' = 0 → encV k' = .tuple #[.string ⟨(K.encs k').toArray⟩, .int .i64 0]) := Lib.hid encV_good
      have HV1 : Hid (K.chk k' ≠ 0 → encV k' = .tuple #[.string ⟨#[]⟩, .int .i64 (K.chk k')]) := Lib.hid encV_bad
      clear hdo hdec HD
      rcases hcase with h0 | h0
      · rw [HV0.out h0] at HC
        have hne := (Lib.bytes_beq_false_iff _ _).2 (HNe.out h0)
        generalize (⟨(K.encs k').toArray⟩ : ByteArray) = x at *
        clear h0 HV0 HV1 HNe
        go_wp2_with fail
        refine HC.out.mono ?_
        rintro e w1 ⟨rfl, hb1⟩
        have HB := Lib.hid (hb.trans (hb1.mono hb.size))
        clear hb hb1 HE HR
        go_wp2_with fail
        try rw [Exit.noGoto_ret]
        go_ret2
        exact ⟨HB.out, .inr ⟨HDo.out, rfl⟩⟩
      · rw [HV1.out (by omega)] at HC
        rcases h0 with h0 | h0
        all_goals
          rw [h0] at HC
          clear h0 HV0 HV1 HNe
          go_wp2_with fail
          refine HC.out.mono ?_
          rintro e w1 ⟨rfl, hb1⟩
          have HB := Lib.hid (hb.trans (hb1.mono hb.size))
          clear hb hb1 HE HR
          go_wp2_with fail
          try rw [Exit.noGoto_ret]
          go_ret2
          exact ⟨HB.out, .inr ⟨HDo.out, rfl⟩⟩
theorem decode_any (s : ByteArray) (w : World) (hM : Ml w) : Calls Tryd.prog 18 #[.string s] w (DecR s w) := by
  by_cases hs : s.size ≤ 256
  · exact dec_loop s w hM hs
  · have h1 : 256 < (s.size : Int) := by omega
    have HD : Hid (decO s = none) := Lib.hid (by unfold decO; rw [if_neg hs])
    clear hs
    go_enter Tryd.func18, Tryd.ntmps18
    go_wp2_with fail
    go_step3
    go_wp2_with fail
    try rw [Exit.noGoto_ret]
    go_ret2
    exact ⟨Below.refl _ _, .inr ⟨HD.out, rfl⟩⟩
end Go.Proofs.YtkanpdhlpobfoaaDoor
