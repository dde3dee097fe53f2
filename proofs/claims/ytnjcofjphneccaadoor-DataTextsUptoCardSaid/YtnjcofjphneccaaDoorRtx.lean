/-
  The reference's Digits, text, Text, by contract.
-/
import Derived.Test.YtnjcofjphneccaaDoorAtt
import Derived.Test.YtnjcofjphneccaaDoorMay
import Derived.Test.YtnjcofjphneccaaDoorText
namespace Go.Proofs.YtnjcofjphneccaaDoor
open Go.RowKit

theorem ret_str {a b : ByteArray} (h : a = b) : Ending.returned (.string a) = .returned (.string b) := by rw [h]
theorem val_str {a b : ByteArray} (h : a = b) : Value.string a = .string b := by rw [h]
theorem digit_u8 (d : Nat) (h : d < 10) : 48 + (d : Int) = ((UInt8.ofNat (48 + d)).toNat : Int) := by
  rw [UInt8.toNat_ofNat']
  omega
theorem dec_len (m : Nat) (h : m ≤ 9007199254740991) : (Lib.decDigits m).length ≤ 21 := by
  have := Lib.itoa_length_le (m : Int) (by omega) (by omega)
  unfold Lib.itoa at this
  rw [if_neg (by omega)] at this
  exact this
theorem digits_nat : ∀ (m : Nat) (w : World), m ≤ 9007199254740991 →
    Calls Tryd.prog 48 #[.int .i64 m] w fun e w' => e = .returned (.string ⟨(Lib.decDigits m).toArray⟩) ∧ Below w.heap.size w w' := by
  intro m
  induction m using Nat.strongRecOn with
  | _ m ih =>
    intro w hm
    obtain ⟨d, hd⟩ : ∃ d, d = m % 10 := ⟨_, rfl⟩
    have hd10 : d < 10 := by omega
    have hmod : (m : Int) % 10 = (d : Int) := by omega
    obtain ⟨c, hc⟩ : ∃ c, c = UInt8.ofNat (48 + d) := ⟨_, rfl⟩
    have hcv := conv_new w [c] #[.int .u8 (48 + (d : Int))] 1 (by simp only [List.map_cons, List.map_nil, bv, hc, digit_u8 d hd10]) rfl
    by_cases h : m < 10
    · have HD : Hid (Lib.decDigits m = [c]) := by
        show _ = _
        rw [Lib.decDigits_one h, hc, hd, Nat.mod_eq_of_lt h]
      rw [HD.out]
      clear ih hd hc
      go_enter Tryd.func48, Tryd.ntmps48
      go_wp2_with fail
      go_ret
      exact ⟨rfl, below_alloc w _⟩
    · have HD : Hid (Lib.decDigits m = Lib.decDigits (m / 10) ++ [c]) := by
        show _ = _
        rw [Lib.decDigits, dif_neg h, hc, hd]
      have HI := Lib.hid fun w => ih (m / 10) (by omega) w (by omega)
      have hql := dec_len (m / 10) (by omega)
      have HA := Lib.hid (mk_append (Lib.decDigits (m / 10)) [c])
      rw [HD.out]
      clear ih hd hc
      generalize Lib.decDigits (m / 10) = q at *
      go_enter Tryd.func48, Tryd.ntmps48
      go_wp2_with fail
      refine (HI.out _).mono ?_
      rintro e w1 ⟨rfl, hb1⟩
      have hb2 := Lib.hid ((below_alloc w _).trans (hb1.mono (by simp)))
      clear hb1
      go_wp2_with fail
      go_ret
      exact ⟨by rw [← HA.out]; rfl, hb2.out⟩
theorem digits_any (n : Int) (w : World) (h1 : -9007199254740991 ≤ n) (h2 : n ≤ 9007199254740991) :
    Calls Tryd.prog 48 #[.int .i64 n] w fun e w' => e = .returned (.string ⟨(Lib.itoa n).toArray⟩) ∧ Below w.heap.size w w' := by
  by_cases h : n < 0
  · obtain ⟨m, hm⟩ : ∃ m : Nat, -n = (m : Int) := ⟨(-n).toNat, by omega⟩
    have HI := Lib.hid fun w => digits_nat m w (by omega)
    have HE : Hid (Lib.itoa n = [45] ++ Lib.decDigits m) := by
      show _ = _
      unfold Lib.itoa
      rw [if_pos h, show n.natAbs = m by omega]
      rfl
    have hql := dec_len m (by omega)
    have HA := Lib.hid (mk_append [45] (Lib.decDigits m))
    rw [HE.out]
    clear HE
    generalize Lib.decDigits m = q at *
    go_enter Tryd.func48, Tryd.ntmps48
    go_wp2_with fail
    refine (HI.out _).mono ?_
    rintro e w1 ⟨rfl, hb1⟩
    go_wp2_with fail
    go_ret
    exact ⟨ret_str HA.out, hb1⟩
  · obtain ⟨m, rfl⟩ : ∃ m : Nat, n = (m : Int) := ⟨n.toNat, by omega⟩
    have e : Lib.itoa (m : Int) = Lib.decDigits m := by
      unfold Lib.itoa
      rw [if_neg (by omega)]
      rfl
    rw [e]
    exact digits_nat m w (by omega)

/-- the reference's text for every value of less bulk -/
def RtH (v : V) : Prop := ∀ (x : X) (w : World), Is w v x → v.may = true → v.bulk ≤ 4194304 →
    Calls Tryd.prog 36 #[x.v] w fun e w' => e = .returned (.string ⟨v.tx.toArray⟩) ∧ Below w.heap.size w w'

set_option maxRecDepth 100000 in
set_option maxHeartbeats 2000000 in
theorem rt_leaf (v : V) (x : X) (w : World) (hx : Is w v x) (hm : v.may = true) (hbk : v.bulk ≤ 4194304) (hk : v.k = 0 ∨ v.k = 1 ∨ v.k = 2 ∨ v.k = 3 ∨ v.k = 4) :
    Calls Tryd.prog 36 #[x.v] w fun e w' => e = .returned (.string ⟨v.tx.toArray⟩) ∧ Below w.heap.size w w' := by
  obtain ⟨ka, kc, la, lc, rfl, h1, h2, h3, h4⟩ := hx.open
  have ho := own_of_may hm
  have hss : v.s.size ≤ 4194304 := by
    cases v
    simp only [V.bulk, V.s] at *
    omega
  have HT : Hid (v.tx = if v.k = 0 then [117, 110, 100, 101, 102, 105, 110, 101, 100] else if v.k = 1 then [110, 117, 108, 108] else if v.k = 2 then (if v.n = 1 then [116, 114, 117, 101] else [102, 97, 108, 115, 101]) else if v.k = 3 then Lib.itoa v.n else quote (us v.s.data.toList)) := by
    show _ = _
    cases v
    simp only [V.k, V.n, V.s] at *
    rw [V.tx]
    rcases hk with h | h | h | h | h <;> subst h <;> rfl
  simp only [X.v]
  have H2 := Lib.hid (fun h => own_bool ho h)
  have H3 := Lib.hid (fun h => own_num ho h)
  have H4 := Lib.hid (fun h => own_text ho h)
  clear hx h1 h2 h3 h4 ho hm hbk
  generalize v.k = k at *
  generalize v.n = n at *
  generalize v.s = s at *
  generalize v.ks.length = kn at *
  generalize v.l.length = ln at *
  rw [HT.out]
  clear HT
  rcases hk with rfl | rfl | rfl | rfl | rfl
  · clear H2 H3 H4
    go_enter Tryd.func36, Tryd.ntmps36
    go_wp2_with fail
    go_ret
    exact ⟨rfl, below_alloc w _⟩
  · clear H2 H3 H4
    go_enter Tryd.func36, Tryd.ntmps36
    go_wp2_with fail
    go_ret
    exact ⟨rfl, below_alloc w _⟩
  · have hn := H2.out rfl
    clear H2 H3 H4
    rcases hn with rfl | rfl
    · go_enter Tryd.func36, Tryd.ntmps36
      go_wp2_with fail
      go_ret
      exact ⟨rfl, below_alloc w _⟩
    · go_enter Tryd.func36, Tryd.ntmps36
      go_wp2_with fail
      go_ret
      exact ⟨rfl, below_alloc w _⟩
  · have hn := H3.out rfl
    have HD := Lib.hid fun w => digits_any n w hn.1 hn.2
    clear H2 H3 H4 hn
    go_enter Tryd.func36, Tryd.ntmps36
    go_wp2_with fail
    refine (HD.out _).mono ?_
    rintro e w1 ⟨rfl, hb1⟩
    go_wp2_with fail
    go_ret
    exact ⟨rfl, (below_alloc w _).trans (hb1.mono (by simp))⟩
  · have hn := H4.out rfl
    have HQ := Lib.hid fun w => quotedRef_any s w hss hn
    clear H2 H3 H4 hn
    go_enter Tryd.func36, Tryd.ntmps36
    go_wp2_with fail
    refine (HQ.out _).mono ?_
    rintro e w1 ⟨rfl, hb1⟩
    go_wp2_with fail
    go_ret
    exact ⟨rfl, (below_alloc w _).trans (hb1.mono (by simp))⟩

theorem list_join (l : List V) (j : Nat) (h : j < l.length) : joinC ((V.txs l).take (j + 1)) = joinC ((V.txs l).take j) ++ (sep j ++ l[j].tx) := by
  have h1 : j < (V.txs l).length := by rw [txs_length]; exact h
  have h2 : (V.txs l)[j] = l[j].tx := by simp [txs_map]
  rw [snoc_get _ _ h1, joinC_snoc, h2, List.length_take, Nat.min_eq_left (Nat.le_of_lt h1)]
  rfl

set_option maxRecDepth 100000 in
set_option maxHeartbeats 4000000 in
theorem rt_list (n : Int) (s : ByteArray) (ks : List ByteArray) (l : List V) (ih : ∀ v ∈ l, RtH v) : RtH (.mk 5 n s ks l) := by
  intro x w hx hm hbk
  obtain ⟨ka, kc, la, lc, rfl, h1, h2, h3, h4⟩ := hx.open
  simp only [V.k, V.n, V.s, V.ks, V.l] at *
  have hmk : ∀ u ∈ l, u.may = true := fun u hu => may_kid hm hu
  have hbl : V.bulks l + 1 ≤ 4194304 := by simp only [V.bulk] at hbk; omega
  have hll : l.length ≤ 4194304 := by have := length_le_bulks l; omega
  have HTX := Lib.hid (tx_list n s ks l)
  have HB0 := Lib.hid (below_alloc w (.cells #[.int .i64 5, .int .i64 n, .string s, .slice ka ks.length kc, .slice la l.length lc] 25))
  simp only [X.v]
  clear hx h1 h2 hm hbk h3
  go_enter Tryd.func36, Tryd.ntmps36
  go_wp2_with fail
  go_loopw [5, 38] (fun t i wr => ∃ (j : Nat) (q : Bs), j ≤ l.length ∧ i = .int .i64 j ∧ t = .string ⟨q.toArray⟩ ∧ q.length ≤ 96468992 ∧ Hid (q = joinC ((V.txs l).take j)) ∧ Below (w.heap.size + 1) (w.alloc (.cells #[.int .i64 5, .int .i64 n, .string s, .slice ka ks.length kc, .slice la l.length lc] 25)) wr)
    (fun _ i _ => l.length - (intOf i).toNat)
  case atStart => exact ⟨0, [], Nat.zero_le _, rfl, rfl, Nat.zero_le _, rfl, Below.refl _ _⟩
  case round =>
    obtain ⟨j, q, hj, rfl, rfl, hql, hq, hbw⟩ := hrel
    have hbw0 := HB0.out.trans (hbw.mono (by omega))
    have p0 : wr.cell? ⟨w.heap.size, 0, none⟩ = some (.int .i64 5) := (hbw.cell (p := ⟨w.heap.size, 0, none⟩) (by simp)).trans (by simp)
    by_cases hlt : j < l.length
    · obtain ⟨g, o, rfl, hg, y, hy, hv⟩ := h4.at_ hlt
      obtain ⟨c0, c1, c2, c3, c4⟩ := hy.below hg hbw0
      have hmem := List.getElem_mem hlt
      have hmu := hmk _ hmem
      have hbu := bulk_le_of_mem hmem
      have htl := tx_len l[j] hmu
      have HI := Lib.hid fun w' (hb : Below w.heap.size w w') => ih l[j] hmem y w' (Is.below hb _ _ hv) hmu (by omega)
      obtain ⟨k2, n2, t2, ka2, kn2, kc2, la2, ln2, lc2⟩ := y
      simp only [X.v] at *
      have hszr := hbw.size
      simp at hszr
      have hwz : w.heap.size < wr.heap.size := by omega
      have hbA := hbw0.trans ((below_alloc wr (.cells #[.int .i64 k2, .int .i64 n2, .string t2, .slice ka2 kn2 kc2, .slice la2 ln2 lc2] 25)).mono hbw0.size)
      have hbB := hbw.trans ((below_alloc wr (.cells #[.int .i64 k2, .int .i64 n2, .string t2, .slice ka2 kn2 kc2, .slice la2 ln2 lc2] 25)).mono (by omega))
      have HST : Hid (joinC ((V.txs l).take (j + 1)) = q ++ (sep j ++ l[j].tx)) := by
        show _ = _
        rw [hq.out]
        exact list_join l j hlt
      have hqn : (q ++ (sep j ++ l[j].tx)).length ≤ 96468992 := by
        rw [← HST.out]
        have h1 := list_len l hmk (j + 1)
        have h2 := bulks_take_le l (j + 1)
        omega
      generalize l[j] = u at *
      generalize u.tx = tx at *
      clear hy hv hmu hmem
      by_cases h0 : j = 0
      · have hj0 : j ≤ 0 := by omega
        have hs1 : sep j = [] := by unfold sep; rw [if_pos h0]
        rw [hs1, List.nil_append] at HST hqn
        have HM := Lib.hid (mk_append q tx)
        clear hs1 h0
        go_wp2_with fail
        refine (HI.out _ hbA).mono ?_
        rintro e w1 ⟨rfl, hb1⟩
        have hb2 := hbB.trans (hb1.mono (by simp; omega))
        clear hb1 hbB hbA hbw hbw0 p0 c0 c1 c2 c3 c4
        go_wp2_with fail
        go_roundw
        case rel => exact ⟨j + 1, q ++ tx, by omega, by go_num, val_str HM.out, hqn, HST.out.symm, hb2⟩
        case measure => simp [intOf]; omega
      · have HM : Hid ((ByteArray.mk q.toArray ++ ⟨#[44]⟩) ++ ⟨tx.toArray⟩ = ⟨(q ++ ([44] ++ tx)).toArray⟩) := by
          show _ = _
          rw [show (⟨#[44]⟩ : ByteArray) = ⟨([44] : Bs).toArray⟩ from rfl, mk_append, mk_append, List.append_assoc]
        have hs1 : sep j = [44] := by unfold sep; rw [if_neg h0]
        rw [hs1] at HST hqn
        clear hs1
        have hj0 : (0 : Int) < (j : Int) := by omega
        go_wp2_with fail
        refine (HI.out _ hbA).mono ?_
        rintro e w1 ⟨rfl, hb1⟩
        have hb2 := hbB.trans (hb1.mono (by simp; omega))
        clear hb1 hbB hbA hbw hbw0 p0 c0 c1 c2 c3 c4
        go_wp2_with fail
        go_roundw
        case rel => exact ⟨j + 1, q ++ ([44] ++ tx), by omega, by go_num, val_str HM.out, hqn, HST.out.symm, hb2⟩
        case measure => simp [intOf]; omega
    · obtain rfl : j = l.length := by omega
      have HE : Hid ((ByteArray.mk #[91] ++ ⟨q.toArray⟩) ++ ⟨#[93]⟩ = ⟨(V.tx (.mk 5 n s ks l)).toArray⟩) := by
        show _ = _
        have h1 := hq.out
        rw [List.take_of_length_le (Nat.le_of_eq (txs_length l))] at h1
        rw [HTX.out, ← h1, show (⟨#[91]⟩ : ByteArray) = ⟨([91] : Bs).toArray⟩ from rfl, show (⟨#[93]⟩ : ByteArray) = ⟨([93] : Bs).toArray⟩ from rfl, mk_append, mk_append]
        rfl
      go_wp2_with fail
      go_ret
      exact ⟨ret_str HE.out, hbw0⟩

theorem rec_join (ks : List ByteArray) (l : List V) (j : Nat) (h1 : j < ks.length) (h : j < l.length) :
    joinC ((List.zipWith pair ks (V.txs l)).take (j + 1)) = joinC ((List.zipWith pair ks (V.txs l)).take j) ++ (sep j ++ ((quote (us ks[j].data.toList) ++ [58]) ++ l[j].tx)) := by
  have hz : j < (List.zipWith pair ks (V.txs l)).length := by rw [List.length_zipWith, txs_length]; omega
  rw [snoc_get _ _ hz, joinC_snoc, zip_get ks l j h1 h hz, List.length_take, Nat.min_eq_left (Nat.le_of_lt hz)]
  unfold sep
  simp

set_option maxRecDepth 100000 in
set_option maxHeartbeats 4000000 in
theorem rt_rec (n : Int) (s : ByteArray) (ks : List ByteArray) (l : List V) (ih : ∀ v ∈ l, RtH v) : RtH (.mk 6 n s ks l) := by
  intro x w hx hm hbk
  obtain ⟨ka, kc, la, lc, rfl, h1, h2, h3, h4⟩ := hx.open
  simp only [V.k, V.n, V.s, V.ks, V.l] at *
  have hmk : ∀ u ∈ l, u.may = true := fun u hu => may_kid hm hu
  have hown := own_keys (own_of_may hm) rfl
  simp only [V.ks, V.l] at hown
  obtain ⟨hkl, hke, -⟩ := hown
  have HKL := Lib.hid hkl
  have HKE := Lib.hid hke
  have hkbB : 22 * keysBulk ks + 23 * V.bulks l + 23 ≤ 96468992 ∧ keysBulk ks ≤ 4194304 := by simp only [V.bulk] at hbk; omega
  have HKB := Lib.hid hkbB
  clear hkl hke hkbB
  have hbl : V.bulks l + 1 ≤ 4194304 := by simp only [V.bulk] at hbk; omega
  have hll : l.length ≤ 4194304 := by have := length_le_bulks l; omega
  have HTX := Lib.hid (tx_rec n s ks l)
  have HB0 := Lib.hid (below_alloc w (.cells #[.int .i64 6, .int .i64 n, .string s, .slice ka ks.length kc, .slice la l.length lc] 25))
  simp only [X.v]
  clear hx h1 h2 hm hbk
  go_enter Tryd.func36, Tryd.ntmps36
  go_wp2_with fail
  go_loopw [5, 38] (fun t i wr => ∃ (j : Nat) (q : Bs), j ≤ l.length ∧ i = .int .i64 j ∧ t = .string ⟨q.toArray⟩ ∧ q.length ≤ 96468992 ∧ Hid (q = joinC ((List.zipWith pair ks (V.txs l)).take j)) ∧ Below (w.heap.size + 1) (w.alloc (.cells #[.int .i64 6, .int .i64 n, .string s, .slice ka ks.length kc, .slice la l.length lc] 25)) wr)
    (fun _ i _ => l.length - (intOf i).toNat)
  case atStart => exact ⟨0, [], Nat.zero_le _, rfl, rfl, Nat.zero_le _, rfl, Below.refl _ _⟩
  case round =>
    obtain ⟨j, q, hj, rfl, rfl, hql, hq, hbw⟩ := hrel
    have hbw0 := HB0.out.trans (hbw.mono (by omega))
    have p0 : wr.cell? ⟨w.heap.size, 0, none⟩ = some (.int .i64 6) := (hbw.cell (p := ⟨w.heap.size, 0, none⟩) (by simp)).trans (by simp)
    have p3 : wr.cell? ⟨w.heap.size, 3, none⟩ = some (.slice ka ks.length kc) := (hbw.cell (p := ⟨w.heap.size, 3, none⟩) (by simp)).trans (by simp)
    by_cases hlt : j < l.length
    · obtain ⟨g, o, rfl, hg, y, hy, hv⟩ := h4.at_ hlt
      obtain ⟨c0, c1, c2, c3, c4⟩ := hy.below hg hbw0
      have hmem := List.getElem_mem hlt
      have hmu := hmk _ hmem
      have hbu := bulk_le_of_mem hmem
      have htl := tx_len l[j] hmu
      have HI := Lib.hid fun w' (hb : Below w.heap.size w w') => ih l[j] hmem y w' (Is.below hb _ _ hv) hmu (by omega)
      have hlk : j < ks.length := by have := HKL.out; omega
      obtain ⟨gk, ok, rfl, hgk, hck⟩ := h3.at_ hlk
      have hck' := (hbw0.cell (p := ⟨gk, ok + j, none⟩) hgk).trans hck
      have hkey := HKE.out _ (List.getElem_mem hlk)
      have hkb1 := key_le_keysBulk (List.getElem_mem hlk)
      have hks := keysBulk_snoc ks j hlk
      have hkt := keysBulk_take ks (j + 1)
      have hqlen := quote_len ks[j]
      have hkbo := HKB.out
      have HQt := Lib.hid fun w => quotedRef_any ks[j] w (by omega) hkey
      obtain ⟨k2, n2, t2, ka2, kn2, kc2, la2, ln2, lc2⟩ := y
      simp only [X.v] at *
      have hszr := hbw.size
      simp at hszr
      have hwz : w.heap.size < wr.heap.size := by omega
      have hbA := hbw0.trans ((below_alloc wr (.cells #[.int .i64 k2, .int .i64 n2, .string t2, .slice ka2 kn2 kc2, .slice la2 ln2 lc2] 25)).mono hbw0.size)
      have hbB := hbw.trans ((below_alloc wr (.cells #[.int .i64 k2, .int .i64 n2, .string t2, .slice ka2 kn2 kc2, .slice la2 ln2 lc2] 25)).mono (by omega))
      have HST : Hid (joinC ((List.zipWith pair ks (V.txs l)).take (j + 1)) = q ++ (sep j ++ ((quote (us ks[j].data.toList) ++ [58]) ++ l[j].tx))) := by
        show _ = _
        rw [hq.out]
        exact rec_join ks l j hlk hlt
      have hqn : (q ++ (sep j ++ ((quote (us ks[j].data.toList) ++ [58]) ++ l[j].tx))).length ≤ 96468992 := by
        rw [← HST.out]
        have h1 := rec_len ks l hmk (j + 1)
        have h2 := bulks_take_le l (j + 1)
        omega
      have hgz : gk < wr.heap.size := Nat.lt_of_lt_of_le hgk (by omega)
      generalize l[j] = u at *
      generalize u.tx = tx at *
      generalize ks[j] = key at *
      generalize quote (us key.data.toList) = qt at *
      clear hy hv hmu hmem hck hkey
      by_cases h0 : j = 0
      · have hj0 : j ≤ 0 := by omega
        have hs1 : sep j = [] := by unfold sep; rw [if_pos h0]
        rw [hs1, List.nil_append] at HST hqn
        have HM : Hid ((ByteArray.mk q.toArray ++ (⟨qt.toArray⟩ ++ ⟨#[58]⟩)) ++ ⟨tx.toArray⟩ = ⟨(q ++ ((qt ++ [58]) ++ tx)).toArray⟩) := by
          show _ = _
          rw [show (⟨#[58]⟩ : ByteArray) = ⟨([58] : Bs).toArray⟩ from rfl, mk_append, mk_append, mk_append, List.append_assoc]
        clear hs1 h0
        go_wp2_with fail
        refine (HQt.out _).mono ?_
        rintro e wq ⟨rfl, hbq⟩
        have hbQ := hbA.trans (hbq.mono hbA.size)
        have hbR := hbB.trans (hbq.mono (by simp; omega))
        have e0 : wq.cell? ⟨wr.heap.size, 0, none⟩ = some (.int .i64 k2) := (hbq.cell (p := ⟨wr.heap.size, 0, none⟩) (by simp)).trans (by simp)
        have e1 : wq.cell? ⟨wr.heap.size, 1, none⟩ = some (.int .i64 n2) := (hbq.cell (p := ⟨wr.heap.size, 1, none⟩) (by simp)).trans (by simp)
        have e2 : wq.cell? ⟨wr.heap.size, 2, none⟩ = some (.string t2) := (hbq.cell (p := ⟨wr.heap.size, 2, none⟩) (by simp)).trans (by simp)
        have e3 : wq.cell? ⟨wr.heap.size, 3, none⟩ = some (.slice ka2 kn2 kc2) := (hbq.cell (p := ⟨wr.heap.size, 3, none⟩) (by simp)).trans (by simp)
        have e4 : wq.cell? ⟨wr.heap.size, 4, none⟩ = some (.slice la2 ln2 lc2) := (hbq.cell (p := ⟨wr.heap.size, 4, none⟩) (by simp)).trans (by simp)
        have hwq := hbq.size
        simp at hwq
        clear hbq
        go_wp2_with fail
        refine (HI.out _ hbQ).mono ?_
        rintro e w1 ⟨rfl, hb1⟩
        have hb2 := hbR.trans (hb1.mono (by omega))
        clear hb1 hbB hbA hbw hbw0 p0 p3 c0 c1 c2 c3 c4 e0 e1 e2 e3 e4 hbQ hbR hck'
        go_wp2_with fail
        go_roundw
        case rel => exact ⟨j + 1, q ++ ((qt ++ [58]) ++ tx), by omega, by go_num, val_str HM.out, hqn, HST.out.symm, hb2⟩
        case measure => simp [intOf]; omega
      · have HM : Hid (((ByteArray.mk q.toArray ++ ⟨#[44]⟩) ++ (⟨qt.toArray⟩ ++ ⟨#[58]⟩)) ++ ⟨tx.toArray⟩ = ⟨(q ++ ([44] ++ ((qt ++ [58]) ++ tx))).toArray⟩) := by
          show _ = _
          rw [show (⟨#[44]⟩ : ByteArray) = ⟨([44] : Bs).toArray⟩ from rfl, show (⟨#[58]⟩ : ByteArray) = ⟨([58] : Bs).toArray⟩ from rfl, mk_append, mk_append, mk_append, mk_append, List.append_assoc, List.append_assoc]
        have hs1 : sep j = [44] := by unfold sep; rw [if_neg h0]
        rw [hs1] at HST hqn
        clear hs1
        have hj0 : (0 : Int) < (j : Int) := by omega
        go_wp2_with fail
        refine (HQt.out _).mono ?_
        rintro e wq ⟨rfl, hbq⟩
        have hbQ := hbA.trans (hbq.mono hbA.size)
        have hbR := hbB.trans (hbq.mono (by simp; omega))
        have e0 : wq.cell? ⟨wr.heap.size, 0, none⟩ = some (.int .i64 k2) := (hbq.cell (p := ⟨wr.heap.size, 0, none⟩) (by simp)).trans (by simp)
        have e1 : wq.cell? ⟨wr.heap.size, 1, none⟩ = some (.int .i64 n2) := (hbq.cell (p := ⟨wr.heap.size, 1, none⟩) (by simp)).trans (by simp)
        have e2 : wq.cell? ⟨wr.heap.size, 2, none⟩ = some (.string t2) := (hbq.cell (p := ⟨wr.heap.size, 2, none⟩) (by simp)).trans (by simp)
        have e3 : wq.cell? ⟨wr.heap.size, 3, none⟩ = some (.slice ka2 kn2 kc2) := (hbq.cell (p := ⟨wr.heap.size, 3, none⟩) (by simp)).trans (by simp)
        have e4 : wq.cell? ⟨wr.heap.size, 4, none⟩ = some (.slice la2 ln2 lc2) := (hbq.cell (p := ⟨wr.heap.size, 4, none⟩) (by simp)).trans (by simp)
        have hwq := hbq.size
        simp at hwq
        clear hbq
        go_wp2_with fail
        refine (HI.out _ hbQ).mono ?_
        rintro e w1 ⟨rfl, hb1⟩
        have hb2 := hbR.trans (hb1.mono (by omega))
        clear hb1 hbB hbA hbw hbw0 p0 p3 c0 c1 c2 c3 c4 e0 e1 e2 e3 e4 hbQ hbR hck'
        go_wp2_with fail
        go_roundw
        case rel => exact ⟨j + 1, q ++ ([44] ++ ((qt ++ [58]) ++ tx)), by omega, by go_num, val_str HM.out, hqn, HST.out.symm, hb2⟩
        case measure => simp [intOf]; omega
    · obtain rfl : j = l.length := by omega
      have HE : Hid ((ByteArray.mk #[123] ++ ⟨q.toArray⟩) ++ ⟨#[125]⟩ = ⟨(V.tx (.mk 6 n s ks l)).toArray⟩) := by
        show _ = _
        have h1 := hq.out
        rw [List.take_of_length_le (by rw [List.length_zipWith, txs_length]; omega)] at h1
        rw [HTX.out, ← h1, show (⟨#[123]⟩ : ByteArray) = ⟨([123] : Bs).toArray⟩ from rfl, show (⟨#[125]⟩ : ByteArray) = ⟨([125] : Bs).toArray⟩ from rfl, mk_append, mk_append]
        rfl
      go_wp2_with fail
      go_ret
      exact ⟨ret_str HE.out, hbw0⟩

theorem rtH_all : ∀ v : V, RtH v := by
  refine V.ind fun k n s ks l ih => ?_
  by_cases h5 : k = 5
  · subst h5
    exact rt_list n s ks l ih
  by_cases h6 : k = 6
  · subst h6
    exact rt_rec n s ks l ih
  intro x w hx hm hbk
  have := own_kind (own_of_may hm)
  exact rt_leaf _ x w hx hm hbk (by simp only [V.k] at *; omega)

set_option maxRecDepth 4000 in
set_option maxHeartbeats 1000000 in
theorem refText_any (v : V) (x : X) (w : World) (h : Is w v x) (hbk : v.bulk ≤ 4194304) :
    Calls Tryd.prog 20 #[x.v] w fun e w' => e = .returned (.tuple #[.string ⟨v.out.toArray⟩, .int .i64 v.chk]) ∧ Below w.heap.size w w' := by
  have HC := Lib.hid fun w' (hb : Below w.heap.size w w') => refChk_any v x w' (Is.below hb _ _ h) hbk
  have HA : Hid (v.may = true → ∀ w', Below w.heap.size w w' → Calls Tryd.prog 36 #[x.v] w' fun e w'' => e = .returned (.string ⟨v.tx.toArray⟩) ∧ Below w'.heap.size w' w'') := fun hm w' hb =>
    rtH_all v x w' (Is.below hb _ _ h) hm hbk
  have HO : Hid (v.out = if v.chk = 0 then v.tx else []) := Lib.hid rfl
  have HM : Hid (v.chk = 0 → v.may = true) := chk_may
  obtain ⟨k, n, s, ka, kn, kc, la, ln, lc⟩ := x
  simp only [X.v] at *
  generalize v.chk = c at *
  clear h hbk
  by_cases h0 : c = 0
  · subst h0
    have HA2 := Lib.hid (HA.out (HM.out rfl))
    rw [HO.out, if_pos rfl]
    clear HA HM HO
    go_enter Tryd.func20, Tryd.ntmps20
    go_wp2_with fail
    refine (HC.out _ (below_alloc w _)).mono ?_
    rintro e w1 ⟨rfl, hb1⟩
    have hb0 := (below_alloc w (.cells #[.int .i64 k, .int .i64 n, .string s, .slice ka kn kc, .slice la ln lc] 25)).trans (hb1.mono (by simp))
    have c0 : w1.cell? ⟨w.heap.size, 0, none⟩ = some (.int .i64 k) := (hb1.cell (p := ⟨w.heap.size, 0, none⟩) (by simp)).trans (by simp)
    have c1 : w1.cell? ⟨w.heap.size, 1, none⟩ = some (.int .i64 n) := (hb1.cell (p := ⟨w.heap.size, 1, none⟩) (by simp)).trans (by simp)
    have c2 : w1.cell? ⟨w.heap.size, 2, none⟩ = some (.string s) := (hb1.cell (p := ⟨w.heap.size, 2, none⟩) (by simp)).trans (by simp)
    have c3 : w1.cell? ⟨w.heap.size, 3, none⟩ = some (.slice ka kn kc) := (hb1.cell (p := ⟨w.heap.size, 3, none⟩) (by simp)).trans (by simp)
    have c4 : w1.cell? ⟨w.heap.size, 4, none⟩ = some (.slice la ln lc) := (hb1.cell (p := ⟨w.heap.size, 4, none⟩) (by simp)).trans (by simp)
    clear hb1
    go_wp2_with fail
    refine (HA2.out _ hb0).mono ?_
    rintro e w2 ⟨rfl, hb2⟩
    have hb3 := hb0.trans (hb2.mono hb0.size)
    clear c0 c1 c2 c3 c4 hb0 hb2
    go_wp2_with fail
    go_ret2
    exact ⟨rfl, hb3⟩
  · have hc0 : (c == 0) = false := by rw [beq_eq_false_iff_ne]; exact h0
    have hc1 : (c != 0) = true := by simp [h0]
    rw [HO.out, if_neg h0]
    clear HA HM HO h0
    go_enter Tryd.func20, Tryd.ntmps20
    go_wp2_with fail
    refine (HC.out _ (below_alloc w _)).mono ?_
    rintro e w1 ⟨rfl, hb1⟩
    have hb0 := (below_alloc w (.cells #[.int .i64 k, .int .i64 n, .string s, .slice ka kn kc, .slice la ln lc] 25)).trans (hb1.mono (by simp))
    go_wp2_with fail
    go_ret2
    exact ⟨rfl, hb0⟩
end Go.Proofs.YtnjcofjphneccaaDoor
