/-
  The reference's many of a List, by contract.
-/
import Derived.Test.YtnkknlhdbhfjlaaSa
namespace Go.Proofs.Ytnkknlhdbhfjlaa
open Go.RowKit

/-- the reference's read, where so many may still be nested -/
def AtS (d : Nat) : Prop := ∀ (A : Option Addr) (l : Bs) (c : Nat) (w : World) (deep : Nat), O.Byt w A l → l.length ≤ 4194304 → l.length ≤ c → deep + d = 20 → Calls Try.prog 23 #[.slice A l.length c, .int .i64 deep] w (PostR w (dec d l))
theorem acc_below {w1 wr w2 : World} {M : Nat → Prop} {nu : Nat} {k : Int} {ks : List ByteArray} {l : List V} {kA lA : Option Addr} {kC lC : Nat} {ys : List X} (h : Acc w1 M nu k ks l wr kA kC lA lC ys) (hb : Below wr.heap.size wr w2) : Acc w1 M nu k ks l w2 kA kC lA lC ys :=
  h.keep (N := fun _ => False) (Fr.of hb fun _ hg => hg.1) fun _ hn => hn.elim
theorem acc_w {w w1 wr : World} {M : Nat → Prop} {nu : Nat} {k : Int} {ks : List ByteArray} {l : List V} {kA lA : Option Addr} {kC lC : Nat} {ys : List X} (h : Acc w1 M nu k ks l wr kA kC lA lC ys) (hb : Below w.heap.size w w1) (hM : ∀ g, M g → w.heap.size ≤ g) : Below w.heap.size w wr :=
  hb.trans (h.fr.mono fun g (hg : g < w.heap.size) => ⟨Nat.lt_of_lt_of_le hg hb.size, fun hm => by have := hM g hm; omega⟩).below

set_option maxRecDepth 8000 in
set_option maxHeartbeats 4000000 in
theorem many_list (d : Nat) (ih : AtS d) (A : Option Addr) (b : Bs) (c : Nat) (w : World) (deep : Nat) (hB : O.Byt w A b) (hl : b.length ≤ 4194304) (hlc : b.length ≤ c) (hw : deep + (d + 1) = 20) :
    Calls Try.prog 43 #[.agg #[.int .i64 5, .int .i64 0, .string ⟨#[]⟩, .slice none 0 0, .slice none 0 0], .slice A b.length c, .int .i64 deep] w (PostR w (decAll (dec d) 5 b)) := by
  obtain ⟨i5, hi5, hz5, hs5, hb5⟩ := info_parts infoData
  have HN := Lib.hid fun w' (hb : Below w.heap.size w w') => O.refReadNum_any A b c w' (hB.below hb) (by omega)
  by_cases he : (O.rd 0 0 b).2.2 = 0
  · obtain ⟨n, k0, hr⟩ : ∃ n k0, O.rd 0 0 b = (n, k0, 0) := ⟨_, _, Prod.ext rfl (Prod.ext rfl he)⟩
    have hD : decAll (dec d) 5 b = decMany (dec d) 5 b n k0 [] [] := by
      unfold decAll
      rw [hr, if_neg (by simp)]
    obtain ⟨_, hk1, hk2, hn64⟩ := rd_take hr
    rw [hr] at HN
    simp only [O.rdV] at HN
    rw [hD]
    have e1 : IntKind.i64.wrap ((deep : Int) + 1) = (deep : Int) + 1 := IntWalk.i64_in _ (by omega)
    have HIH : Hid (∀ w' m, Below w.heap.size w w' → m ≤ b.length → Calls Try.prog 23 #[.slice (O.cutA A c m) (b.length - m) (c - m), .int .i64 ((deep : Int) + 1)] w' (PostR w' (dec d (b.drop m)))) := fun w' m hb hm => by
      have := ih (O.cutA A c m) (b.drop m) (c - m) w' (deep + 1) ((hB.below hb).cut hm hlc) (by rw [List.length_drop]; omega) (by rw [List.length_drop]; omega) (by omega)
      rw [List.length_drop, show ((deep + 1 : Nat) : Int) = (deep : Int) + 1 by omega] at this
      exact this
    clear he hr hD ih hB
    have HB1 := Lib.hid (below2d w (.cells #[.int .i64 5, .int .i64 0, .string ⟨#[]⟩, .slice none 0 0, .slice none 0 0] 25) (.cells #[.int .i64 0, .int .i64 0, .string ⟨#[]⟩, .slice none 0 0, .slice none 0 0] 25))
    have HNU := Lib.hid (old_row w (.cells #[.int .i64 5, .int .i64 0, .string ⟨#[]⟩, .slice none 0 0, .slice none 0 0] 25) (.cells #[.int .i64 0, .int .i64 0, .string ⟨#[]⟩, .slice none 0 0, .slice none 0 0] 25))
    have HRO : Hid (((w.alloc (.cells #[.int .i64 5, .int .i64 0, .string ⟨#[]⟩, .slice none 0 0, .slice none 0 0] 25)).alloc (.cells #[.int .i64 0, .int .i64 0, .string ⟨#[]⟩, .slice none 0 0, .slice none 0 0] 25)).heap[w.heap.size + 1]? = some zrow) := heap2d_at _ _ _
    have HZ1 : Hid (((w.alloc (.cells #[.int .i64 5, .int .i64 0, .string ⟨#[]⟩, .slice none 0 0, .slice none 0 0] 25)).alloc (.cells #[.int .i64 0, .int .i64 0, .string ⟨#[]⟩, .slice none 0 0, .slice none 0 0] 25)).heap.size = w.heap.size + 2) := by exact Lib.hid (by simp)
    go_enter Try.func43, Try.ntmps43
    go_wp2_with (go_at_call 53; refine (HN.out _ (below2d _ _ _)).mono ?_; rintro e w' ⟨rfl, rfl⟩)
    generalize (w.alloc (.cells #[.int .i64 5, .int .i64 0, .string ⟨#[]⟩, .slice none 0 0, .slice none 0 0] 25)).alloc (.cells #[.int .i64 0, .int .i64 0, .string ⟨#[]⟩, .slice none 0 0, .slice none 0 0] 25) = w1 at *
    have HAC : Hid (Acc w1 (fun g => g = w.heap.size) w.heap.size 5 [] [] w1 none 0 none 0 []) := Acc.start rfl HNU.out
    go_loopw [10, 12] (fun a i wr => ∃ j m : Nat, ∃ vs : List V, j ≤ n ∧ i = .int .u64 j ∧ a = .int .i64 m ∧ vs.length ≤ m ∧ m ≤ b.length ∧ Hid (decMany (dec d) 5 b n k0 [] [] = decMany (dec d) 5 b (n - j) m [] vs) ∧ ∃ lA lC ys, Hid (Acc w1 (fun g => g = w.heap.size) w.heap.size 5 [] vs wr none 0 lA lC ys))
      (fun _ i _ => n - (intOf i).toNat)
    case atStart => exact ⟨0, k0, [], Nat.zero_le _, rfl, rfl, Nat.zero_le _, hk2, rfl, none, 0, [], HAC⟩
    case round =>
      obtain ⟨j, m, vs, hj, rfl, rfl, hvm, hml, hdm, lA, lC, ys, hac⟩ := hrel
      have HBR := Lib.hid (acc_w hac.out HB1.out fun g hg => by omega)
      by_cases hlt : j < n
      · obtain ⟨cc, hc⟩ : ∃ cc, n - j = cc + 1 := ⟨n - j - 1, by omega⟩
        have hc2 : cc = n - (j + 1) := by omega
        have hju := u64_step hlt hn64
        have hcell := hac.out.cells
        simp only [List.length_nil] at hcell
        obtain ⟨s0, -, -, -, -, -⟩ := hcell
        have hvl : vs.length ≤ 4194304 := by omega
        have HV := Lib.hid (HIH.out wr m HBR.out hml)
        have HROW : Hid (∀ w2, Below wr.heap.size wr w2 → w2.heap[w.heap.size + 1]? = some zrow) := fun w2 hb => (hb.block _ (by have := hac.out.fr.size; have := HZ1.out; omega)).trans ((hac.out.fr.block _ ⟨by have := HZ1.out; omega, by omega⟩).trans HRO.out)
        have hlt2 : w.heap.size + 1 < wr.heap.size := by have := hac.out.fr.size; have := HZ1.out; omega
        cases hx : dec d (b.drop m) with
        | bad q =>
          rw [hx] at HV
          have hq := dec_right d (b.drop m)
          rw [hx] at hq
          have HE : Hid (decMany (dec d) 5 b n k0 [] [] = .bad q) := by rw [hdm.out, hc, decMany_5_bad hx]; exact Lib.hid rfl
          have hq0 : ((q : Int) != 0) = true := by
            have : q = 20 ∨ q = 22 ∨ q = 31 := hq
            simp
            omega
          clear hdm hac hx hq HIH
          go_wp2_with (first
            | (refine O.cut_law rfl _ _ (by rfl) A b.length c (by rfl) m (by rfl) hml ?_)
            | (go_at_call 23; refine HV.out.mono ?_; rintro e w2 ⟨rfl, hb2⟩; have hzr := (Below.heap_alloc w2 (.cells #[.int .i64 0, .int .i64 0, .string ⟨#[]⟩, .slice none 0 0, .slice none 0 0] 25) (w.heap.size + 1) (by have := hb2.size; omega)).trans (HROW.out _ hb2); obtain ⟨t0, t1, t2, t3, t4, t5⟩ := zrow_cells hzr; have f0 := t5 0; have f1 := t5 1; have f2 := t5 2; have f3 := t5 3; have f4 := t5 4; have HZ := Lib.hid hzr; clear t5 hzr))
          rw [← put5_lit]
          have hz2 := hb2.size
          refine bodyPost_ret (res_ctt rfl _ _ (w.heap.size + 1) 25 _ (0, 0) _ rfl (put5_row HZ.out _) Try.underlying25 rfl (by rw [hi5]; simp [hs5, X.cells])) rfl ?_
          rw [HE.out]
          exact ⟨rfl, (HBR.out.trans (hb2.mono HBR.out.size)).trans (((below_alloc w2 _).mono (by omega)).trans ((put5_fr _ _ _ _).mono fun q (hq : q < w.heap.size) => by show q ≠ w.heap.size + 1; omega).below)⟩
        | good v nn =>
          rw [hx] at HV
          have hgd := right_good hx
          rw [List.length_drop] at hgd
          have hmw : IntKind.i64.wrap ((m : Int) + (nn : Int)) = (m : Int) + (nn : Int) := IntWalk.i64_in _ (by omega)
          have HDM : Hid (decMany (dec d) 5 b n k0 [] [] = decMany (dec d) 5 b (n - (j + 1)) (m + nn) [] (vs ++ [v])) := by
            rw [hdm.out, hc, decMany_5_good hx, hc2]
            exact Lib.hid rfl
          have HA2F : Hid (∀ w2 o, Below wr.heap.size wr w2 → Acc w1 (fun g => g = w.heap.size) w.heap.size 5 [] vs (w2.alloc o) none 0 lA lC ys) := fun w2 o hb => acc_below hac.out (hb.trans ((below_alloc w2 o).mono hb.size))
          have HOB : Hid (∀ b, (Value.slice lA vs.length lC).ownBlock = some b → w1.heap.size ≤ b ∧ b < wr.heap.size) := fun b hb => hac.out.lown.lt b hb
          have HC3 : Hid (∀ w2 w3 o, Acc w1 (fun g => g = w.heap.size) w.heap.size 5 [] vs w2 none 0 lA lC ys → (w2.alloc o).grownBy w3 (Value.slice lA vs.length lC).ownBlock → w3.cell? ⟨w.heap.size, 4, none⟩ = some (.slice lA vs.length lC) ∧ w3.frozen? ⟨w.heap.size, 4, none⟩ = false) := fun w2 w3 o ha hg => by
            have h1 := Array.getElem?_eq_some_iff.1 ha.row |>.1
            have h2 : w3.heap[w.heap.size]? = _ := (hg.block _ (by simp; omega) (fun e => by have := (ha.lown.lt _ e.symm).1; have := HZ1.out; omega)).trans ((Below.heap_alloc _ _ _ h1).trans ha.row)
            exact ⟨by rw [cell_of_row w3 _ 4 _ _ _ h2]; rfl, by simp [World.frozen?, h2]⟩
          have hw1r := hac.out.fr.size
          clear hdm hac hx hc hc2
          go_wp2_with (first
            | (refine O.cut_law rfl _ _ (by rfl) A b.length c (by rfl) m (by rfl) hml ?_)
            | (go_at_call 23; refine HV.out.mono ?_; rintro e w2 ⟨⟨zk, zn, zs, zka, zkn, zkc, zla, zln, zlc⟩, rfl, hy, hb2⟩; (simp only [X.v]); have HA2 := Lib.hid (HA2F.out w2 (.cells #[.int .i64 zk, .int .i64 zn, .string zs, .slice zka zkn zkc, .slice zla zln zlc] 25) hb2); obtain ⟨q0, q1, q2, q3, q4, qf⟩ := HA2.out.cells; have HY2 := Lib.hid hy; have HB2 := Lib.hid hb2; clear hy hb2)
            | (at_builtin; refine wpList_append_lies _ rfl _ _ 23 (by rfl) w1.heap.size 25 i5 _ 5 80 Try.underlying23 hi5 hz5 hs5 hb5 rfl (by decide) (.slice lA vs.length lC) vs.length (flat5 ys) (by rfl) ?ko ⟨w2.heap.size + 1, 0, none⟩ 1 1 (X.cells ⟨zk, zn, zs, zka, zkn, zkc, zla, zln, zlc⟩).toList (by rfl) rfl (World.news_of_block (heap2d_at _ _ _)) (by intro u hu; simp [X.cells] at hu; rcases hu with rfl | rfl | rfl | rfl | rfl <;> rfl) (by decide) ?k1 ?k2 ?k3 (w2.heap.size + 2) ?k4 ?_; (case ko => exact own_any HA2.out.lown fun b hb => Below.heap_alloc _ _ _ (HA2.out.lown.lt b hb).2); (case k1 => unfold maxLen; omega); (case k2 => omega); (case k3 => have := HB2.out.size; simp; omega); (case k4 => simp); intro g3 cap3 w3 hown3 hgrow3 hat3 hlt3; obtain ⟨y3, yf3⟩ := HC3.out _ _ _ HA2.out hgrow3))
          have hz2 := HB2.out.size
          have HN3 := Lib.hid (HA2.out.push (v := v) (y := ⟨zk, zn, zs, zka, zkn, zkc, zla, zln, zlc⟩) (B := wr.heap.size) hw1r (fun b hb => by simp [Value.ownBlock] at hb) (fun b hb => (HOB.out b hb).2) (IsP.fr (Fr.of (below_alloc w2 _) fun q hq => hq.2) (fun q hq => ⟨hq.1, by have := hq.2; simp; omega⟩) _ _ HY2.out) hown3 hgrow3 (by simpa using hat3))
          clear hown3 hgrow3 hat3 hlt3 y3 yf3 HC3 HOB HA2F HA2 HY2 HB2 q0 q1 q2 q3 q4 qf HV
          generalize w3.setCell ⟨w.heap.size, 4, none⟩ (.slice (some ⟨g3, 0, none⟩) (vs.length + 1) cap3) = w4 at *
          go_roundw
          case rel => exact ⟨j + 1, m + nn, vs ++ [v], by omega, by go_num, by go_num, by simp; omega, by omega, HDM, _, _, _, HN3⟩
          case measure => simp [intOf]; omega
      · obtain rfl : j = n := by omega
        have HDM : Hid (decMany (dec d) 5 b j k0 [] [] = .good (.mk 5 0 ⟨#[]⟩ [] vs) m) := by
          rw [hdm.out, Nat.sub_self]
          exact Lib.hid rfl
        have hcell := hac.out.cells
        simp only [List.length_nil] at hcell
        obtain ⟨s0, s1, s2, s3, s4, -⟩ := hcell
        have hzr : wr.heap[w.heap.size + 1]? = some zrow := (hac.out.fr.block _ ⟨by have := HZ1.out; omega, by omega⟩).trans HRO.out
        obtain ⟨t0, t1, t2, t3, t4, t5⟩ := zrow_cells hzr
        have f0 := t5 0
        have f1 := t5 1
        have f2 := t5 2
        have f3 := t5 3
        have f4 := t5 4
        have HDN := Lib.hid hac.out.done
        have hzr' := Lib.hid hzr
        clear t5 hzr hac hdm
        go_wp2_with fail
        have hfr := put5_fr wr (w.heap.size + 1) 0 ⟨5, 0, ⟨#[]⟩, none, 0, 0, lA, vs.length, lC⟩
        rw [← put5_lit]
        refine bodyPost_ret (res_ctt rfl _ _ (w.heap.size + 1) 25 _ (0, 0) _ rfl (put5_row hzr'.out _) Try.underlying25 rfl (by rw [hi5]; simp [hs5, X.cells])) rfl ?_
        rw [HDM.out]
        exact ⟨⟨5, 0, ⟨#[]⟩, none, 0, 0, lA, vs.length, lC⟩, rfl, IsP.fr (hfr.mono fun q hq => by have := HZ1.out; show q ≠ w.heap.size + 1; omega) (fun q hq => ⟨by have := HZ1.out; omega, Nat.lt_of_lt_of_le hq.2 hfr.size⟩) _ _ HDN.out, HBR.out.trans (hfr.mono fun q (hq : q < w.heap.size) => by show q ≠ w.heap.size + 1; omega).below⟩
  · have hbad := rd_bad0 he
    have hr : O.rd 0 0 b = (0, 0, (O.rd 0 0 b).2.2) := Prod.ext hbad.1 (Prod.ext hbad.2 rfl)
    have hq := (rd_err b).resolve_left he
    have HD : Hid (decAll (dec d) 5 b = .bad (O.rd 0 0 b).2.2) := by
      unfold decAll
      rw [if_pos he]
      exact Lib.hid rfl
    rw [HD.out]
    rw [hr] at HN
    simp only [O.rdV] at HN
    generalize (O.rd 0 0 b).2.2 = q at *
    clear he hr hB hbad HD ih
    have hq0 : ((q : Int) != 0) = true := by
      simp
      omega
    clear hq
    go_enter Try.func43, Try.ntmps43
    go_wp2_with (go_at_call 53; refine (HN.out _ (below2d _ _ _)).mono ?_; rintro e w' ⟨rfl, rfl⟩)
    refine bodyPost_ret (res_ctt rfl _ _ (w.heap.size + 1) 25 _ (0, 0) _ rfl (heap2d_at _ _ _) Try.underlying25 rfl (by rw [hi5]; simp [hs5])) rfl ?_
    exact ⟨rfl, below2d _ _ _⟩
end Go.Proofs.Ytnkknlhdbhfjlaa
