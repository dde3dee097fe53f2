/-
  The reference's many of a Record, by contract.
-/
import Derived.Test.YtnkknlhdbhfjlaaSb
namespace Go.Proofs.Ytnkknlhdbhfjlaa
open Go.RowKit

theorem Acc.strs {w1 wr : World} {M : Nat → Prop} {nu : Nat} {k : Int} {ks : List ByteArray} {l : List V} {kA lA : Option Addr} {kC lC : Nat} {ys : List X} (h : Acc w1 M nu k ks l wr kA kC lA lC ys) : Strs wr kA ks := by
  by_cases h0 : ks = []
  · exact .inl h0
  · obtain ⟨g, cap, hv, hb, hg⟩ := h.kown.form (List.length_pos_iff.2 h0)
    injection hv with e1 _ e3
    subst e1 e3
    refine .inr ⟨g, 0, rfl, hg, fun j hj => ?_⟩
    have := h.kown.cells (g := g) rfl j (.string ks[j]) (by simp [hj])
    rw [addr_add] at this
    exact this

set_option maxRecDepth 8000 in
set_option maxHeartbeats 4000000 in
theorem many_record (d : Nat) (ih : AtS d) (A : Option Addr) (b : Bs) (c : Nat) (w : World) (deep : Nat) (hB : O.Byt w A b) (hl : b.length ≤ 4194304) (hlc : b.length ≤ c) (hw : deep + (d + 1) = 20) :
    Calls Try.prog 43 #[.agg #[.int .i64 6, .int .i64 0, .string ⟨#[]⟩, .slice none 0 0, .slice none 0 0], .slice A b.length c, .int .i64 deep] w (PostR w (decAll (dec d) 6 b)) := by
  obtain ⟨i5, hi5, hz5, hs5, hb5⟩ := info_parts infoData
  obtain ⟨i1, hi1, hz1, hs1, hb1⟩ := info_parts infoStr
  have HN := Lib.hid fun w' (hb : Below w.heap.size w w') => O.refReadNum_any A b c w' (hB.below hb) (by omega)
  by_cases he : (O.rd 0 0 b).2.2 = 0
  · obtain ⟨n, k0, hr⟩ : ∃ n k0, O.rd 0 0 b = (n, k0, 0) := ⟨_, _, Prod.ext rfl (Prod.ext rfl he)⟩
    have hD : decAll (dec d) 6 b = decMany (dec d) 6 b n k0 [] [] := by
      unfold decAll
      rw [hr, if_neg (by simp)]
    obtain ⟨_, hk1, hk2, hn64⟩ := rd_take hr
    rw [hr] at HN
    simp only [O.rdV] at HN
    rw [hD]
    have e1 : IntKind.i64.wrap ((deep : Int) + 1) = (deep : Int) + 1 := IntWalk.i64_in _ (by omega)
    have HIH : Hid (∀ w' m, Below w.heap.size w w' → m ≤ b.length → Calls Try.prog 23 #[.slice (O.cutA A c m) (b.length - m) (c - m), .int .i64 ((deep : Int) + 1)] w' (PostR w' (dec d (b.drop m)))) := fun w' m hb hm => by
      have := ih (O.cutA A c m) (b.drop m) (c - m) w' (deep + 1) ((hB.below hb).cut hm hlc) (by rw [List.length_drop]; omega) (by rw [List.length_drop]; omega) (by omega)
      rw [List.length_drop, show ((deep + 1 : Nat) : Int) = (deep : Int) + 1 by omega] at this
      exact this
    have HTX : Hid (∀ w' m, Below w.heap.size w w' → m ≤ b.length → Calls Try.prog 42 #[.slice (O.cutA A c m) (b.length - m) (c - m)] w' fun e w'' => e = .returned (.tuple #[.string (utx (b.drop m)).1, .int .i64 (utx (b.drop m)).2.1, .int .i64 (utx (b.drop m)).2.2]) ∧ w' = w'') := fun w' m hb hm => by
      have := rtext_any (O.cutA A c m) (b.drop m) (c - m) w' ((hB.below hb).cut hm hlc) (by rw [List.length_drop]; omega) (by rw [List.length_drop]; omega)
      rw [List.length_drop] at this
      exact this
    clear he hr hD ih hB
    have HB1 := Lib.hid (below2d w (.cells #[.int .i64 6, .int .i64 0, .string ⟨#[]⟩, .slice none 0 0, .slice none 0 0] 25) (.cells #[.int .i64 0, .int .i64 0, .string ⟨#[]⟩, .slice none 0 0, .slice none 0 0] 25))
    have HNU := Lib.hid (old_row w (.cells #[.int .i64 6, .int .i64 0, .string ⟨#[]⟩, .slice none 0 0, .slice none 0 0] 25) (.cells #[.int .i64 0, .int .i64 0, .string ⟨#[]⟩, .slice none 0 0, .slice none 0 0] 25))
    have HRO : Hid (((w.alloc (.cells #[.int .i64 6, .int .i64 0, .string ⟨#[]⟩, .slice none 0 0, .slice none 0 0] 25)).alloc (.cells #[.int .i64 0, .int .i64 0, .string ⟨#[]⟩, .slice none 0 0, .slice none 0 0] 25)).heap[w.heap.size + 1]? = some zrow) := heap2d_at _ _ _
    have HZ1 : Hid (((w.alloc (.cells #[.int .i64 6, .int .i64 0, .string ⟨#[]⟩, .slice none 0 0, .slice none 0 0] 25)).alloc (.cells #[.int .i64 0, .int .i64 0, .string ⟨#[]⟩, .slice none 0 0, .slice none 0 0] 25)).heap.size = w.heap.size + 2) := by exact Lib.hid (by simp)
    go_enter Try.func43, Try.ntmps43
    go_wp2_with (go_at_call 53; refine (HN.out _ (below2d _ _ _)).mono ?_; rintro e w' ⟨rfl, rfl⟩)
    generalize (w.alloc (.cells #[.int .i64 6, .int .i64 0, .string ⟨#[]⟩, .slice none 0 0, .slice none 0 0] 25)).alloc (.cells #[.int .i64 0, .int .i64 0, .string ⟨#[]⟩, .slice none 0 0, .slice none 0 0] 25) = w1 at *
    have HAC : Hid (Acc w1 (fun g => g = w.heap.size) w.heap.size 6 [] [] w1 none 0 none 0 []) := Acc.start rfl HNU.out
    go_loopw [10, 12] (fun a i wr => ∃ j m : Nat, ∃ ks : List ByteArray, ∃ vs : List V, j ≤ n ∧ i = .int .u64 j ∧ a = .int .i64 m ∧ ks.length ≤ m ∧ vs.length ≤ m ∧ m ≤ b.length ∧ Hid (decMany (dec d) 6 b n k0 [] [] = decMany (dec d) 6 b (n - j) m ks vs) ∧ ∃ kA kC lA lC ys, Hid (Acc w1 (fun g => g = w.heap.size) w.heap.size 6 ks vs wr kA kC lA lC ys))
      (fun _ i _ => n - (intOf i).toNat)
    case atStart => exact ⟨0, k0, [], [], Nat.zero_le _, rfl, rfl, Nat.zero_le _, Nat.zero_le _, hk2, rfl, none, 0, none, 0, [], HAC⟩
    case round =>
      obtain ⟨j, m, ks, vs, hj, rfl, rfl, hkm, hvm, hml, hdm, kA, kC, lA, lC, ys, hac⟩ := hrel
      have HBR := Lib.hid (acc_w hac.out HB1.out fun g hg => by omega)
      by_cases hlt : j < n
      · obtain ⟨cc, hc⟩ : ∃ cc, n - j = cc + 1 := ⟨n - j - 1, by omega⟩
        have hc2 : cc = n - (j + 1) := by omega
        have hju := u64_step hlt hn64
        obtain ⟨s0, s1, s2, s3, s4, sf⟩ := hac.out.cells
        have hvl : vs.length ≤ 4194304 := by omega
        have hkl : ks.length ≤ 4194304 := by omega
        have HT := Lib.hid (HTX.out wr m HBR.out hml)
        have hlt2 : w.heap.size + 1 < wr.heap.size := by have := hac.out.fr.size; have := HZ1.out; omega
        have HROW : Hid (wr.heap[w.heap.size + 1]? = some zrow) := (hac.out.fr.block _ ⟨by have := HZ1.out; omega, by omega⟩).trans HRO.out
        have HHS := Lib.hid fun s => has_any kA ks kC s wr hac.out.strs hkl
        by_cases hu : (utx (b.drop m)).2.2 = 0
        · obtain ⟨s, k1, hus⟩ : ∃ s k1, utx (b.drop m) = (s, k1, 0) := ⟨_, _, Prod.ext rfl (Prod.ext rfl hu)⟩
          have hui := utx_inv hu
          rw [hus] at hui HT
          simp only at hui HT
          obtain ⟨-, hk1p, hk1l, hss, -⟩ := hui
          rw [List.length_drop] at hk1l
          have hmk : IntKind.i64.wrap ((m : Int) + (k1 : Int)) = (m : Int) + (k1 : Int) := IntWalk.i64_in _ (by omega)
          have hmk2 : m + k1 ≤ b.length := by omega
          by_cases hk : hasKey ks s = true
          · have HE : Hid (decMany (dec d) 6 b n k0 [] [] = .bad 22) := by rw [hdm.out, hc, decMany_6_again hus hk]; exact Lib.hid rfl
            have HH := Lib.hid (HHS.out s)
            rw [hk] at HH
            obtain ⟨t0, t1, t2, t3, t4, t5⟩ := zrow_cells HROW.out
            have f0 := t5 0
            have f1 := t5 1
            have f2 := t5 2
            have f3 := t5 3
            have f4 := t5 4
            clear hdm hac hus hk hu t5 HIH HTX sf
            go_wp2_with (first
              | (refine O.cut_law rfl _ _ (by rfl) A b.length c (by rfl) m (by rfl) hml ?_)
              | (go_at_call 42; refine HT.out.mono ?_; rintro e w2 ⟨rfl, rfl⟩)
              | (go_at_call 56; refine HH.out.mono ?_; rintro e w2 ⟨rfl, rfl⟩))
            rw [← put5_lit]
            refine bodyPost_ret (res_ctt rfl _ _ (w.heap.size + 1) 25 _ (0, 0) _ rfl (put5_row HROW.out _) Try.underlying25 rfl (by rw [hi5]; simp [hs5, X.cells])) rfl ?_
            rw [HE.out]
            exact ⟨rfl, HBR.out.trans ((put5_fr _ _ _ _).mono fun q (hq : q < w.heap.size) => by show q ≠ w.heap.size + 1; omega).below⟩
          · have HH := Lib.hid (HHS.out s)
            rw [Bool.eq_false_iff.2 hk] at HH
            have HUS := Lib.hid hus
            have HNK := Lib.hid hk
            have sf3 := sf 3
            have HC5 : Hid (∀ w5, (wr.alloc (.cells #[.string s] 9)).grownBy w5 (Value.slice kA ks.length kC).ownBlock → w5.cell? ⟨w.heap.size, 3, none⟩ = some (.slice kA ks.length kC) ∧ w5.frozen? ⟨w.heap.size, 3, none⟩ = false ∧ w5.cell? ⟨w.heap.size, 0, none⟩ = some (.int .i64 6)) := fun w5 hg => by
              have h1 := Array.getElem?_eq_some_iff.1 hac.out.row |>.1
              have h2 : w5.heap[w.heap.size]? = _ := (hg.block _ (by simp; omega) (fun e => by have := (hac.out.kown.lt _ e.symm).1; have := HZ1.out; omega)).trans ((Below.heap_alloc _ _ _ h1).trans hac.out.row)
              exact ⟨by rw [cell_of_row w5 _ 3 _ _ _ h2]; rfl, by simp [World.frozen?, h2], by rw [cell_of_row w5 _ 0 _ _ _ h2]; rfl⟩
            clear hus hk hu HTX sf
            go_wp2_with (first
              | (refine O.cut_law rfl _ _ (by rfl) A b.length c (by rfl) m (by rfl) hml ?_)
              | (refine O.cut_law rfl _ _ (by rfl) A b.length c (by rfl) (m + k1) (by rfl) hmk2 ?_)
              | (go_at_call 42; refine HT.out.mono ?_; rintro e w2 ⟨rfl, rfl⟩)
              | (go_at_call 56; refine HH.out.mono ?_; rintro e w2 ⟨rfl, rfl⟩)
              | (at_builtin; refine wpList_append_lies _ rfl _ _ 22 (by rfl) w1.heap.size 9 i1 _ 1 16 Try.underlying22 hi1 hz1 hs1 hb1 rfl (by decide) (.slice kA ks.length kC) ks.length (ks.map Value.string) (by rfl) ?ko ⟨wr.heap.size, 0, none⟩ 1 1 [.string s] (by rfl) rfl (World.news_of_block (hp_new rfl)) (by simp [Value.oneCell']) (by decide) ?k1 ?k2 ?k3 (wr.heap.size + 1) ?k4 ?_; (case ko => exact own_any hac.out.kown fun b hb => Below.heap_alloc _ _ _ (hac.out.kown.lt b hb).2); (case k1 => unfold maxLen; omega); (case k2 => omega); (case k3 => have := hac.out.fr.size; simp; omega); (case k4 => simp); intro g5 cap5 w5 hown5 hgrow5 hat5 hlt5; obtain ⟨y3, yf3, y0⟩ := HC5.out _ hgrow5))
            have HA6 := Lib.hid (hac.out.key hown5 hgrow5 hat5)
            have hz5 := hgrow5.size
            simp at hz5
            have HZ6 : Hid (wr.heap.size ≤ (w5.setCell ⟨w.heap.size, 3, none⟩ (.slice (some ⟨g5, 0, none⟩) (ks.length + 1) cap5)).heap.size) := Lib.hid (by simp [World.setCell]; omega)
            clear hown5 hgrow5 hat5 hlt5 y3 yf3 y0 HC5 HH HHS HT s0 s1 s2 s3 s4 sf3 hz5 HROW hac
            generalize w5.setCell ⟨w.heap.size, 3, none⟩ (.slice (some ⟨g5, 0, none⟩) (ks.length + 1) cap5) = w6 at *
            have HBR6 := Lib.hid (acc_w HA6.out HB1.out fun g hg => by omega)
            have HV := Lib.hid (HIH.out w6 (m + k1) HBR6.out hmk2)
            have HROW : Hid (∀ w2, Below w6.heap.size w6 w2 → w2.heap[w.heap.size + 1]? = some zrow) := fun w2 hb => (hb.block _ (by have := HA6.out.fr.size; have := HZ1.out; omega)).trans ((HA6.out.fr.block _ ⟨by have := HZ1.out; omega, by omega⟩).trans HRO.out)
            have hlt6 : w.heap.size + 1 < w6.heap.size := by have := HA6.out.fr.size; have := HZ1.out; omega
            cases hx : dec d (b.drop (m + k1)) with
            | bad q =>
              rw [hx] at HV
              have hq := dec_right d (b.drop (m + k1))
              rw [hx] at hq
              have HE : Hid (decMany (dec d) 6 b n k0 [] [] = .bad q) := by rw [hdm.out, hc, decMany_6_bad HUS.out HNK.out hx]; exact Lib.hid rfl
              have hq0 : ((q : Int) != 0) = true := by
                have : q = 20 ∨ q = 22 ∨ q = 31 := hq
                simp
                omega
              clear hdm HA6 hx hq HIH
              refine HV.out.mono ?_
              rintro e w2 ⟨rfl, hb2⟩
              have hzr := (Below.heap_alloc w2 (.cells #[.int .i64 0, .int .i64 0, .string ⟨#[]⟩, .slice none 0 0, .slice none 0 0] 25) (w.heap.size + 1) (by have := hb2.size; omega)).trans (HROW.out _ hb2)
              obtain ⟨t0, t1, t2, t3, t4, t5⟩ := zrow_cells hzr
              have f0 := t5 0
              have f1 := t5 1
              have f2 := t5 2
              have f3 := t5 3
              have f4 := t5 4
              have HZ := Lib.hid hzr
              have HB2 := Lib.hid hb2
              have hz2 := hb2.size
              clear t5 hzr hb2 HV HROW
              go_wp2_with fail
              rw [← put5_lit]
              refine bodyPost_ret (res_ctt rfl _ _ (w.heap.size + 1) 25 _ (0, 0) _ rfl (put5_row HZ.out _) Try.underlying25 rfl (by rw [hi5]; simp [hs5, X.cells])) rfl ?_
              rw [HE.out]
              exact ⟨rfl, (HBR6.out.trans (HB2.out.mono HBR6.out.size)).trans (((below_alloc w2 _).mono (by omega)).trans ((put5_fr _ _ _ _).mono fun q (hq : q < w.heap.size) => by show q ≠ w.heap.size + 1; omega).below)⟩
            | good v nn =>
              rw [hx] at HV
              have hgd := right_good hx
              rw [List.length_drop] at hgd
              have hmw : IntKind.i64.wrap ((m : Int) + (k1 : Int) + (nn : Int)) = (m : Int) + (k1 : Int) + (nn : Int) := IntWalk.i64_in _ (by omega)
              have HDM : Hid (decMany (dec d) 6 b n k0 [] [] = decMany (dec d) 6 b (n - (j + 1)) (m + k1 + nn) (ks ++ [s]) (vs ++ [v])) := by
                rw [hdm.out, hc, decMany_6_good HUS.out HNK.out hx, hc2]
                exact Lib.hid rfl
              have HA2F : Hid (∀ w2 o, Below w6.heap.size w6 w2 → Acc w1 (fun g => g = w.heap.size) w.heap.size 6 (ks ++ [s]) vs (w2.alloc o) (some ⟨g5, 0, none⟩) cap5 lA lC ys) := fun w2 o hb => acc_below HA6.out (hb.trans ((below_alloc w2 o).mono hb.size))
              have HOB : Hid (∀ b, (Value.slice lA vs.length lC).ownBlock = some b → w1.heap.size ≤ b ∧ b < w6.heap.size) := fun b hb => HA6.out.lown.lt b hb
              have HKB : Hid (∀ b, (Value.slice (some ⟨g5, 0, none⟩) (ks ++ [s]).length cap5).ownBlock = some b → b < w6.heap.size) := fun b hb => (HA6.out.kown.lt b hb).2
              have HC3 : Hid (∀ w2 w3 o, Acc w1 (fun g => g = w.heap.size) w.heap.size 6 (ks ++ [s]) vs w2 (some ⟨g5, 0, none⟩) cap5 lA lC ys → (w2.alloc o).grownBy w3 (Value.slice lA vs.length lC).ownBlock → w3.cell? ⟨w.heap.size, 4, none⟩ = some (.slice lA vs.length lC) ∧ w3.frozen? ⟨w.heap.size, 4, none⟩ = false) := fun w2 w3 o ha hg => by
                have h1 := Array.getElem?_eq_some_iff.1 ha.row |>.1
                have h2 : w3.heap[w.heap.size]? = _ := (hg.block _ (by simp; omega) (fun e => by have := (ha.lown.lt _ e.symm).1; have := HZ1.out; omega)).trans ((Below.heap_alloc _ _ _ h1).trans ha.row)
                exact ⟨by rw [cell_of_row w3 _ 4 _ _ _ h2]; rfl, by simp [World.frozen?, h2]⟩
              have hw1r := HA6.out.fr.size
              clear hdm HA6 hx hc hc2 HUS HNK HIH
              refine HV.out.mono ?_
              rintro e w2 ⟨⟨zk, zn, zs, zka, zkn, zkc, zla, zln, zlc⟩, rfl, hy, hb2⟩
              simp only [X.v]
              have HA2 := Lib.hid (HA2F.out w2 (.cells #[.int .i64 zk, .int .i64 zn, .string zs, .slice zka zkn zkc, .slice zla zln zlc] 25) hb2)
              obtain ⟨q0, q1, q2, q3, q4, qf⟩ := HA2.out.cells
              have HY2 := Lib.hid hy
              have HB2 := Lib.hid hb2
              clear hy hb2
              go_wp2_with (at_builtin; refine wpList_append_lies _ rfl _ _ 23 (by rfl) w1.heap.size 25 i5 _ 5 80 Try.underlying23 hi5 hz5 hs5 hb5 rfl (by decide) (.slice lA vs.length lC) vs.length (flat5 ys) (by rfl) ?ko ⟨w2.heap.size + 1, 0, none⟩ 1 1 (X.cells ⟨zk, zn, zs, zka, zkn, zkc, zla, zln, zlc⟩).toList (by rfl) rfl (World.news_of_block (heap2d_at _ _ _)) (by intro u hu; simp [X.cells] at hu; rcases hu with rfl | rfl | rfl | rfl | rfl <;> rfl) (by decide) ?k1 ?k2 ?k3 (w2.heap.size + 2) ?k4 ?_; (case ko => exact own_any HA2.out.lown fun b hb => Below.heap_alloc _ _ _ (HA2.out.lown.lt b hb).2); (case k1 => unfold maxLen; omega); (case k2 => omega); (case k3 => have := HB2.out.size; simp; omega); (case k4 => simp); intro g3 cap3 w3 hown3 hgrow3 hat3 hlt3; obtain ⟨y3, yf3⟩ := HC3.out _ _ _ HA2.out hgrow3)
              have hz2 := HB2.out.size
              have HN3 := Lib.hid (HA2.out.push (v := v) (y := ⟨zk, zn, zs, zka, zkn, zkc, zla, zln, zlc⟩) (B := w6.heap.size) hw1r HKB.out (fun b hb => (HOB.out b hb).2) (IsP.fr (Fr.of (below_alloc w2 _) fun q hq => hq.2) (fun q hq => ⟨hq.1, by have := hq.2; simp; omega⟩) _ _ HY2.out) hown3 hgrow3 (by simpa using hat3))
              clear hown3 hgrow3 hat3 hlt3 y3 yf3 HC3 HOB HKB HA2F HA2 HY2 HB2 q0 q1 q2 q3 q4 qf HV
              generalize w3.setCell ⟨w.heap.size, 4, none⟩ (.slice (some ⟨g3, 0, none⟩) (vs.length + 1) cap3) = w4 at *
              go_roundw
              case rel => exact ⟨j + 1, m + k1 + nn, ks ++ [s], vs ++ [v], by omega, by go_num, by go_num, by simp; omega, by simp; omega, by omega, HDM, _, _, _, _, _, HN3⟩
              case measure => simp [intOf]; omega
        · have HE : Hid (decMany (dec d) 6 b n k0 [] [] = .bad (utx (b.drop m)).2.2) := by rw [hdm.out, hc, decMany_6_text hu]; exact Lib.hid rfl
          have hq := (utx_err (b.drop m)).resolve_left hu
          generalize (utx (b.drop m)).2.2 = q at *
          generalize (utx (b.drop m)).2.1 = q1 at *
          generalize (utx (b.drop m)).1 = q2 at *
          have hq0 : ((q : Int) != 0) = true := by
            simp
            omega
          obtain ⟨t0, t1, t2, t3, t4, t5⟩ := zrow_cells HROW.out
          have f0 := t5 0
          have f1 := t5 1
          have f2 := t5 2
          have f3 := t5 3
          have f4 := t5 4
          clear hdm hac hu hq t5 HIH HTX sf HHS
          go_wp2_with (first
            | (refine O.cut_law rfl _ _ (by rfl) A b.length c (by rfl) m (by rfl) hml ?_)
            | (go_at_call 42; refine HT.out.mono ?_; rintro e w2 ⟨rfl, rfl⟩))
          rw [← put5_lit]
          refine bodyPost_ret (res_ctt rfl _ _ (w.heap.size + 1) 25 _ (0, 0) _ rfl (put5_row HROW.out _) Try.underlying25 rfl (by rw [hi5]; simp [hs5, X.cells])) rfl ?_
          rw [HE.out]
          exact ⟨rfl, HBR.out.trans ((put5_fr _ _ _ _).mono fun q (hq : q < w.heap.size) => by show q ≠ w.heap.size + 1; omega).below⟩
      · obtain rfl : j = n := by omega
        have HDM : Hid (decMany (dec d) 6 b j k0 [] [] = .good (.mk 6 0 ⟨#[]⟩ ks vs) m) := by
          rw [hdm.out, Nat.sub_self]
          exact Lib.hid rfl
        obtain ⟨s0, s1, s2, s3, s4, -⟩ := hac.out.cells
        have hzr : wr.heap[w.heap.size + 1]? = some zrow := (hac.out.fr.block _ ⟨by have := HZ1.out; omega, by omega⟩).trans HRO.out
        obtain ⟨t0, t1, t2, t3, t4, t5⟩ := zrow_cells hzr
        have f0 := t5 0
        have f1 := t5 1
        have f2 := t5 2
        have f3 := t5 3
        have f4 := t5 4
        have HDN := Lib.hid hac.out.done
        have hzr' := Lib.hid hzr
        clear t5 hzr hac hdm
        go_wp2_with fail
        have hfr := put5_fr wr (w.heap.size + 1) 0 ⟨6, 0, ⟨#[]⟩, kA, ks.length, kC, lA, vs.length, lC⟩
        rw [← put5_lit]
        refine bodyPost_ret (res_ctt rfl _ _ (w.heap.size + 1) 25 _ (0, 0) _ rfl (put5_row hzr'.out _) Try.underlying25 rfl (by rw [hi5]; simp [hs5, X.cells])) rfl ?_
        rw [HDM.out]
        exact ⟨⟨6, 0, ⟨#[]⟩, kA, ks.length, kC, lA, vs.length, lC⟩, rfl, IsP.fr (hfr.mono fun q hq => by have := HZ1.out; show q ≠ w.heap.size + 1; omega) (fun q hq => ⟨by have := HZ1.out; omega, Nat.lt_of_lt_of_le hq.2 hfr.size⟩) _ _ HDN.out, HBR.out.trans (hfr.mono fun q (hq : q < w.heap.size) => by show q ≠ w.heap.size + 1; omega).below⟩
  · have hbad := rd_bad0 he
    have hr : O.rd 0 0 b = (0, 0, (O.rd 0 0 b).2.2) := Prod.ext hbad.1 (Prod.ext hbad.2 rfl)
    have hq := (rd_err b).resolve_left he
    have HD : Hid (decAll (dec d) 6 b = .bad (O.rd 0 0 b).2.2) := by
      unfold decAll
      rw [if_pos he]
      exact Lib.hid rfl
    rw [HD.out]
    rw [hr] at HN
    simp only [O.rdV] at HN
    generalize (O.rd 0 0 b).2.2 = q at *
    clear he hr hB hbad HD ih
    have hq0 : ((q : Int) != 0) = true := by
      simp
      omega
    clear hq
    go_enter Try.func43, Try.ntmps43
    go_wp2_with (go_at_call 53; refine (HN.out _ (below2d _ _ _)).mono ?_; rintro e w' ⟨rfl, rfl⟩)
    refine bodyPost_ret (res_ctt rfl _ _ (w.heap.size + 1) 25 _ (0, 0) _ rfl (heap2d_at _ _ _) Try.underlying25 rfl (by rw [hi5]; simp [hs5])) rfl ?_
    exact ⟨rfl, below2d _ _ _⟩
end Go.Proofs.Ytnkknlhdbhfjlaa
