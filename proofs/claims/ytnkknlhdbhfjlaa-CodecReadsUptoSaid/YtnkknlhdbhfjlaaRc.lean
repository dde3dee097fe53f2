/-
  The reader's record, by contract.
-/
import Derived.Test.YtnkknlhdbhfjlaaRb
namespace Go.Proofs.Ytnkknlhdbhfjlaa
open Go.RowKit Go.ChangeMaps Go.MapKept Go.Maps Go.WideMaps

/-- the set of some keys -/
def Km (ks : List ByteArray) : DataW Unit := setOf (.agg []) (ks.map keyL)
theorem Km_snoc (ks : List ByteArray) (s : ByteArray) : Km (ks ++ [s]) = (Km ks).put (keyL s) (.agg []) := by
  unfold Km
  rw [List.map_append, List.map_singleton, setOf_snoc]
theorem Km_has (ks : List ByteArray) (s : ByteArray) : Maps.has (Km ks) (keyL s) = hasKey ks s := by
  unfold Km
  rw [has_setOf _ _ _ (fun x hx => by obtain ⟨y, _, rfl⟩ := List.mem_map.1 hx; exact keyL_lit y), Bool.eq_iff_iff, any_key, hasKey_iff]
theorem map_fr {H : Type} {w w' : World} {P : Program} {k : TypeId} {R : Value → Option (DataW H × List MemPlace)} {b n : Nat} {D : DataW H} (h : w.ownsMap P k R b n D) (hb : w'.heap[b]? = w.heap[b]?) : w'.ownsMap P k R b n D := by
  obtain ⟨es, clock, h1, r⟩ := h
  exact ⟨es, clock, hb.trans h1, r⟩
theorem map_lt {H : Type} {w : World} {P : Program} {k : TypeId} {R : Value → Option (DataW H × List MemPlace)} {b n : Nat} {D : DataW H} (h : w.ownsMap P k R b n D) : b < w.heap.size := by
  obtain ⟨es, clock, h1, r⟩ := h
  exact (Array.getElem?_eq_some_iff.1 h1).1
theorem below3d (w : World) (a b c : Obj) : Below w.heap.size w (((w.alloc a).alloc b).alloc c) := (below2d w a b).trans ((below_alloc _ _).mono (by simp; omega))
theorem decMany_6_text {f : Bs → Dec} {b : Bs} {c m : Nat} {ks : List ByteArray} {l : List V} (h : (utx (b.drop m)).2.2 ≠ 0) : decMany f 6 b (c + 1) m ks l = .bad (utx (b.drop m)).2.2 := by
  rw [decMany, if_pos rfl, if_pos h]
theorem decMany_6_again {f : Bs → Dec} {b : Bs} {c m k : Nat} {s : ByteArray} {ks : List ByteArray} {l : List V} (h : utx (b.drop m) = (s, k, 0)) (h2 : hasKey ks s = true) : decMany f 6 b (c + 1) m ks l = .bad 22 := by
  rw [decMany, if_pos rfl, h, if_neg (by simp), if_pos h2]
theorem decMany_6_bad {f : Bs → Dec} {b : Bs} {c m k q : Nat} {s : ByteArray} {ks : List ByteArray} {l : List V} (h : utx (b.drop m) = (s, k, 0)) (h2 : ¬ hasKey ks s = true) (h3 : f (b.drop (m + k)) = .bad q) : decMany f 6 b (c + 1) m ks l = .bad q := by
  rw [decMany, if_pos rfl, h, if_neg (by simp), if_neg h2]
  simp only
  rw [h3]
theorem decMany_6_good {f : Bs → Dec} {b : Bs} {c m k n : Nat} {v : V} {s : ByteArray} {ks : List ByteArray} {l : List V} (h : utx (b.drop m) = (s, k, 0)) (h2 : ¬ hasKey ks s = true) (h3 : f (b.drop (m + k)) = .good v n) : decMany f 6 b (c + 1) m ks l = decMany f 6 b c (m + k + n) (ks ++ [s]) (l ++ [v]) := by
  rw [decMany, if_pos rfl, h, if_neg (by simp), if_neg h2]
  simp only
  rw [h3]
theorem makeMap_none (w : World) : (Instr.makeMap 77 none).run Try.prog w = .ok (.map (some w.heap.size)) (w.alloc (.map #[] 0)) := by
  simp [Instr.makeMap, Result.andThen]
theorem zero_unit (w : World) : (zeroValue 78).run Try.prog w = .ok (.agg #[]) w := by kernel_rfl
section
variable {B : Nat}

set_option maxRecDepth 8000 in
set_option maxHeartbeats 2000000 in
theorem record_bad0 (R q : Nat) (l : Bs) (w : World) (within : Nat) (h : Rd w B R l) (hr : O.rd 0 0 l = (0, 0, q)) (hq : q = 20 ∨ q = 22) :
    Calls Try.prog 40 #[.pointer (some ⟨R, 0, none⟩), .int .i64 within] w fun e w' => e = pan q ∧ Kp R w w' := by
  have HN := Lib.hid fun w' (hb : Below w.heap.size w w') => num_bad R q l w' (h.below hb) hr hq
  have hmm := makeMap_none
  clear h hr hq
  go_enter Try.func40, Try.ntmps40
  go_wp2_with fail
  refine (HN.out _ (below3d _ _ _ _)).mono ?_
  rintro e w1 ⟨rfl, hk⟩
  go_wp2_with fail
  exact ⟨rfl, rfl, Kp.trans (Kp.of (below3d _ _ _ _)) hk⟩

set_option maxRecDepth 8000 in
set_option maxHeartbeats 4000000 in
theorem record_any (d : Nat) (ih : AtV d) (R : Nat) (l : Bs) (w : World) (within : Nat) (h : Rd w B R l) (hB : B ≤ w.heap.size) (hw : within + (d + 1) = 20) :
    Calls Try.prog 40 #[.pointer (some ⟨R, 0, none⟩), .int .i64 within] w (Post B R l w (decAll (dec d) 6 l)) := by
  obtain ⟨i5, hi5, hz5, hs5, hb5⟩ := info_parts infoData
  obtain ⟨i1, hi1, hz1, hs1, hb1⟩ := info_parts infoStr
  by_cases he : (O.rd 0 0 l).2.2 = 0
  · obtain ⟨n, k0, hr⟩ : ∃ n k0, O.rd 0 0 l = (n, k0, 0) := ⟨_, _, Prod.ext rfl (Prod.ext rfl he)⟩
    have hD : decAll (dec d) 6 l = decMany (dec d) 6 l n k0 [] [] := by
      unfold decAll
      rw [hr, if_neg (by simp)]
    obtain ⟨_, hk1, hk2, hn64⟩ := rd_take hr
    have hRw := h.lt
    have hle := h.le
    have HN := Lib.hid fun w' (hb : Below w.heap.size w w') => num_good R n k0 l w' (h.below hb) hr
    rw [hD]
    have e1 : IntKind.i64.wrap ((within : Int) + 1) = (within : Int) + 1 := IntWalk.i64_in _ (by omega)
    have HIH : Hid (∀ w' m, Rd w' B R (l.drop m) → B ≤ w'.heap.size → Calls Try.prog 22 #[.pointer (some ⟨R, 0, none⟩), .int .i64 ((within : Int) + 1)] w' (Post B R (l.drop m) w' (dec d (l.drop m)))) := fun w' m h' hB' => by
      have := ih B R (l.drop m) w' (within + 1) h' hB' (by omega)
      rw [show ((within + 1 : Nat) : Int) = (within : Int) + 1 by omega] at this
      exact this
    have hmm := makeMap_none
    clear h he hr hD ih
    go_enter Try.func40, Try.ntmps40
    go_wp2_with fail
    refine (HN.out _ (below3d _ _ _ _)).mono ?_
    rintro e w1 ⟨rfl, hrd, hk⟩
    have HK0 := Lib.hid (Kp.trans (Kp.of (R := R) (below3d w (.cells #[.int .i64 0, .int .i64 0, .string ⟨#[]⟩, .slice none 0 0, .slice none 0 0] 25) (.cells #[.int .i64 6, .int .i64 0, .string ⟨#[]⟩, .slice none 0 0, .slice none 0 0] 25) (.map #[] 0))) hk)
    have HNU : Hid (w1.heap[w.heap.size + 1]? = some (.cells #[.int .i64 6, .int .i64 0, .string ⟨#[]⟩, .slice none 0 0, .slice none 0 0] 25 (0, 0))) := (hk.block (by simp) (by omega)).trans ((Below.heap_alloc _ _ _ (by simp)).trans (heap2d_at _ _ _))
    have HRO : Hid (w1.heap[w.heap.size]? = some zrow) := (hk.block (by simp; omega) (by omega)).trans ((Below.heap_alloc _ _ _ (by simp; omega)).trans (two_data _ _))
    have HMP : Hid (w1.ownsMap Try.prog 9 unitElem (w.heap.size + 2) ([] : List ByteArray).length (Km [])) := by
      refine Lib.hid (map_fr (w := (((w.alloc (.cells #[.int .i64 0, .int .i64 0, .string ⟨#[]⟩, .slice none 0 0, .slice none 0 0] 25)).alloc (.cells #[.int .i64 6, .int .i64 0, .string ⟨#[]⟩, .slice none 0 0, .slice none 0 0] 25)).alloc (.map #[] 0))) ?_ (hk.block (by simp) (by omega)))
      have := World.ownsMap_made (H := Unit) ((w.alloc (.cells #[.int .i64 0, .int .i64 0, .string ⟨#[]⟩, .slice none 0 0, .slice none 0 0] 25)).alloc (.cells #[.int .i64 6, .int .i64 0, .string ⟨#[]⟩, .slice none 0 0, .slice none 0 0] 25)) Try.prog 9 unitElem
      have hz : ((w.alloc (.cells #[.int .i64 0, .int .i64 0, .string ⟨#[]⟩, .slice none 0 0, .slice none 0 0] 25)).alloc (.cells #[.int .i64 6, .int .i64 0, .string ⟨#[]⟩, .slice none 0 0, .slice none 0 0] 25)).heap.size = w.heap.size + 2 := by simp
      rw [hz] at this
      exact this
    have HRD := Lib.hid hrd
    have HZ1 : Hid (w.heap.size + 3 ≤ w1.heap.size) := by have := hk.size; simp at this; exact Lib.hid (by omega)
    have HAC : Hid (Acc w1 (fun g => g = R ∨ g = w.heap.size + 1 ∨ g = w.heap.size + 2) (w.heap.size + 1) 6 [] [] w1 none 0 none 0 []) := Acc.start (.inr (.inl rfl)) HNU.out
    clear hk hrd HN
    go_wp2_with fail
    go_loopw [14] (fun i wr => ∃ j m : Nat, ∃ ks : List ByteArray, ∃ vs : List V, j ≤ n ∧ i = .int .u64 j ∧ ks.length ≤ m ∧ vs.length ≤ m ∧ m ≤ l.length ∧ Hid (decMany (dec d) 6 l n k0 [] [] = decMany (dec d) 6 l (n - j) m ks vs) ∧ Hid (Rd wr B R (l.drop m)) ∧
        Hid (wr.ownsMap Try.prog 9 unitElem (w.heap.size + 2) ks.length (Km ks)) ∧ ∃ kA kC lA lC ys, Hid (Acc w1 (fun g => g = R ∨ g = w.heap.size + 1 ∨ g = w.heap.size + 2) (w.heap.size + 1) 6 ks vs wr kA kC lA lC ys))
      (fun i _ => n - (intOf i).toNat)
    case atStart => exact ⟨0, k0, [], [], Nat.zero_le _, rfl, Nat.zero_le _, Nat.zero_le _, hk2, rfl, HRD, HMP, none, 0, none, 0, [], HAC⟩
    case round =>
      obtain ⟨j, m, ks, vs, hj, rfl, hkm, hvm, hml, hdm, hrd, hmp, kA, kC, lA, lC, ys, hac⟩ := hrel
      have HKR : Hid (Kp R w wr) := hac.out.kp HK0.out fun g hg => by
        rcases hg with e | e | e
        · exact .inl e
        · exact .inr (by omega)
        · exact .inr (by omega)
      by_cases hlt : j < n
      · obtain ⟨c, hc⟩ : ∃ c, n - j = c + 1 := ⟨n - j - 1, by omega⟩
        have hc2 : c = n - (j + 1) := by omega
        have hju := u64_step hlt hn64
        by_cases hu : (utx (l.drop m)).2.2 = 0
        · obtain ⟨s, k1, hus⟩ : ∃ s k1, utx (l.drop m) = (s, k1, 0) := ⟨_, _, Prod.ext rfl (Prod.ext rfl hu)⟩
          have hui := utx_inv hu
          rw [hus] at hui
          simp only at hui
          obtain ⟨-, hk1p, hk1l, hss, -⟩ := hui
          have HT : Hid (Calls Try.prog 38 #[.pointer (some ⟨R, 0, none⟩)] wr fun e w' => e = .returned (.string s) ∧ Rd w' B R (l.drop (m + k1)) ∧ Kp R wr w') := by
            have := text_good R k1 s (l.drop m) wr hrd.out hus
            rw [List.drop_drop] at this
            exact Lib.hid this
          rw [List.length_drop] at hk1l
          have hkey : keyOf Try.prog 9 (.string s) = some (keyL s) := keyOf_string_mk Try.underlying9 (by unfold maxLen; omega)
          have hwr1 := hac.out.fr.size
          have HMK : Hid (∀ w2, Kp R wr w2 → w2.ownsMap Try.prog 9 unitElem (w.heap.size + 2) ks.length (Km ks)) := fun w2 hk => map_fr hmp.out (hk.block (map_lt hmp.out) (by omega))
          have hZ1 := HZ1.out
          by_cases hk : hasKey ks s = true
          · have hhas : Maps.has (Km ks) (keyL s) = true := by rw [Km_has]; exact hk
            have HPB : Hid (∀ w2, Kp R wr w2 → Post B R l w (decMany (dec d) 6 l n k0 [] []) (pan 22) w2) := fun w2 hk2 => by
              rw [hdm.out, hc, decMany_6_again hus hk]
              exact ⟨rfl, HKR.out.trans hk2⟩
            clear hus hk hu hdm hmp hac
            go_wp2_with (first
              | (go_at_call 38; refine HT.out.mono ?_; rintro e w2 ⟨rfl, hr2, hk2⟩; have hm2 := HMK.out w2 hk2)
              | (at_lookup; refine wpList_lookup_own_unit _ rfl _ _ 77 rfl 9 78 law9 Try.underlying77 (zero_unit _) (w.heap.size + 2) ks.length (Km ks) rfl hm2 _ (keyL s) rfl hkey ?_; rw [hhas]))
            exact ⟨rfl, HPB.out _ (hk2.trans (Kp.of (below_alloc _ _)))⟩
          · have hhas : Maps.has (Km ks) (keyL s) = false := by rw [Km_has]; exact Bool.eq_false_iff.2 hk
            have HA3F : Hid (∀ w2 w3 : World, Kp R wr w2 → (w2.alloc (.cells #[] 78)).grownBy w3 (some (w.heap.size + 2)) → Acc w1 (fun g => g = R ∨ g = w.heap.size + 1 ∨ g = w.heap.size + 2) (w.heap.size + 1) 6 ks vs w3 kA kC lA lC ys) := fun w2 w3 hk2 hg => by
              have a2 := hac.out.keep (N := (· = R)) hk2 fun g e => ⟨.inl e, by omega, by omega⟩
              refine a2.keep (N := (· = w.heap.size + 2)) ⟨hg.os, hg.tape, hg.output, by have := hg.size; simp at this; omega, fun b hb => ?_⟩ fun g e => ⟨.inr (.inr e), by omega, by omega⟩
              rw [hg.block b (by simp; omega) (by intro e; injection e with e; exact hb.2 e), Below.heap_alloc _ _ _ hb.1]
            have HC5 : Hid (∀ w3 w5 : World, Acc w1 (fun g => g = R ∨ g = w.heap.size + 1 ∨ g = w.heap.size + 2) (w.heap.size + 1) 6 ks vs w3 kA kC lA lC ys → (w3.alloc (.cells #[.string s] 9)).grownBy w5 (Value.slice kA ks.length kC).ownBlock → w5.cell? ⟨w.heap.size + 1, 3, none⟩ = some (.slice kA ks.length kC) ∧ w5.frozen? ⟨w.heap.size + 1, 3, none⟩ = false) := fun w3 w5 ha hg => by
              have h1 := Array.getElem?_eq_some_iff.1 ha.row |>.1
              have h2 : w5.heap[w.heap.size + 1]? = _ := (hg.block _ (by simp; omega) (fun e => by have := (ha.kown.lt _ e.symm).1; omega)).trans ((Below.heap_alloc _ _ _ h1).trans ha.row)
              exact ⟨by rw [cell_of_row w5 _ 3 _ _ _ h2]; rfl, by simp [World.frozen?, h2]⟩
            have hkl : ks.length ≤ 4194304 := by omega
            have hvl : vs.length ≤ 4194304 := by omega
            clear hu
            go_wp2_with (first
              | (go_at_call 38; refine HT.out.mono ?_; rintro e w2 ⟨rfl, hr2, hk2⟩; have hm2 := HMK.out w2 hk2)
              | (at_lookup; refine wpList_lookup_own_unit _ rfl _ _ 77 rfl 9 78 law9 Try.underlying77 (zero_unit _) (w.heap.size + 2) ks.length (Km ks) rfl hm2 _ (keyL s) rfl hkey ?_; rw [hhas])
              | (at_mapUpdate; refine wpList_mapUpdate_own _ rfl _ _ _ 77 rfl 9 78 law9 Try.underlying77 unitElem (w.heap.size + 2) ks.length (Km ks) rfl ?hm (by unfold maxLen; omega) _ _ _ rfl rfl hkey _ [] unitElem_mk ?_; (case hm => exact map_fr hm2 (Below.heap_alloc _ _ _ (map_lt hm2))); intro w3 hown3 hgrow3; have HA3 := Lib.hid (HA3F.out w2 w3 hk2 hgrow3); obtain ⟨q0, q1, q2, q3, q4, qf⟩ := HA3.out.cells; have qf3 := qf 3)
              | (at_builtin; refine wpList_append_lies _ rfl _ _ 22 (by rfl) w1.heap.size 9 i1 _ 1 16 Try.underlying22 hi1 hz1 hs1 hb1 rfl (by decide) (.slice kA ks.length kC) ks.length (ks.map Value.string) (by rfl) ?ko ⟨w3.heap.size, 0, none⟩ 1 1 [.string s] (by rfl) rfl (World.news_of_block (hp_new rfl)) (by simp [Value.oneCell']) (by decide) ?k1 ?k2 ?k3 (w3.heap.size + 1) ?k4 ?_; (case ko => exact own_any HA3.out.kown fun b hb => Below.heap_alloc _ _ _ (HA3.out.kown.lt b hb).2); (case k1 => unfold maxLen; omega); (case k2 => omega); (case k3 => have := HA3.out.fr.size; simp; omega); (case k4 => simp); intro g5 cap5 w5 hown5 hgrow5 hat5 hlt5; obtain ⟨y3, yf3⟩ := HC5.out _ _ HA3.out hgrow5))
            have HA6 := Lib.hid (HA3.out.key hown5 hgrow5 hat5)
            have HF6 : Hid (Fr (fun b => b < w3.heap.size ∧ b < w1.heap.size ∧ b ≠ w.heap.size + 1) w3 (w5.setCell ⟨w.heap.size + 1, 3, none⟩ (.slice (some ⟨g5, 0, none⟩) (ks.length + 1) cap5))) := by
              refine Lib.hid ⟨hgrow5.os, hgrow5.tape, hgrow5.output, by have := hgrow5.size; simp [World.setCell] at *; omega, fun b hb => ?_⟩
              rw [Below.heap_setCell _ _ _ _ hb.2.2, hgrow5.block b (by simp; omega) (fun e => by have := (HA3.out.kown.lt b e.symm).1; omega), Below.heap_alloc _ _ _ hb.1]
            have HF3 : Hid (Fr (fun b => b < w2.heap.size ∧ b ≠ w.heap.size + 2) w2 w3) := by
              refine Lib.hid ⟨hgrow3.os, hgrow3.tape, hgrow3.output, by have := hgrow3.size; simp at this; omega, fun b hb => ?_⟩
              rw [hgrow3.block b (by simp; omega) (by intro e; injection e with e; exact hb.2 e), Below.heap_alloc _ _ _ hb.1]
            have hz2 := hk2.size
            have hz3 := HF3.out.size
            have HR6 := Lib.hid ((hr2.fr HF3.out ⟨by have := hr2.lt; omega, by omega⟩ fun g hg => ⟨by omega, by omega⟩).fr HF6.out ⟨by omega, by omega, by omega⟩ fun g hg => ⟨by omega, by omega, by omega⟩)
            have HM6 := Lib.hid (map_fr hown3 (HF6.out.block (w.heap.size + 2) ⟨by have := map_lt hown3; omega, by omega, by omega⟩))
            have HZ6 : Hid (wr.heap.size ≤ (w5.setCell ⟨w.heap.size + 1, 3, none⟩ (.slice (some ⟨g5, 0, none⟩) (ks.length + 1) cap5)).heap.size) := by have := HF6.out.size; exact Lib.hid (by omega)
            have HKW : Hid (Kp R w (w5.setCell ⟨w.heap.size + 1, 3, none⟩ (.slice (some ⟨g5, 0, none⟩) (ks.length + 1) cap5))) := HA6.out.kp HK0.out fun g hg => by
              rcases hg with e | e | e
              · exact .inl e
              · exact .inr (by omega)
              · exact .inr (by omega)
            clear hown5 hgrow5 hat5 hlt5 y3 yf3 HF6 HF3 q0 q1 q2 q3 q4 qf qf3 HA3 hown3 hgrow3 hm2 hr2 HC5 HA3F HMK HT hmp hac hz2 hz3
            generalize w5.setCell ⟨w.heap.size + 1, 3, none⟩ (.slice (some ⟨g5, 0, none⟩) (ks.length + 1) cap5) = w6 at *
            have hbw : B ≤ w6.drew.heap.size := Nat.le_trans hB HKW.out.size
            obtain ⟨s0, s1, s2, s3, s4, sf⟩ := HA6.out.cells
            have sf4 := sf 4
            have HV : Hid (Calls Try.prog 22 #[.pointer (some ⟨R, 0, none⟩), .int .i64 ((within : Int) + 1)] w6.drew fun e w' =>
                (∃ q, e = pan q ∧ dec d (l.drop (m + k1)) = .bad q ∧ Kp R w6 w') ∨ ∃ (v : V) (nn : Nat) (y : X), e = .returned y.v ∧ dec d (l.drop (m + k1)) = .good v nn ∧ IsP w' (fun g => w6.heap.size ≤ g ∧ g < w'.heap.size) v y ∧ Rd w' B R (l.drop (m + k1 + nn)) ∧ Kp R w6 w') := by
              have := HIH.out w6.drew (m + k1) (HR6.out.below (Below.refl _ _).drew) hbw
              refine Lib.hid (this.mono fun e w' h => ?_)
              cases hx : dec d (l.drop (m + k1)) with
              | bad q =>
                rw [hx] at h
                exact .inl ⟨q, h.1, rfl, (Kp.of (Below.refl _ _).drew).trans h.2⟩
              | good v nn =>
                rw [hx] at h
                obtain ⟨y, h1, h2, h3, h4⟩ := h
                rw [List.drop_drop] at h3
                exact .inr ⟨v, nn, y, h1, rfl, h2, h3, (Kp.of (Below.refl _ _).drew).trans h4⟩
            have HPB : Hid (∀ q w2, dec d (l.drop (m + k1)) = .bad q → Kp R w6 w2 → Post B R l w (decMany (dec d) 6 l n k0 [] []) (pan q) w2) := fun q w2 hx hk3 => by
              rw [hdm.out, hc, decMany_6_bad hus hk hx]
              exact ⟨rfl, HKW.out.trans hk3⟩
            have hwr6 := HA6.out.fr.size
            have HRR : Hid (R < w1.heap.size ∧ R ≠ w.heap.size + 1 ∧ w1.heap.size ≤ w6.heap.size) := Lib.hid ⟨by omega, by omega, hwr6⟩
            have HKEEP : Hid (∀ w2, Kp R w6 w2 → Acc w1 (fun g => g = R ∨ g = w.heap.size + 1 ∨ g = w.heap.size + 2) (w.heap.size + 1) 6 (ks ++ [s]) vs w2 (some ⟨g5, 0, none⟩) cap5 lA lC ys) := fun w2 hk3 => HA6.out.keep (N := (· = R)) hk3 fun g e => ⟨.inl e, by have := HRR.out; omega, by have := HRR.out; omega⟩
            have HOB : Hid (∀ b, (Value.slice lA vs.length lC).ownBlock = some b → w1.heap.size ≤ b ∧ b < w6.heap.size) := fun b hb => HA6.out.lown.lt b hb
            have HKB : Hid (∀ b, (Value.slice (some ⟨g5, 0, none⟩) (ks ++ [s]).length cap5).ownBlock = some b → b < w6.heap.size) := fun b hb => (HA6.out.kown.lt b hb).2
            have HCL : Hid (∀ w2 w' : World, Kp R w6 w2 → (∀ k, k < w2.heap.size → some k ≠ (Value.slice lA vs.length lC).ownBlock → w'.heap[k]? = w2.heap[k]?) → w'.cell? ⟨w.heap.size + 1, 4, none⟩ = some (.slice lA vs.length lC) ∧ w'.frozen? ⟨w.heap.size + 1, 4, none⟩ = false) := fun w2 w' hk3 hw => by
              have ha := HKEEP.out w2 hk3
              have h1 := (hw _ (Array.getElem?_eq_some_iff.1 ha.row).1 (fun e => by have := (HOB.out _ e.symm).1; omega)).trans ha.row
              exact ⟨by rw [cell_of_row w' _ 4 _ _ _ h1]; rfl, by simp [World.frozen?, h1]⟩
            have HST : Hid (∀ (w2 w3 : World) (v : V) (z : X) (g cap : Nat), Kp R w6 w2 → IsP w2 (fun g => w6.heap.size ≤ g ∧ g < w2.heap.size) v z → w3.ownsRow w1.heap.size 25 5 (.slice (some ⟨g, 0, none⟩) (vs.length + 1) cap) (vs.length + 1) (flat5 ys ++ z.cells.toList) →
                (w2.alloc (.cells z.cells 25)).grownBy w3 (Value.slice lA vs.length lC).ownBlock → ((Value.slice lA vs.length lC).ownBlock = some g ∨ g = w2.heap.size + 1) →
                Acc w1 (fun g => g = R ∨ g = w.heap.size + 1 ∨ g = w.heap.size + 2) (w.heap.size + 1) 6 (ks ++ [s]) (vs ++ [v]) (w3.setCell ⟨w.heap.size + 1, 4, none⟩ (.slice (some ⟨g, 0, none⟩) (vs.length + 1) cap)) (some ⟨g5, 0, none⟩) cap5 (some ⟨g, 0, none⟩) cap (ys ++ [z])) := fun w2 w3 v z g cap hk3 hz h3 hg hat =>
              (HKEEP.out w2 hk3).push HRR.out.2.2 HKB.out (fun b hb => (HOB.out b hb).2) hz h3 hg hat
            have HRW : Hid (∀ (w2 w3 : World) (u : Value), Kp R w6 w2 → w2.heap.size ≤ w3.heap.size → (∀ k, k < w2.heap.size → some k ≠ (Value.slice lA vs.length lC).ownBlock → w3.heap[k]? = w2.heap[k]?) → w3.os = w2.os ∧ w3.tape = w2.tape ∧ w3.output = w2.output →
                (∀ L, Rd w2 B R L → Rd (w3.setCell ⟨w.heap.size + 1, 4, none⟩ u) B R L) ∧ (w3.setCell ⟨w.heap.size + 1, 4, none⟩ u).ownsMap Try.prog 9 unitElem (w.heap.size + 2) (ks.length + 1) (Km (ks ++ [s]))) := fun w2 w3 u hk3 hs hw ho => by
              have hfr : Fr (fun k => k < w1.heap.size ∧ k ≠ w.heap.size + 1) w2 (w3.setCell ⟨w.heap.size + 1, 4, none⟩ u) := ⟨ho.1, ho.2.1, ho.2.2, by simpa [World.setCell] using hs, fun k hk2 => by
                rw [Below.heap_setCell _ _ _ _ hk2.2]
                refine hw k (by have := hk3.size; have := HRR.out; omega) fun e => ?_
                have := (HOB.out k e.symm).1
                omega⟩
              refine ⟨fun L hr => hr.fr hfr ⟨HRR.out.1, HRR.out.2.1⟩ fun g hg => ⟨by omega, by omega⟩, ?_⟩
              rw [Km_snoc]
              exact map_fr HM6.out ((hfr.block (w.heap.size + 2) ⟨by omega, by omega⟩).trans (hk3.block (map_lt HM6.out) (by omega)))
            have HOW := Lib.hid fun w2 (hk3 : Kp R w6 w2) => (HKEEP.out w2 hk3).lown
            have HUS := Lib.hid hus
            have HNK := Lib.hid hk
            clear s0 s1 s2 s3 sf hwr1 hwr6 hbw hhas hkey hus hk HA6 HM6
            go_region_law
              ((first
                | (go_simp; go_at_call 22; refine HV.out.mono ?_; rintro e wv (⟨q, rfl, hx, hkp⟩ | ⟨v, nn, ⟨zk, zn, zs, zka, zkn, zkc, zla, zln, zlc⟩, rfl, hx, hz, hrv, hkp⟩); (exact ⟨rfl, HPB.out _ _ hx hkp⟩); (simp only [X.v]);
                   obtain ⟨s42, sf42⟩ := HCL.out wv wv hkp (fun _ _ _ => rfl); have s43 : (wv.alloc (.cells #[.int .i64 zk, .int .i64 zn, .string zs, .slice zka zkn zkc, .slice zla zln zlc] 25)).cell? ⟨w.heap.size + 1, 4, none⟩ = some (.slice lA vs.length lC) := old_alloc s42; have HHK := Lib.hid hkp; have HHX := Lib.hid hx; have HHR := Lib.hid hrv; have HZZ := Lib.hid hz; clear hz hrv hx hkp)
                | (refine step_push5 rfl _ _ (by rfl) i5 hi5 hz5 hs5 hb5 wv w1.heap.size lA vs.length lC _ (by rfl) (HOW.out _ HHK.out) ?b1 ?b2 wv.heap.size ⟨zk, zn, zs, zka, zkn, zkc, zla, zln, zlc⟩ (by rfl) ?b3 hvl (wv.heap.size + 1) ?b4 _ (fun w' hw => HCL.out wv w' HHK.out hw) ?_ ?b5; (case b1 => have := HHK.out.size; have := HRR.out; simp; omega); (case b2 => intro k hk; rw [Below.heap_alloc _ _ _ hk]); (case b3 => exact hp_new rfl); (case b4 => simp); (case b5 => simp); rintro g' cap' w8 ⟨f1, f2⟩ hown8 hgrow8 hat8 hlt8)))
            all_goals
              have hgd := right_good HHX.out
              have HN := Lib.hid (HST.out _ _ v _ _ _ HHK.out HZZ.out hown8 hgrow8 hat8)
              have HR8 := HRW.out wv w8 (.slice (some ⟨g', 0, none⟩) (vs.length + 1) cap') HHK.out (by have := hgrow8.size; simp at this; omega) (fun k hk hne => (hgrow8.block k (by simp; omega) hne).trans (Below.heap_alloc _ _ _ hk)) ⟨hgrow8.os, hgrow8.tape, hgrow8.output⟩
              have HR3 := Lib.hid (HR8.1 _ HHR.out)
              have HM8 := Lib.hid HR8.2
              have HDM : Hid (decMany (dec d) 6 l n k0 [] [] = decMany (dec d) 6 l (n - (j + 1)) (m + k1 + nn) (ks ++ [s]) (vs ++ [v])) := by
                rw [hdm.out, hc, decMany_6_good HUS.out HNK.out HHX.out, hc2]
                exact Lib.hid rfl
              rw [List.length_drop] at hgd
              clear hown8 hgrow8 hat8 hlt8 f1 f2 HST HRW HOW HCL HKEEP HHK HZZ HHR HHX s42 s43 sf42 s4 sf4 HV HPB hdm HR8
              generalize w8.setCell ⟨w.heap.size + 1, 4, none⟩ (.slice (some ⟨g', 0, none⟩) (vs.length + 1) cap') = w9 at *
              go_wp2_with fail
              go_roundw
              case rel => exact ⟨j + 1, m + k1 + nn, ks ++ [s], vs ++ [v], by omega, by go_num, by simp; omega, by simp; omega, by omega, HDM, HR3, by rw [List.length_append]; exact HM8, _, _, _, _, _, HN⟩
              case measure => simp [intOf]; omega
        · have HT := Lib.hid (text_bad R (utx (l.drop m)).2.2 (l.drop m) wr hrd.out rfl hu)
          have HPB : Hid (∀ w2, Kp R wr w2 → Post B R l w (decMany (dec d) 6 l n k0 [] []) (pan (utx (l.drop m)).2.2) w2) := fun w2 hk => by
            rw [hdm.out, hc, decMany_6_text hu]
            exact ⟨rfl, HKR.out.trans hk⟩
          generalize (utx (l.drop m)).2.2 = q at *
          go_wp2_with fail
          refine HT.out.mono ?_
          rintro e w2 ⟨rfl, hk⟩
          go_wp2_with fail
          exact ⟨rfl, HPB.out _ hk⟩
      · obtain rfl : j = n := by omega
        have HDM : Hid (decMany (dec d) 6 l j k0 [] [] = .good (.mk 6 0 ⟨#[]⟩ ks vs) m) := by
          rw [hdm.out, Nat.sub_self]
          exact Lib.hid rfl
        obtain ⟨s0, s1, s2, s3, s4, -⟩ := hac.out.cells
        have hzr : wr.heap[w.heap.size]? = some zrow := (hac.out.fr.block _ ⟨by have := HZ1.out; omega, fun e => by rcases e with e | e | e <;> omega⟩).trans HRO.out
        obtain ⟨t0, t1, t2, t3, t4, t5⟩ := zrow_cells hzr
        have f0 := t5 0
        have f1 := t5 1
        have f2 := t5 2
        have f3 := t5 3
        have f4 := t5 4
        have HDN := Lib.hid hac.out.done
        have hzr' := Lib.hid hzr
        have HS1 := Lib.hid hac.out.fr.size
        clear t5 hzr hac hdm
        go_wp2_with fail
        have hfr := put5_fr wr w.heap.size 0 ⟨6, 0, ⟨#[]⟩, kA, ks.length, kC, lA, vs.length, lC⟩
        have hrow : (put5 wr w.heap.size 0 ⟨6, 0, ⟨#[]⟩, kA, ks.length, kC, lA, vs.length, lC⟩).heap[w.heap.size]? = some (.cells #[.int .i64 6, .int .i64 0, .string ⟨#[]⟩, .slice kA ks.length kC, .slice lA vs.length lC] 25 (0, 0)) := put5_row hzr'.out _
        rw [← put5_lit]
        refine bodyPost_ret (results_cell_row rfl _ _ w.heap.size 25 _ (0, 0) _ rfl hrow Try.underlying25 rfl (by rw [hi5]; simp [hs5])) rfl ?_
        rw [HDM.out]
        refine ⟨⟨6, 0, ⟨#[]⟩, kA, ks.length, kC, lA, vs.length, lC⟩, rfl, IsP.fr (hfr.mono fun q hq => by have := HZ1.out; show q ≠ w.heap.size; omega) (fun q hq => ⟨by have := HZ1.out; omega, Nat.lt_of_lt_of_le hq.2 hfr.size⟩) _ _ HDN.out, hrd.out.fr hfr (by show R ≠ w.heap.size; omega) (fun g hg => by show g ≠ w.heap.size; omega), Fr.trans HKR.out (hfr.mono fun q hq => by have := hq.1; show q ≠ w.heap.size; omega)⟩
  · have hbad := rd_bad0 he
    have hr : O.rd 0 0 l = (0, 0, (O.rd 0 0 l).2.2) := Prod.ext hbad.1 (Prod.ext hbad.2 rfl)
    have hD : decAll (dec d) 6 l = .bad (O.rd 0 0 l).2.2 := by
      unfold decAll
      rw [if_pos he]
    rw [hD]
    exact record_bad0 R _ l w within h hr ((rd_err l).resolve_left he)
end
end Go.Proofs.Ytnkknlhdbhfjlaa
